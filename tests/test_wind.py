import random
import unittest
from fractions import Fraction
from math import floor

from skyapart.wind import step_bounds, wind_at


class WindAtTest(unittest.TestCase):
    winds = [(0, 1, 2, 3), (10, 4, 5, 6), (11, 7, 8, 9), (50, 0, 0, 0)]

    def test_ticks(self):
        for tick, index in (
            (0, 0), (1, 0), (9, 0), (10, 1), (11, 2), (12, 2), (49, 2), (50, 3), (51, 3), (100000, 3), (100300, 3),
        ):
            self.assertEqual(wind_at(self.winds, tick), self.winds[index], tick)

    def test_one_wind(self):
        for tick in (0, 1, 100000):
            self.assertEqual(wind_at([(0, -5, 7, 1)], tick), (0, -5, 7, 1))

    def test_eight_winds(self):
        winds = [(3 * index, index, -index, 0) for index in range(8)]
        for tick in range(40):
            self.assertEqual(wind_at(winds, tick), winds[min(tick // 3, 7)])
        self.assertEqual(winds, [(3 * index, index, -index, 0) for index in range(8)])


class StepBoundsTest(unittest.TestCase):
    def test_example(self):
        self.assertEqual(step_bounds((30, 40, 50), 10, 1, (0, 5, 0, 1)), (10, 15))

    def test_calm(self):
        self.assertEqual(step_bounds((30, 40, 50), 10, 0, (7, 0, 0, 0)), (10, 10))
        self.assertEqual(step_bounds((30, 40, 50), 10, 3, (7, 0, 0, 0)), (7, 13))

    def test_rounds_down(self):
        # -(5 * 30) // 40 is -4, and not -3; 150 // 40 is 3.
        self.assertEqual(step_bounds((30, 0, 40), 10, 0, (0, -5, 0, 0)), (6, 6))
        self.assertEqual(step_bounds((30, 0, 40), 10, 0, (0, 5, 0, 0)), (13, 13))
        self.assertEqual(step_bounds((-1, 0, 7), 10, 0, (0, 1, 0, 0)), (9, 9))
        self.assertEqual(step_bounds((-1, 0, 7), 10, 0, (0, -1, 0, 0)), (10, 10))
        # The error is within the division: (1 - 2) // 7 and (1 + 2) // 7.
        self.assertEqual(step_bounds((1, 0, 7), 10, 0, (0, 1, 0, 2)), (9, 10))

    def test_errors_on_negative_vectors(self):
        self.assertEqual(step_bounds((-30, -40, 50), 10, 0, (0, 0, 0, 5)), (3, 17))
        self.assertEqual(step_bounds((-30, 40, 50), 10, 0, (0, 0, 0, 5)), (3, 17))
        self.assertEqual(step_bounds((30, -40, 50), 10, 2, (0, 3, 2, 5)), (1, 19))

    def test_can_be_negative(self):
        self.assertEqual(step_bounds((30, 40, 50), 10, 1, (0, -100, 0, 0)), (-51, -49))

    def test_random(self):
        chance = random.Random(4)
        for _ in range(500):
            dx, dy, length = chance.randint(-50, 50), chance.randint(-50, 50), chance.randint(1, 80)
            speed, slip = chance.randint(1, 60), chance.randint(0, 9)
            wx, wy, error = chance.randint(-30, 30), chance.randint(-30, 30), chance.randint(0, 9)
            shift = error * (abs(dx) + abs(dy))
            self.assertEqual(step_bounds((dx, dy, length), speed, slip, (5, wx, wy, error)), (
                speed - slip + floor(Fraction(wx * dx + wy * dy - shift, length)),
                speed + slip + floor(Fraction(wx * dx + wy * dy + shift, length)),
            ))


if __name__ == "__main__":
    unittest.main()
