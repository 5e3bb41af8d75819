import random
import unittest
from fractions import Fraction

from skyapart.zone import is_zone, touches

SQUARE = ((0, 0), (10, 0), (10, 10), (0, 10))
OCTAGON = ((1, 0), (2, 0), (3, 1), (3, 2), (2, 3), (1, 3), (0, 2), (0, 1))
# Nine points on a parabola are convex: only their number is wrong.
PARABOLA = tuple((x, x * x) for x in range(9))
STAR = ((0, 10), (-6, -8), (10, 3), (-10, 3), (6, -8))


def clipped(zone, segment):
    """Tell whether some part of the segment is left of all edges, by cutting it edge by edge."""
    ax, ay, bx, by, d = segment
    start, end = (Fraction(ax, d), Fraction(ay, d)), (Fraction(bx, d), Fraction(by, d))
    low, high = Fraction(0), Fraction(1)
    for (px, py), (qx, qy) in zip(zone, zone[1:] + zone[:1]):
        at_start = (qx - px) * (start[1] - py) - (qy - py) * (start[0] - px)
        at_end = (qx - px) * (end[1] - py) - (qy - py) * (end[0] - px)
        if at_start < 0 and at_end < 0:
            return False
        if at_start < 0:
            low = max(low, at_start / (at_start - at_end))
        elif at_end < 0:
            high = min(high, at_start / (at_start - at_end))
    return low <= high


class IsZoneTest(unittest.TestCase):
    def test_zones(self):
        for points in (SQUARE, OCTAGON, ((0, 0), (5, 1), (2, 9)), PARABOLA[:8], PARABOLA[:3]):
            for shift in range(len(points)):
                self.assertIs(is_zone(points[shift:] + points[:shift]), True, points)

    def test_number_of_points(self):
        self.assertIs(is_zone(()), False)
        self.assertIs(is_zone(((0, 0),)), False)
        self.assertIs(is_zone(((0, 0), (5, 5))), False)
        self.assertIs(is_zone(PARABOLA), False)

    def test_reversed(self):
        for points in (SQUARE, OCTAGON, ((0, 0), (5, 1), (2, 9))):
            self.assertIs(is_zone(points[::-1]), False)

    def test_on_a_straight_line(self):
        self.assertIs(is_zone(((0, 0), (5, 0), (10, 0))), False)
        self.assertIs(is_zone(((0, 0), (5, 0), (10, 0), (10, 10))), False)
        self.assertIs(is_zone(((5, 0), (10, 0), (10, 10), (0, 0))), False)
        self.assertIs(is_zone(((0, 0), (10, 0), (10, 10), (5, 5))), False)

    def test_repeated_corner(self):
        self.assertIs(is_zone(((0, 0), (10, 0), (10, 10), (10, 10))), False)
        self.assertIs(is_zone(((0, 0), (10, 0), (10, 10), (0, 0))), False)
        self.assertIs(is_zone(((0, 0), (0, 0), (0, 0))), False)
        self.assertIs(is_zone(SQUARE + SQUARE), False)

    def test_not_convex(self):
        self.assertIs(is_zone(((0, 0), (10, 0), (4, 4), (0, 10))), False)
        self.assertIs(is_zone(((0, 0), (10, 10), (10, 0), (0, 10))), False)

    def test_star_turns_left_only(self):
        for first, second, third in zip(STAR, STAR[1:] + STAR[:1], STAR[2:] + STAR[:2]):
            turn = (second[0] - first[0]) * (third[1] - first[1]) - (second[1] - first[1]) * (third[0] - first[0])
            self.assertGreater(turn, 0)
        self.assertIs(is_zone(STAR), False)

    def test_large(self):
        far = 10 ** 20
        self.assertIs(is_zone(((0, 0), (far, far), (2 * far - 1, 2 * far))), True)
        self.assertIs(is_zone(((0, 0), (far, far), (2 * far, 2 * far))), False)
        self.assertIs(is_zone(((0, 0), (far, far), (2 * far, 2 * far - 1))), False)


class TouchesTest(unittest.TestCase):
    def check(self, segment, expected):
        ax, ay, bx, by, d = segment
        for shift in range(len(SQUARE)):
            zone = SQUARE[shift:] + SQUARE[:shift]
            self.assertIs(touches(zone, segment), expected, segment)
            self.assertIs(touches(zone, (bx, by, ax, ay, d)), expected, segment)
            self.assertIs(touches(zone, (3 * ax, 3 * ay, 3 * bx, 3 * by, 3 * d)), expected, segment)

    def test_within(self):
        self.check((2, 2, 8, 7, 1), True)
        self.check((5, 5, 5, 5, 1), True)
        self.check((1, 1, 199, 199, 20), True)

    def test_through(self):
        self.check((-5, 5, 15, 5, 1), True)
        self.check((5, 5, 25, 5, 1), True)
        self.check((-5, 3, 3, -5, 1), False)
        self.check((-1, 9, 2, 12, 1), True)

    def test_border(self):
        self.check((10, 3, 20, 3, 1), True)
        self.check((10, -5, 10, 25, 1), True)
        self.check((10, 3, 10, 3, 1), True)
        self.check((12, 0, 20, 0, 1), False)
        self.check((21, -50, 21, 50, 2), False)

    def test_corner(self):
        self.check((5, 15, 15, 5, 1), True)
        self.check((10, 10, 20, 20, 1), True)
        self.check((10, 10, 10, 10, 1), True)
        self.check((11, 10, 20, 20, 1), False)

    def test_just_outside(self):
        self.check((501, 1500, 1501, 500, 100), False)
        self.check((499, 1500, 1499, 500, 100), True)
        self.check((101, 50, 200, 50, 10), False)
        self.check((101, 101, 101, 101, 10), False)
        self.check((-1, -1, -1, -1, 1000), False)
        self.check((-20, 5, -1, 5, 1), False)

    def test_random(self):
        chance = random.Random(2)
        seen = {True: 0, False: 0}
        for _ in range(4000):
            zone = chance.choice((SQUARE, OCTAGON, ((0, 0), (5, 1), (2, 9)), ((-3, -2), (9, 0), (-2, 1))))
            d = chance.randint(1, 5)
            segment = (*(chance.randint(-6 * d, 14 * d) for _ in range(4)), d)
            expected = clipped(zone, segment)
            seen[expected] += 1
            self.assertIs(touches(zone, segment), expected, (zone, segment))
        self.assertGreater(min(seen.values()), 500)


if __name__ == "__main__":
    unittest.main()
