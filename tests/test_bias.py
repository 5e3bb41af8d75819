"""Points 70 and 71: estimates of offsets, and plots without them."""
import copy
import random
import unittest
from fractions import Fraction

from skyapart.bias import corrected, narrowed
from skyapart.path import Path
from tests.samples import plain_chart, random_chart, random_route, small_rules

# The bound m of point 70 is 10 + 3.
RULES = small_rules(radar=10, radius=3)
WIDE = (-1000, 1000, -1000, 1000)


def path_of(*points):
    """Return the path over points, which are fixes."""
    names = "ABCDEFGH"[:len(points)]
    legs = [(one, other, "S", 0, 600) for one, other in zip(names, names[1:])]
    return Path(plain_chart(dict(zip(names, points)), legs), tuple(names))


def plain_narrowed(rules, estimate, path, box, plot):
    """Narrow an estimate by a look at each of its numbers."""
    bound = rules["radar"] + rules["radius"]
    line = path.piece(box[0], box[1])
    found = []
    for axis in (0, 1):
        ends = [Fraction(segment[axis + k], segment[4]) for segment in line for k in (0, 2)]
        least, most = plot[axis] - bound - max(ends), plot[axis] + bound - min(ends)
        numbers = [number for number in range(estimate[2 * axis], estimate[2 * axis + 1] + 1) if least <= number <= most]
        if not numbers:
            return None
        found += [numbers[0], numbers[-1]]
    return tuple(found)


class NarrowedTest(unittest.TestCase):
    def check(self, expected, estimate, path, box, plot, rules=RULES):
        before = copy.deepcopy((rules, estimate, box, plot))
        self.assertEqual(narrowed(rules, estimate, path, box, plot), expected)
        self.assertEqual((rules, estimate, box, plot), before)
        self.assertEqual(plain_narrowed(rules, estimate, path, box, plot), expected)

    def test_one_point(self):
        # The aircraft is at (40, 0); the plot says (100, 7).
        path = path_of((0, 0), (100, 0))
        self.check((47, 73, -6, 20), WIDE, path, (40, 40, 5, 9), (100, 7, 300))

    def test_part_of_a_leg(self):
        path = path_of((0, 0), (100, 0))
        self.check((27, 93, -6, 20), WIDE, path, (20, 60, 5, 9), (100, 7, 0))

    def test_height_does_not_matter(self):
        path = path_of((0, 0), (100, 0))
        for z in (-5000, 0, 7, 5000):
            for down, up in ((0, 0), (5, 9), (100, 600)):
                self.check((47, 73, -6, 20), WIDE, path, (40, 40, down, up), (100, 7, z))

    def test_several_legs(self):
        # Up and to the right, then back to the left.
        path = path_of((0, 0), (100, 0), (100, 100), (-50, 100))
        self.check((-113, 63, -63, 63), WIDE, path, (50, 350, 0, 0), (0, 50, 0))
        # From (50, 0) to (100, 0), (100, 100) and (80, 100): x from 50 to 100, y from 0 to 100.
        self.check((-13 - 100, 13 - 50, -113, 13), WIDE, path, (50, 220, 0, 0), (0, 0, 0))
        # The extreme places may lie within the piece and not at its ends.
        path = path_of((0, 0), (100, 50), (0, 100))
        self.check((-13 - 100, 13, -113, 13), WIDE, path, (0, 224, 0, 0), (0, 0, 0))
        path = path_of((0, 0), (-100, -50), (0, -100))
        self.check((-13, 113, -13, 113), WIDE, path, (0, 224, 0, 0), (0, 0, 0))

    def test_beyond_the_ends_of_the_path(self):
        path = path_of((10, 0), (110, 0))
        self.check((-33, 3, -13, 13), WIDE, path, (-500, 10, 0, 0), (0, 0, 0))
        self.check((-123, -87, -13, 13), WIDE, path, (90, 9999, 0, 0), (0, 0, 0))
        self.check((-23, 3, -13, 13), WIDE, path, (-5, 0, 0, 0), (0, 0, 0))

    def test_places_that_are_not_whole(self):
        # The leg of the length 3 from (0, 0) to (2, 1): at 1 is the point (2 / 3, 1 / 3), at 2 (4 / 3, 2 / 3).
        path = path_of((0, 0), (2, 1))
        self.assertEqual(path.piece(1, 1), [(2, 1, 2, 1, 3)])
        # ox from 0 - 13 - 2 / 3 to 0 + 13 - 2 / 3: whole from -13 to 12.
        self.check((-13, 12, -13, 12), WIDE, path, (1, 1, 0, 0), (0, 0, 0))
        # From 1 to 2: ox from -13 - 4 / 3 to 13 - 2 / 3, oy from -13 - 2 / 3 to 13 - 1 / 3.
        self.check((-14, 12, -13, 12), WIDE, path, (1, 2, 0, 0), (0, 0, 0))
        self.check((-14, 13, -13, 13), WIDE, path, (0, 2, 0, 0), (0, 0, 0))

    def test_places_below_0_that_are_not_whole(self):
        path = path_of((0, 0), (-2, -1))
        # At (-2 / 3, -1 / 3): ox from -13 + 2 / 3 to 13 + 2 / 3.
        self.check((-12, 13, -12, 13), WIDE, path, (1, 1, 0, 0), (0, 0, 0))
        # From (-2 / 3, ..) to (-4 / 3, ..): ox from -13 + 2 / 3 to 13 + 4 / 3, oy from -13 + 1 / 3 to 13 + 2 / 3.
        self.check((-12, 14, -12, 13), WIDE, path, (1, 2, 0, 0), (0, 0, 0))
        path = path_of((-1, 1), (1, -2))
        for low in range(4):
            for high in range(low, 4):
                for x in (-5, 0, 5):
                    box, plot = (low, high, 0, 0), (x, -x, 0)
                    self.check(plain_narrowed(RULES, WIDE, path, box, plot), WIDE, path, box, plot)

    def test_estimate_that_is_cut(self):
        path = path_of((0, 0), (100, 0))
        box, plot = (40, 40, 0, 0), (100, 7, 0)
        # What the plot allows is (47, 73, -6, 20).
        for estimate, expected in (
            ((0, 100, 0, 100), (47, 73, 0, 20)),
            ((50, 60, 0, 10), (50, 60, 0, 10)),
            ((47, 73, -6, 20), (47, 73, -6, 20)),
            ((48, 72, -5, 19), (48, 72, -5, 19)),
            ((46, 74, -7, 21), (47, 73, -6, 20)),
            ((60, 100, -100, 0), (60, 73, -6, 0)),
            ((0, 50, 10, 99), (47, 50, 10, 20)),
            ((0, 47, 20, 99), (47, 47, 20, 20)),
            ((73, 99, -99, -6), (73, 73, -6, -6)),
            ((55, 55, 3, 3), (55, 55, 3, 3)),
        ):
            self.check(expected, estimate, path, box, plot)

    def test_no_such_numbers(self):
        path = path_of((0, 0), (100, 0))
        box, plot = (40, 40, 0, 0), (100, 7, 0)
        for estimate in ((0, 46, 0, 9), (74, 99, 0, 9), (50, 60, -99, -7), (50, 60, 21, 99), (0, 46, 21, 99),
                         (46, 46, 0, 0), (47, 47, 21, 21)):
            self.check(None, estimate, path, box, plot)

    def test_bounds_of_the_rules(self):
        path = path_of((0, 0), (100, 0))
        for radar, radius in ((0, 0), (10, 0), (0, 3), (7, 5)):
            bound = radar + radius
            self.check((60 - bound, 60 + bound, 7 - bound, 7 + bound), WIDE, path, (40, 40, 0, 0), (100, 7, 0),
                       small_rules(radar=radar, radius=radius))

    def test_no_whole_number_at_all(self):
        # Without any error the plot would have to be at (2 / 3, 1 / 3) plus a whole offset.
        path = path_of((0, 0), (2, 1))
        rules = small_rules(radar=0, radius=0)
        self.check(None, WIDE, path, (1, 1, 0, 0), (5, 5, 0), rules)
        self.check((5, 5, 5, 5), WIDE, path, (0, 0, 0, 0), (5, 5, 0), rules)

    def test_random(self):
        chance, none = random.Random(1), 0
        for seed in range(60):
            chart = random_chart(seed)
            path = Path(chart, random_route(chance, chart, most=6))
            for _ in range(10):
                low = chance.randint(-20, path.total() - 1)
                high = chance.randint(max(low, 0), path.total() + 20)
                rules = small_rules(radar=chance.randint(0, 12), radius=chance.randint(0, 4))
                offset = (chance.randint(-30, 30), chance.randint(-30, 30))
                px, py, d = path.place(chance.randint(max(low, 0), min(high, path.total())))
                spread = chance.choice((8, 80))
                plot = tuple(p // d + o + chance.randint(-spread, spread) for p, o in zip((px, py), offset)) + (0,)
                estimate = (offset[0] - chance.randint(0, 20), offset[0] + chance.randint(0, 20),
                            offset[1] - chance.randint(0, 40), offset[1] + chance.randint(0, 40))
                expected = plain_narrowed(rules, estimate, path, (low, high, 0, 0), plot)
                none += expected is None
                self.check(expected, estimate, path, (low, high, 0, 0), plot, rules)
        self.assertGreater(none, 20)
        self.assertLess(none, 500)

    def test_offset_stays_in_it(self):
        """What is promised: the offset of a radar whose plots are true but for it is never cut off."""
        chance = random.Random(2)
        for seed in range(60):
            chart = random_chart(seed, spread=400)
            path = Path(chart, random_route(chance, chart, most=5))
            offset, estimate = (chance.randint(-90, 90), chance.randint(-90, 90)), (-100, 100, -100, 100)
            for _ in range(30):
                progress = chance.randint(0, path.total() - 1)
                box = (progress - chance.randint(0, 30), progress + chance.randint(0, 30), 0, 0)
                x, y, d = path.place(progress)
                # A true place at most 3 away, and a whole plot at most 10 away from it.
                place = (Fraction(x, d) + chance.choice((-3, 0, 3)), Fraction(y, d))
                plot = (round(place[0]) + chance.randint(-6, 6), round(place[1]) + chance.randint(-6, 6))
                error = (plot[0] - place[0]) ** 2 + (plot[1] - place[1]) ** 2
                self.assertLessEqual(error, 100)
                estimate = narrowed(RULES, estimate, path, box, (plot[0] + offset[0], plot[1] + offset[1], 50))
                x1, x2, y1, y2 = estimate
                self.assertTrue(x1 <= offset[0] <= x2 and y1 <= offset[1] <= y2)
            self.assertLess(x2 - x1, 100)


class CorrectedTest(unittest.TestCase):
    def check(self, plot, error, estimate, told, rules=RULES):
        before = copy.deepcopy(rules)
        self.assertEqual(corrected(rules, estimate, told), (plot, error))
        self.assertEqual(rules, before)

    def test_known_offset(self):
        self.check((95, 13, 50), 10, (5, 5, -6, -6), (100, 7, 50))
        self.check((100, 7, 50), 10, (0, 0, 0, 0), (100, 7, 50))

    def test_middle(self):
        # The middle of 0 and 8 is 4, and at most 4 away; that of 0 and 6 is 3.
        self.check((96, 4, 50), 15, (0, 8, 0, 6), (100, 7, 50))
        self.check((96, 7, 50), 14, (0, 8, 0, 0), (100, 7, 50))
        self.check((100, 4, 50), 13, (0, 0, 0, 6), (100, 7, 50))

    def test_odd_width(self):
        # The middle of 0 and 7 is 3, with 4 up to 7; that of 0 and 1 is 0, with 1 up to 1.
        self.check((97, 7, 50), 14, (0, 7, 0, 0), (100, 7, 50))
        self.check((100, 7, 50), 11, (0, 1, 0, 0), (100, 7, 50))
        self.check((100, 7, 50), 11, (0, 0, 0, 1), (100, 7, 50))
        # The root of 2 is rounded up.
        self.check((100, 7, 50), 12, (0, 1, 0, 1), (100, 7, 50))

    def test_below_0(self):
        # The middle of -7 and 0 is -4, with 4 up to 0; that of -1 and 0 is -1.
        self.check((104, 7, 50), 14, (-7, 0, 0, 0), (100, 7, 50))
        self.check((101, 8, 50), 12, (-1, 0, -1, 0), (100, 7, 50))
        self.check((104, 10, 50), 15, (-8, 0, -6, 0), (100, 7, 50))
        self.check((111, 7, 50), 13, (-14, -9, 0, 0), (99, 7, 50))

    def test_root(self):
        self.check((0, 0, 0), 10 + 6, (-4, 4, -4, 4), (0, 0, 0))
        self.check((0, 0, 0), 10 + 13, (-5, 5, -12, 12), (0, 0, 0))
        self.check((0, 0, 0), 10 + 14, (-5, 5, -13, 13), (0, 0, 0))

    def test_radar(self):
        for radar in (0, 3, 24):
            self.check((0, 0, 7), radar + 5, (-3, 3, -4, 4), (0, 0, 7), small_rules(radar=radar, radius=9, lateral=99))

    def test_error_is_enough(self):
        chance = random.Random(1)
        for _ in range(300):
            x1, y1 = chance.randint(-60, 60), chance.randint(-60, 60)
            x2, y2 = x1 + chance.randint(0, 40), y1 + chance.randint(0, 40)
            (x, y, z), error = corrected(RULES, (x1, x2, y1, y2), (1000, -1000, 77))
            self.assertEqual(z, 77)
            worst = max((1000 - ox - x) ** 2 + (-1000 - oy - y) ** 2 for ox in (x1, x2) for oy in (y1, y2))
            self.assertGreaterEqual((error - 10) ** 2, worst)
            self.assertLess((max(error - 11, 0)) ** 2, worst + (worst == 0))
            # No other whole place has a lesser worst distance in one coordinate.
            self.assertLessEqual(max(1000 - x1 - x, x - 1000 + x2), (x2 - x1 + 1) // 2)


if __name__ == "__main__":
    unittest.main()
