import random
import unittest

from skyapart.path import Path
from skyapart.radar import fitted
from tests.samples import line_chart, plain_chart, random_chart, random_route, small_rules

# A plot is at most 10 + 3 away from the place, and 3 + 2 from the level.
RULES = small_rules(radar=10, radius=3, height=3, band=2)


def line_path(*xs):
    chart = line_chart(*xs)
    return Path(chart, tuple(sorted(chart["fixes"])))


def plain_fitted(rules, path, box, plot):
    """Return the fitted box by a look at each progress."""
    low, high, down, up = box
    x, y, z = plot
    reach, doubt = rules["radar"] + rules["radius"], rules["height"] + rules["band"]
    near = []
    for progress in range(max(low, 0), min(high, path.total() - 1) + 1):
        px, py, d = path.place(progress)
        if (px - x * d) ** 2 + (py - y * d) ** 2 <= (reach * d) ** 2:
            near.append(progress)
    levels = [level for level in range(down, up + 1) if abs(level - z) <= doubt]
    return (near[0], near[-1], levels[0], levels[-1]) if near and levels else None


class FittedTest(unittest.TestCase):
    def check(self, expected, path, box, plot, rules=RULES):
        self.assertEqual(fitted(rules, path, box, plot), expected)
        self.assertEqual(plain_fitted(rules, path, box, plot), expected)

    def test_both_ends(self):
        path = line_path(0, 1000)
        self.check((87, 113, 30, 30), path, (0, 999, 30, 30), (100, 0, 30))
        self.check((90, 113, 30, 30), path, (90, 999, 30, 30), (100, 0, 30))
        self.check((87, 110, 30, 30), path, (0, 110, 30, 30), (100, 0, 30))
        self.check((100, 100, 30, 30), path, (100, 100, 30, 30), (100, 0, 30))

    def test_at_the_distance_and_just_beyond(self):
        path = line_path(0, 1000)
        self.check((100, 100, 30, 30), path, (0, 999, 30, 30), (100, 13, 30))
        self.check((100, 100, 30, 30), path, (0, 999, 30, 30), (100, -13, 30))
        self.check(None, path, (0, 999, 30, 30), (100, 14, 30))
        self.check((95, 105, 30, 30), path, (0, 999, 30, 30), (100, 12, 30))
        self.check((13, 13, 30, 30), path, (0, 13, 30, 30), (26, 0, 30))
        self.check(None, path, (0, 12, 30, 30), (26, 0, 30))
        self.check((39, 39, 30, 30), path, (39, 50, 30, 30), (26, 0, 30))
        self.check(None, path, (40, 50, 30, 30), (26, 0, 30))

    def test_just_beyond_by_a_fraction(self):
        # The leg is 1 longer than the way between its ends, so the places are a little less than whole numbers.
        chart = plain_chart({"A": (0, 0), "B": (1000, 1)}, [("A", "B", "S", 0, 600)])
        path = Path(chart, ("A", "B"))
        self.assertEqual(path.total(), 1001)
        for x in range(-14, 1020, 47):
            for y in range(-13, 15):
                plot = (x, y, 30)
                self.check(plain_fitted(RULES, path, (0, 1000, 30, 30), plot), path, (0, 1000, 30, 30), plot)

    def test_radar_and_radius(self):
        path = line_path(0, 1000)
        for radar, radius in ((0, 0), (4, 0), (0, 4), (3, 9)):
            reach = radar + radius
            rules = small_rules(radar=radar, radius=radius)
            self.check((50 - reach, 50 + reach, 30, 30), path, (0, 999, 30, 30), (50, 0, 30), rules)
            self.check((50, 50, 30, 30), path, (0, 999, 30, 30), (50, reach, 30), rules)
            self.check(None, path, (0, 999, 30, 30), (50, reach + 1, 30), rules)

    def test_shortest_leg(self):
        path, rules = line_path(0, 1), small_rules(radar=0, radius=0)
        self.check((0, 0, 30, 30), path, (0, 1, 30, 30), (0, 0, 30), rules)
        self.check(None, path, (0, 1, 30, 30), (0, 1, 30), rules)
        self.check(None, path, (0, 1, 30, 30), (1, 0, 30), rules)

    def test_below_0(self):
        path = line_path(0, 1000)
        self.check((0, 13, 30, 30), path, (-50, 40, 30, 30), (0, 0, 30))
        self.check((0, 3, 30, 30), path, (-50, 40, 30, 30), (-10, 0, 30))
        self.check((0, 0, 30, 30), path, (-50, 0, 30, 30), (0, 0, 30))
        self.check(None, path, (-50, -1, 30, 30), (0, 0, 30))
        self.check(None, path, (-50, 40, 30, 30), (-14, 0, 30))

    def test_beyond_the_total(self):
        path = line_path(0, 1000)
        self.check((987, 999, 30, 30), path, (900, 1500, 30, 30), (1000, 0, 30))
        self.check((999, 999, 30, 30), path, (999, 1500, 30, 30), (1000, 0, 30))
        self.check(None, path, (1000, 1500, 30, 30), (1000, 0, 30))
        self.check(None, path, (900, 1500, 30, 30), (1013, 0, 30))
        self.check((999, 999, 30, 30), path, (900, 1500, 30, 30), (1012, 0, 30))

    def test_several_legs(self):
        path = line_path(0, 100, 200, 300)
        self.check((92, 118, 30, 30), path, (0, 299, 30, 30), (105, 0, 30))
        self.check((100, 110, 30, 30), path, (0, 110, 30, 30), (112, 5, 30))
        self.check((100, 124, 30, 30), path, (0, 299, 30, 30), (112, 5, 30))

    def test_gap_between_the_places_that_fit(self):
        # There and back: the way passes the plot twice.
        chart = line_chart(0, 500)
        chart["legs"].append(("B", "A", "S", 0, 600))
        path = Path(chart, ("A", "B", "A"))
        self.check((87, 913, 30, 30), path, (0, 999, 30, 30), (100, 0, 30))
        self.check((95, 913, 30, 30), path, (95, 999, 30, 30), (100, 0, 30))
        self.check((887, 900, 30, 30), path, (114, 900, 30, 30), (100, 0, 30))
        self.check(None, path, (114, 886, 30, 30), (100, 0, 30))

    def test_levels(self):
        path = line_path(0, 1000)
        self.check((87, 113, 25, 35), path, (0, 999, 0, 600), (100, 0, 30))
        self.check((87, 113, 28, 33), path, (0, 999, 28, 33), (100, 0, 30))
        self.check((87, 113, 35, 35), path, (0, 999, 35, 50), (100, 0, 30))
        self.check(None, path, (0, 999, 36, 50), (100, 0, 30))
        self.check((87, 113, 25, 25), path, (0, 999, 10, 25), (100, 0, 30))
        self.check(None, path, (0, 999, 10, 24), (100, 0, 30))

    def test_height_and_band(self):
        path = line_path(0, 1000)
        for height, band in ((0, 0), (2, 0), (0, 2), (4, 3)):
            doubt = height + band
            rules = small_rules(height=height, band=band)
            self.check((87, 113, 30 - doubt, 30 + doubt), path, (0, 999, 0, 600), (100, 0, 30), rules)

    def test_many_thousands(self):
        path = line_path(-100000, 0, 100000)
        self.assertEqual(fitted(RULES, path, (-10 ** 9, 10 ** 9, 0, 600), (3, 12, 30)), (99998, 100008, 25, 35))
        self.assertEqual(fitted(RULES, path, (5, 199990, 0, 600), (99995, 0, 30)), (199982, 199990, 25, 35))
        rules = small_rules(radar=10000, radius=10000)
        self.assertEqual(fitted(rules, path, (5, 199990, 0, 600), (0, 16000, 30)), (88000, 112000, 25, 35))
        self.assertIsNone(fitted(rules, path, (5, 199990, 0, 600), (0, 20001, 30)))
        chart = plain_chart({"A": (-99999, -100000), "B": (100000, 99998)}, [("A", "B", "S", 0, 600)])
        path = Path(chart, ("A", "B"))
        for plot in ((-40000, -40011, 5), (17, 3, 5), (70001, 70015, 5)):
            low, high, down, up = fitted(RULES, path, (0, path.total(), 0, 9), plot)
            around = (low - 60, high + 60, 0, 9)
            self.assertEqual((low, high, down, up), plain_fitted(RULES, path, around, plot))

    def test_random(self):
        chance = random.Random(4)
        fits = 0
        for seed in range(150):
            chart = random_chart(seed, spread=chance.choice((5, 40)))
            path = Path(chart, random_route(chance, chart, most=8))
            rules = small_rules(radar=chance.randint(0, 10), radius=chance.randint(0, 5), height=chance.randint(0, 3))
            for _ in range(12):
                low = chance.randint(-9, path.total() + 3)
                down = chance.randint(0, 20)
                box = (low, low + chance.randint(0, 200), down, down + chance.randint(0, 9))
                x, y, d = path.place(min(max(chance.randint(low, box[1]), 0), path.total()))
                plot = (x // d + chance.randint(-15, 15), y // d + chance.randint(-15, 15), down + chance.randint(-9, 9))
                expected = plain_fitted(rules, path, box, plot)
                fits += expected is not None
                self.assertEqual(fitted(rules, path, box, plot), expected)
        self.assertTrue(300 < fits < 1500, fits)

    def test_true_plot_keeps_the_aircraft(self):
        # Point 31: a plot within the errors of an aircraft within its bounds fits, and keeps it in the box.
        chance = random.Random(5)
        for seed in range(60):
            chart = random_chart(seed, spread=60)
            path = Path(chart, random_route(chance, chart, most=5))
            for _ in range(10):
                at, level = chance.randint(0, path.total() - 1), chance.randint(0, 600)
                box = (at - chance.randint(0, 90), at + chance.randint(0, 90), level - 9, level + 4)
                x, y, d = path.place(at)
                # Whole numbers at most 3 + 10 * 10 // 14 away in each coordinate stay within reach.
                plot = (x // d + chance.randint(-5, 5), y // d + chance.randint(-5, 5), level + chance.randint(-5, 5))
                low, high, down, up = fitted(RULES, path, box, plot)
                self.assertTrue(max(box[0], 0) <= low <= at <= high <= min(box[1], path.total() - 1))
                self.assertTrue(box[2] <= down <= level <= up <= box[3])


if __name__ == "__main__":
    unittest.main()
