import random
import unittest

from skyapart.foreign import near_reach, reach
from skyapart.path import Path
from tests.samples import line_chart, random_chart, random_route, small_rules
from tests.test_plane import exact_square

# Near in the plane is less than 50 + 3 + 10 = 63 at the tick of the sighting, and 5 more in each later one;
# in height the bounds are 10 + 2 + 3, and 2 more in each later tick.
RULES = small_rules(lateral=50, radius=3, radar=10, foreign=5, vertical=10, band=2, height=3, climb=2)


class ReachTest(unittest.TestCase):
    def test_at_its_own_tick(self):
        self.assertEqual(reach(RULES, (7, -8, 100, 30), 30), (10, 97, 103))
        self.assertEqual(reach(RULES, (7, -8, 1, 30), 30), (10, -2, 4))

    def test_later(self):
        self.assertEqual(reach(RULES, (7, -8, 100, 30), 31), (15, 95, 105))
        self.assertEqual(reach(RULES, (7, -8, 100, 30), 40), (60, 77, 123))

    def test_rules(self):
        rules = small_rules(radar=0, foreign=0, height=0, climb=0)
        self.assertEqual(reach(rules, (0, 0, 5, 3), 90), (0, 5, 5))
        rules = small_rules(radar=1, foreign=100, height=2, climb=1000)
        self.assertEqual(reach(rules, (0, 0, 5, 3), 5), (201, -1997, 2007))

    def test_foreign_aircraft_stay_in_reach(self):
        chance = random.Random(1)
        for _ in range(100):
            x, y, z = [chance.randint(-100, 100) for _ in range(3)]
            plot = (x + chance.randint(-7, 7), y + chance.randint(-7, 7), z + chance.randint(-3, 3))
            for tick in range(20, 40):
                radius, lower, upper = reach(RULES, (*plot, 20), tick)
                self.assertLessEqual((x - plot[0]) ** 2 + (y - plot[1]) ** 2, radius ** 2)
                self.assertTrue(lower <= z <= upper)
                x, y, z = x + chance.randint(-3, 3), y + chance.randint(-4, 4), z + chance.randint(-2, 2)


class NearReachTest(unittest.TestCase):
    def check(self, expected, box, sighting, tick=0, path=None, rules=RULES):
        path = path or Path(line_chart(0, 1000), ("A", "B"))
        self.assertIs(near_reach(rules, path, box, sighting, tick), expected)

    def test_distance(self):
        self.check(True, (0, 100, 30, 30), (162, 0, 30, 0))
        self.check(False, (0, 100, 30, 30), (163, 0, 30, 0))
        self.check(True, (50, 100, 30, 30), (-12, 0, 30, 0))
        self.check(False, (50, 100, 30, 30), (-13, 0, 30, 0))
        self.check(True, (50, 100, 30, 30), (70, 62, 30, 0))
        self.check(False, (50, 100, 30, 30), (70, -63, 30, 0))

    def test_later_ticks(self):
        for later in range(8):
            self.check(True, (0, 100, 30, 30), (162 + 5 * later, 0, 30, 9), 9 + later)
            self.check(False, (0, 100, 30, 30), (163 + 5 * later, 0, 30, 9), 9 + later)

    def test_rules_of_the_distance(self):
        for name in ("lateral", "radius", "radar"):
            rules = small_rules(**{**RULES, name: RULES[name] + 7})
            self.check(True, (0, 100, 30, 30), (169, 0, 30, 0), rules=rules)
            self.check(False, (0, 100, 30, 30), (170, 0, 30, 0), rules=rules)

    def test_heights(self):
        # The lower height is z - 3: too high if it is at least 30 + 2 + 10.
        self.check(True, (0, 100, 20, 30), (50, 0, 44, 0))
        self.check(False, (0, 100, 20, 30), (50, 0, 45, 0))
        # The upper height is z + 3: too low if it is at most 20 - 2 - 10.
        self.check(True, (0, 100, 20, 30), (50, 0, 6, 0))
        self.check(False, (0, 100, 20, 30), (50, 0, 5, 0))
        self.check(True, (0, 100, 20, 30), (50, 0, 25, 0))

    def test_heights_later(self):
        for later in range(8):
            self.check(True, (0, 100, 20, 30), (50, 0, 44 + 2 * later, 9), 9 + later)
            self.check(False, (0, 100, 20, 30), (50, 0, 45 + 2 * later, 9), 9 + later)
            self.check(True, (0, 100, 20, 30), (50, 0, 6 - 2 * later, 9), 9 + later)
            self.check(False, (0, 100, 20, 30), (50, 0, 5 - 2 * later, 9), 9 + later)

    def test_rules_of_the_heights(self):
        for name in ("vertical", "band", "height"):
            rules = small_rules(**{**RULES, name: RULES[name] + 4})
            self.check(True, (0, 100, 20, 30), (50, 0, 48, 0), rules=rules)
            self.check(False, (0, 100, 20, 30), (50, 0, 49, 0), rules=rules)
            self.check(True, (0, 100, 20, 30), (50, 0, 2, 0), rules=rules)
            self.check(False, (0, 100, 20, 30), (50, 0, 1, 0), rules=rules)

    def test_empty_piece(self):
        self.check(False, (-50, -1, 30, 30), (0, 0, 30, 0))
        self.check(True, (-50, 0, 30, 30), (0, 0, 30, 0))
        self.check(False, (1000, 1100, 30, 30), (1000, 0, 30, 0))
        self.check(True, (999, 1100, 30, 30), (1000, 0, 30, 0))

    def test_several_legs(self):
        chart = line_chart(0, 100, 200)
        chart["fixes"]["C"] = (100, 100)
        path = Path(chart, ("A", "B", "C"))
        self.check(True, (0, 200, 30, 30), (100, 162, 30, 0), path=path)
        self.check(False, (0, 199, 30, 30), (100, 162, 30, 0), path=path)
        self.check(True, (50, 120, 30, 30), (38, 40, 30, 0), path=path)

    def test_random(self):
        chance = random.Random(2)
        seen = {True: 0, False: 0}
        for seed in range(150):
            chart = random_chart(seed, spread=80)
            path = Path(chart, random_route(chance, chart, most=6))
            for _ in range(8):
                low, down = chance.randint(-20, path.total() + 5), chance.randint(0, 60)
                box = (low, low + chance.randint(0, 60), down, down + chance.randint(0, 10))
                sighting = (chance.randint(-130, 130), chance.randint(-130, 130), chance.randint(0, 70), 4)
                tick = chance.randint(4, 12)
                radius, lower, upper = reach(RULES, sighting, tick)
                x, y = sighting[:2]
                piece = path.piece(*box[:2])
                near = any(exact_square(part, (x, y, x, y, 1)) < (50 + 3 + radius) ** 2 for part in piece)
                high = any(abs(own - other) < 10 for own in range(box[2] - 2, box[3] + 3)
                           for other in range(lower, upper + 1))
                seen[near and high] += 1
                self.check(near and high, box, sighting, tick, path)
        self.assertGreater(min(seen.values()), 200, seen)


if __name__ == "__main__":
    unittest.main()
