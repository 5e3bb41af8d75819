import copy
import random
import unittest

from skyapart.path import Path
from skyapart.probe import probe
from skyapart.separation import first_conflict, separated
from tests.samples import line_chart, plain_chart, random_chart, random_route, random_track, small_rules
from tests.test_plane import exact_square

# Apart are 10 + 2 * 2 levels, or a distance of 50 + 2 * 3.
RULES = small_rules(lateral=50, radius=3, vertical=10, band=2)


def parallel(distance, length=1000):
    """Return two paths side by side."""
    chart = plain_chart({"A": (0, 0), "B": (length, 0), "C": (0, distance), "D": (length, distance)},
                        [("A", "B", "S", 0, 600), ("C", "D", "S", 0, 600)])
    return Path(chart, ("A", "B")), Path(chart, ("C", "D"))


def opposite(length=1000):
    """Return the paths there and back between two fixes."""
    chart = line_chart(0, length)
    chart["legs"].append(("B", "A", "S", 0, 600))
    return Path(chart, ("A", "B")), Path(chart, ("B", "A"))


def flight(path, tick, bounds, level=30):
    return path, tick, [(low, high, level, level) for low, high in bounds]


def steady(path, tick, speed, level=30, begin=0):
    """Return the track of an aircraft without any doubt."""
    return flight(path, tick, [(at, at) for at in range(begin, path.total(), speed)], level)


class Case(unittest.TestCase):
    def conflict(self, rules, one, other, expected):
        before = copy.deepcopy((one[1:], other[1:], rules))
        for first, second in ((one, other), (other, one)):
            self.assertEqual(first_conflict(rules, first, second), expected)
            self.assertEqual(probe(rules, first, second), expected)
        self.assertEqual((one[1:], other[1:], rules), before)


class SeparatedTest(unittest.TestCase):
    def check(self, expected, path, box, other_path, other_box, rules=RULES):
        self.assertIs(separated(rules, path, box, other_path, other_box), expected)
        self.assertIs(separated(rules, other_path, other_box, path, box), expected)

    def test_empty_pieces(self):
        path, other = parallel(1)
        self.check(True, path, (-9, -1, 30, 30), other, (0, 0, 30, 30))
        self.check(False, path, (-9, 0, 30, 30), other, (0, 0, 30, 30))
        self.check(True, path, (1000, 1010, 30, 30), other, (999, 999, 30, 30))
        self.check(False, path, (999, 1010, 30, 30), other, (999, 999, 30, 30))
        self.check(True, path, (-9, -1, 30, 30), other, (-9, -1, 30, 30))

    def test_levels(self):
        path, other = parallel(1)
        self.check(True, path, (0, 9, 30, 40), other, (0, 9, 54, 60))
        self.check(False, path, (0, 9, 30, 40), other, (0, 9, 53, 60))
        self.check(True, path, (0, 9, 30, 30), other, (0, 9, 44, 44))
        self.check(False, path, (0, 9, 30, 30), other, (0, 9, 43, 43))
        self.check(False, path, (0, 9, 0, 100), other, (0, 9, 50, 50))

    def test_vertical_and_band(self):
        path, other = parallel(1)
        for vertical, band in ((1, 0), (7, 0), (7, 5), (600, 100)):
            rules = small_rules(vertical=vertical, band=band)
            apart = vertical + 2 * band
            self.check(True, path, (0, 9, 5, 5), other, (0, 9, 5 + apart, 5 + apart), rules)
            self.check(False, path, (0, 9, 5, 5), other, (0, 9, 4 + apart, 5 + apart), rules)

    def test_distances(self):
        for distance, expected in ((55, False), (56, True), (57, True), (-56, True), (-55, False)):
            path, other = parallel(distance)
            self.check(expected, path, (0, 500, 30, 30), other, (100, 200, 30, 30))
        path, other = opposite()
        self.check(True, path, (0, 100, 30, 30), other, (0, 844, 30, 30))
        self.check(False, path, (0, 100, 30, 30), other, (0, 845, 30, 30))

    def test_lateral_and_radius(self):
        for lateral, radius in ((1, 0), (20, 0), (20, 7), (100000, 10000)):
            rules = small_rules(lateral=lateral, radius=radius, radar=0)
            path, other = parallel(lateral + 2 * radius)
            self.check(True, path, (0, 500, 30, 30), other, (100, 200, 30, 30), rules)
            path, other = parallel(lateral + 2 * radius - 1)
            self.check(False, path, (0, 500, 30, 30), other, (100, 200, 30, 30), rules)

    def test_just_less(self):
        # The second path runs from (0, 56 + 1) towards (100000, 55): at 50000 its distance is 56, behind it less.
        chart = plain_chart({"A": (0, 0), "B": (100000, 0), "C": (0, 57), "D": (100000, 55)},
                            [("A", "B", "S", 0, 600), ("C", "D", "S", 0, 600)])
        path, other = Path(chart, ("A", "B")), Path(chart, ("C", "D"))
        self.assertEqual(other.total(), 100001)
        self.check(True, path, (0, 100000, 30, 30), other, (0, 50000, 30, 30))
        self.check(False, path, (0, 100000, 30, 30), other, (0, 50001, 30, 30))

    def test_one_choice_is_enough(self):
        path, other = parallel(1)
        far, near = parallel(500)
        self.check(True, path, (0, 9, 30, 30), other, (0, 9, 99, 99))
        self.check(True, far, (0, 9, 30, 30), near, (0, 9, 30, 30))
        self.check(True, path, (-2, -1, 30, 30), other, (0, 9, 30, 30))

    def test_random(self):
        chance = random.Random(3)
        seen = {True: 0, False: 0}
        for seed in range(400):
            tracks = [random_track(chance, random_chart(seed, spread=150), RULES) for _ in range(2)]
            if None in tracks:
                continue
            (path, _, boxes), (other, _, other_boxes) = tracks
            for _ in range(5):
                box, other_box = chance.choice(boxes), chance.choice(other_boxes)
                pieces = path.piece(*box[:2]), other.piece(*other_box[:2])
                levels = max(box[2] - other_box[3], other_box[2] - box[3])
                near = any(exact_square(one, two) < 56 * 56 for one in pieces[0] for two in pieces[1])
                expected = levels >= 14 or not near
                seen[expected] += 1
                self.check(expected, path, box, other, other_box)
        self.assertGreater(min(seen.values()), 100)


class FirstConflictTest(Case):
    def test_towards_each_other(self):
        path, other = opposite()
        # Their distance is 1000 - 20 * t: 60 at the tick 47, and 40 at the tick 48.
        self.conflict(RULES, steady(path, 0, 10), steady(other, 0, 10), 48)
        self.conflict(RULES, steady(path, 100, 10), steady(other, 100, 10), 148)
        self.conflict(small_rules(lateral=54, radius=3), steady(path, 0, 10), steady(other, 0, 10), 48)
        self.conflict(small_rules(lateral=55, radius=3), steady(path, 0, 10), steady(other, 0, 10), 47)

    def test_levels_apart(self):
        path, other = opposite()
        self.conflict(RULES, steady(path, 0, 10), steady(other, 0, 10, 44), None)
        self.conflict(RULES, steady(path, 0, 10), steady(other, 0, 10, 43), 48)

    def test_side_by_side(self):
        path, other = parallel(56)
        self.conflict(RULES, steady(path, 3, 10), steady(other, 3, 10), None)
        path, other = parallel(55)
        self.conflict(RULES, steady(path, 3, 10), steady(other, 3, 10), 3)

    def test_begin_at_different_ticks(self):
        path, other = parallel(10)
        # The later one begins when the earlier one is 10 * 4 ahead; then it is 10 * 6 ahead.
        self.conflict(RULES, steady(path, 3, 10), steady(other, 7, 10), 7)
        self.conflict(RULES, steady(path, 3, 10), steady(other, 9, 10), None)
        # The faster one behind is nearer by 10 in each tick.
        self.conflict(RULES, steady(path, 0, 10), steady(other, 40, 20), 75)

    def test_no_tick_in_common(self):
        path, other = parallel(10)
        one = flight(path, 5, [(0, 9), (5, 14)])
        self.conflict(RULES, one, flight(other, 7, [(0, 9), (5, 14)]), None)
        self.conflict(RULES, one, flight(other, 3, [(0, 9), (5, 14)]), None)
        self.conflict(RULES, one, flight(other, 900, [(0, 9)]), None)
        self.conflict(RULES, one, flight(other, 5, []), None)
        self.conflict(RULES, flight(path, 5, []), flight(other, 5, []), None)

    def test_first_or_last_common_tick(self):
        path, other = parallel(10)
        one = flight(path, 5, [(0, 0), (5, 5), (10, 10), (15, 15)])
        self.conflict(RULES, one, flight(other, 8, [(0, 0)]), 8)
        self.conflict(RULES, one, flight(other, 8, [(0, 0), (1, 1)]), 8)
        self.conflict(RULES, one, flight(other, 2, [(0, 0), (1, 1), (2, 2), (3, 3)]), 5)
        self.conflict(RULES, one, flight(other, 7, [(0, 0), (1, 1)]), 7)
        late = flight(path, 5, [(300, 300), (310, 310), (320, 320), (400, 400)])
        self.conflict(RULES, late, flight(other, 0, [(0, 1)] * 8 + [(300, 500)]), 8)
        self.conflict(RULES, late, flight(other, 0, [(0, 1)] * 9 + [(300, 500)]), None)

    def test_only_the_first_tick(self):
        path, other = opposite()
        one = flight(path, 0, [(0, 0), (100, 100), (200, 200), (300, 300)])
        crossing = flight(other, 0, [(0, 0), (899, 901), (902, 902), (999, 999)])
        self.conflict(RULES, one, crossing, 1)

    def test_one_not_yet_entered(self):
        path, other = parallel(10)
        waiting = flight(path, 0, [(-30, -20), (-20, -10), (-10, -1), (0, 9)])
        self.conflict(RULES, waiting, flight(other, 0, [(0, 0), (1, 1), (2, 2), (3, 3)]), 3)
        self.conflict(RULES, waiting, flight(other, 0, [(0, 0), (1, 1), (2, 2)]), None)


class ProbeTest(Case):
    def compare(self, seeds, spread, speed, **rules):
        """Compare both functions on random tracks, and return how many conflicts there were at which ticks."""
        rules = small_rules(**rules)
        ticks = []
        for seed in seeds:
            chance = random.Random(seed)
            chart = random_chart(seed, spread=spread)
            one, other = (random_track(chance, chart, rules, speed) for _ in range(2))
            if one is None or other is None:
                continue
            found = first_conflict(rules, one, other)
            self.conflict(rules, one, other, found)
            ticks.append(None if found is None else found - max(one[1], other[1]))
        self.assertGreater(len(ticks), len(seeds) // 8)
        self.assertGreater(ticks.count(None), 4)
        self.assertGreater(len([tick for tick in ticks if tick]), 4)
        return ticks

    def test_random(self):
        self.compare(range(300), 400, 40)

    def test_slow_ones(self):
        self.compare(range(1000, 1250), 100, 4, lateral=8, radius=0, radar=1, slip=0)

    def test_fast_ones(self):
        self.compare(range(2000, 2300), 2000, 900, lateral=300)

    def test_long_legs(self):
        self.compare(range(3000, 3300), 50000, 9000, lateral=3000)

    def test_levels_alone(self):
        self.compare(range(4000, 4250), 100, 40, lateral=100, vertical=3, band=1, height=1)

    def test_boxes_that_grow(self):
        self.compare(range(5000, 5300), 2000, 200, lateral=200, slip=9)

    def test_jump_over_the_path_of_the_other_one(self):
        # One goes by 400 in a tick and is near for one tick only.
        chart = plain_chart({"A": (0, 0), "B": (10000, 0), "C": (4010, -900), "D": (4010, 900)},
                            [("A", "B", "S", 0, 600), ("C", "D", "S", 0, 600)])
        fast, slow = Path(chart, ("A", "B")), Path(chart, ("C", "D"))
        self.conflict(RULES, steady(fast, 0, 400), steady(slow, 0, 90), 10)
        self.conflict(RULES, steady(fast, 0, 400), steady(slow, 0, 80), None)
        self.conflict(RULES, steady(fast, 0, 400), steady(slow, 0, 86), 10)

    def test_front_that_runs_ahead_of_its_low(self):
        path, other = opposite()
        growing = flight(path, 0, [(0, 0), (1, 2), (2, 4), (3, 900), (4, 2000)])
        self.conflict(RULES, growing, flight(other, 0, [(0, 0), (1, 1), (2, 2), (3, 3), (4, 4)]), 4)
        self.conflict(RULES, growing, flight(other, 0, [(0, 0), (1, 1), (2, 2), (44, 44), (45, 45)]), 4)
        self.conflict(RULES, growing, flight(other, 0, [(0, 0), (1, 1), (2, 2), (45, 45), (46, 46)]), 3)

    def test_boxes_that_go_back(self):
        path, other = parallel(10)
        back = flight(path, 0, [(900, 900), (800, 900), (400, 900), (60, 900), (50, 900), (0, 900)])
        self.conflict(RULES, back, flight(other, 0, [(0, 0)] * 6), 4)
        self.conflict(RULES, back, flight(other, 0, [(-50, 0)] * 6), 4)
        self.conflict(RULES, flight(path, 0, [(300, 900), (-300, 900)]), flight(other, 0, [(0, 0)] * 2), 1)

    def test_boxes_in_any_order(self):
        # No tube has such boxes, but what is left out does not depend on this.
        chance = random.Random(6)
        found = []
        for seed in range(150):
            chart = random_chart(seed, spread=400)
            tracks = []
            for _ in range(2):
                path = Path(chart, random_route(chance, chart, most=5))
                bounds = [sorted(chance.randint(-100, path.total() + 50) for _ in range(2)) for _ in range(8)]
                tracks.append(flight(path, chance.randint(0, 3), [(low, min(high, low + 60)) for low, high in bounds]))
            found.append(first_conflict(RULES, *tracks))
            self.conflict(RULES, *tracks, found[-1])
        self.assertGreater(len([tick for tick in found if tick]), 30)
        self.assertGreater(found.count(None), 10)

    def test_front_beyond_the_total(self):
        # The path ends far from the other one: its front does not get nearer beyond the total.
        path, other = parallel(500, 100)
        one = flight(path, 0, [(0, 99), (1, 100), (2, 5000), (3, 10000), (4, 20000)])
        self.conflict(RULES, one, flight(other, 0, [(0, 0), (1, 1), (2, 2), (3, 3), (4, 4)]), None)


if __name__ == "__main__":
    unittest.main()
