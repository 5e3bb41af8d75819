import copy
import random
import unittest

from skyapart.courses import changed, next_box, target, tube, window
from skyapart.errors import CourseError
from skyapart.path import Path
from tests.samples import line_chart, random_chart, random_route, small_rules

CALM = [(0, 0, 0, 0)]
KIND = (1, 1, 1000, 1, 3)
LEVELS = ((0, 600), (100, 300), (120, 120), (0, 110), (200, 400))


def level_chart(*ranges):
    """Return a chart with legs of the length 100 in one line, with these ranges of levels."""
    chart = line_chart(*range(0, 100 * len(ranges) + 1, 100))
    chart["legs"] = [(*leg[:3], low, high) for leg, (low, high) in zip(chart["legs"], ranges)]
    return chart


def path_of(chart):
    return Path(chart, tuple(sorted(chart["fixes"])))


def plain_target(chart, route, level, index):
    """Return the target as point 21 tells it."""
    legs = {(leg[0], leg[1]): leg for leg in chart["legs"]}
    for at in (index, index + 1):
        if at < len(route) - 1:
            _, _, _, low, high = legs[route[at], route[at + 1]]
            level = low if level < low else high if level > high else level
    return level


def plain_next(chart, path, course, kind, rules, winds, tick, box):
    """Return the next box by a look at each progress, level and number."""
    _, wx, wy, error = [wind for wind in winds if wind[0] <= tick][-1]
    lows, highs, levels, indexes = [], [], [], set()
    count = len(course[0]) - 1
    for progress in range(box[0], box[1] + 1):
        index = 0
        while index + 1 < count and progress >= path.begin(index + 1):
            index += 1
        indexes.add(index)
        dx, dy, length = path.vector(index)
        push, doubt = wx * dx + wy * dy, error * (abs(dx) + abs(dy))
        lows.append(progress + course[1] - rules["slip"] + (push - doubt) // length)
        highs.append(progress + course[1] + rules["slip"] + (push + doubt) // length)
    for index in indexes:
        aim = plain_target(chart, course[0], course[2], index)
        for level in range(box[2], box[3] + 1):
            for step in range(kind[3], kind[4] + 1):
                if level < aim:
                    levels.append(min(level + step, aim))
                else:
                    levels.append(max(level - step, aim))
    return min(lows), max(highs), min(levels), max(levels)


class TargetTest(unittest.TestCase):
    def targets(self, level, *ranges):
        chart = level_chart(*ranges)
        path = path_of(chart)
        return [target(path, (path.route(), 10, level), index) for index in range(len(ranges))]

    def test_on_one_leg(self):
        for level, expected in ((99, 100), (100, 100), (101, 101), (299, 299), (300, 300), (301, 300), (0, 100)):
            self.assertEqual(self.targets(level, (100, 300)), [expected])

    def test_next_leg_counts(self):
        self.assertEqual(self.targets(50, (0, 600), (100, 300)), [100, 100])
        self.assertEqual(self.targets(400, (0, 600), (100, 300)), [300, 300])
        self.assertEqual(self.targets(200, (0, 600), (100, 300)), [200, 200])
        self.assertEqual(self.targets(50, (100, 300), (0, 600)), [100, 50])
        self.assertEqual(self.targets(400, (100, 300), (0, 600)), [300, 400])

    def test_own_leg_first_then_the_next_one(self):
        # On the first leg, 500 becomes 200, which is below the low of the next one.
        self.assertEqual(self.targets(500, (0, 200), (250, 400)), [250, 400])
        self.assertEqual(self.targets(5, (250, 400), (0, 200)), [200, 5])

    def test_only_the_next_leg_counts(self):
        self.assertEqual(self.targets(50, (0, 600), (0, 600), (100, 300)), [50, 100, 100])
        self.assertEqual(self.targets(500, (0, 600), (0, 600), (100, 300), (0, 600)), [500, 300, 300, 500])

    def test_random(self):
        chance = random.Random(1)
        for seed in range(80):
            chart = random_chart(seed, levels=LEVELS)
            route = random_route(chance, chart)
            path = Path(chart, route)
            for level in (0, 105, 120, 250, 350, 600):
                for index in range(len(route) - 1):
                    self.assertEqual(target(path, (route, 9, level), index), plain_target(chart, route, level, index))


class NextBoxTest(unittest.TestCase):
    def next(self, chart, box, speed=10, level=30, winds=CALM, tick=0, kind=KIND, **rules):
        path = path_of(chart)
        course = (path.route(), speed, level)
        return next_box(path, course, kind, small_rules(**{"slip": 0, **rules}), winds, tick, box)

    def test_one_leg(self):
        chart = line_chart(0, 1000)
        self.assertEqual(self.next(chart, (5, 9, 30, 30)), (15, 19, 30, 30))
        self.assertEqual(self.next(chart, (5, 9, 30, 30), slip=2), (13, 21, 30, 30))
        self.assertEqual(self.next(chart, (5, 9, 30, 30), winds=[(0, -3, 50, 1)]), (11, 17, 30, 30))

    def test_example(self):
        # The wind turns nothing here: the second leg runs against it.
        chart = line_chart(0, 100, 200)
        chart["fixes"]["C"] = (0, 0)
        winds = [(0, 4, 0, 0)]
        self.assertEqual(self.next(chart, (95, 100, 30, 30), speed=6, winds=winds), (102, 109, 30, 30))
        self.assertEqual(self.next(chart, (95, 99, 30, 30), speed=6, winds=winds), (105, 109, 30, 30))
        self.assertEqual(self.next(chart, (100, 100, 30, 30), speed=6, winds=winds), (102, 102, 30, 30))

    def test_most_of_an_earlier_leg(self):
        chart = line_chart(0, 100, 200)
        chart["fixes"]["C"] = (0, 0)
        # On the first leg it goes on by 2, on the second one by 10; then by 10 and 2.
        self.assertEqual(self.next(chart, (95, 104, 30, 30), speed=6, winds=[(0, -4, 0, 0)]), (97, 114, 30, 30))
        self.assertEqual(self.next(chart, (95, 104, 30, 30), speed=6, winds=[(0, 4, 0, 0)]), (102, 109, 30, 30))

    def test_three_legs(self):
        chart = line_chart(0, 100, 200)
        chart["fixes"].update({"C": (100, 5), "D": (200, 5)})
        chart["legs"].append(("C", "D", "S", 0, 600))
        # The short leg in the middle begins at 100 and ends at 105; there the wind pushes back.
        self.assertEqual(self.next(chart, (90, 120, 30, 30), winds=[(0, 0, -9, 0)]), (100, 130, 30, 30))
        self.assertEqual(self.next(chart, (99, 106, 30, 30), winds=[(0, 0, -9, 0)]), (101, 116, 30, 30))
        self.assertEqual(self.next(chart, (99, 106, 30, 30), winds=[(0, 0, 9, 0)]), (109, 123, 30, 30))

    def test_below_the_begin_and_beyond_the_total(self):
        chart = line_chart(0, 100, 200)
        chart["fixes"]["C"] = (0, 0)
        winds = [(0, 4, 0, 0)]
        self.assertEqual(self.next(chart, (-50, -20, 30, 30), winds=winds), (-36, -6, 30, 30))
        self.assertEqual(self.next(chart, (-50, 3, 30, 30), winds=winds), (-36, 17, 30, 30))
        self.assertEqual(self.next(chart, (190, 220, 30, 30), winds=winds), (196, 226, 30, 30))
        self.assertEqual(self.next(chart, (200, 200, 30, 30), winds=winds), (206, 206, 30, 30))
        self.assertEqual(self.next(chart, (300, 400, 30, 30), winds=winds), (306, 406, 30, 30))
        self.assertEqual(self.next(chart, (-50, 400, 30, 30), winds=winds), (-36, 406, 30, 30))

    def test_tick_of_the_wind(self):
        chart = line_chart(0, 1000)
        winds = [(0, 1, 0, 0), (5, 2, 0, 0)]
        self.assertEqual(self.next(chart, (0, 0, 30, 30), winds=winds, tick=4), (11, 11, 30, 30))
        self.assertEqual(self.next(chart, (0, 0, 30, 30), winds=winds, tick=5), (12, 12, 30, 30))

    def levels(self, down, up, level, least, most, chart=None, low=0, high=0):
        box = self.next(chart or line_chart(0, 1000), (low, high, down, up), level=level, kind=(1, 1, 99, least, most))
        return box[2:]

    def test_levels_below(self):
        self.assertEqual(self.levels(30, 30, 100, 2, 5), (32, 35))
        self.assertEqual(self.levels(30, 40, 100, 2, 5), (32, 45))
        self.assertEqual(self.levels(97, 97, 100, 2, 5), (99, 100))
        self.assertEqual(self.levels(99, 99, 100, 2, 5), (100, 100))
        self.assertEqual(self.levels(95, 95, 100, 5, 5), (100, 100))

    def test_levels_above(self):
        self.assertEqual(self.levels(200, 200, 100, 2, 5), (195, 198))
        self.assertEqual(self.levels(190, 200, 100, 2, 5), (185, 198))
        self.assertEqual(self.levels(103, 103, 100, 2, 5), (100, 101))
        self.assertEqual(self.levels(101, 101, 100, 2, 5), (100, 100))

    def test_levels_at_the_target(self):
        self.assertEqual(self.levels(100, 100, 100, 2, 5), (100, 100))
        self.assertEqual(self.levels(100, 110, 100, 2, 5), (100, 108))
        self.assertEqual(self.levels(90, 100, 100, 2, 5), (92, 100))
        self.assertEqual(self.levels(90, 110, 100, 2, 5), (92, 108))
        self.assertEqual(self.levels(99, 101, 100, 2, 5), (100, 100))

    def test_several_targets(self):
        chart = level_chart((0, 600), (0, 600), (200, 400))
        # The target is 50 on the first leg, and 200 on both others.
        self.assertEqual(self.levels(100, 100, 50, 2, 5, chart, 90, 99), (95, 98))
        self.assertEqual(self.levels(100, 100, 50, 2, 5, chart, 90, 100), (95, 105))
        self.assertEqual(self.levels(100, 100, 50, 2, 5, chart, 100, 110), (102, 105))
        self.assertEqual(self.levels(50, 200, 50, 2, 5, chart, 90, 100), (50, 200))
        self.assertEqual(self.levels(40, 210, 50, 2, 5, chart, 90, 100), (42, 208))

    def test_many_thousands_wide(self):
        chart = line_chart(-100000, 0, 100000)
        self.assertEqual(self.next(chart, (-10 ** 12, 10 ** 12, 0, 600), level=0, winds=[(0, 1, 0, 2)], slip=3),
                         (-10 ** 12 + 10 - 3 - 1, 10 ** 12 + 10 + 3 + 3, 0, 599))
        self.assertEqual(self.next(chart, (5, 150000, 0, 600)), (15, 150010, 1, 599))

    def test_arguments_stay(self):
        chart, winds, rules = line_chart(0, 100), [(0, 1, 2, 3)], small_rules()
        path = path_of(chart)
        next_box(path, (("A", "B"), 5, 5), KIND, rules, winds, 0, (0, 5, 5, 5))
        self.assertEqual((winds, rules), ([(0, 1, 2, 3)], small_rules()))

    def random_case(self, chance, seed):
        chart = random_chart(seed, spread=chance.choice((4, 25)), levels=LEVELS)
        route = random_route(chance, chart)
        path = Path(chart, route)
        course = (route, chance.randint(1, 12), chance.randint(0, 450))
        least = chance.randint(1, 6)
        kind = (0, 1, 12, least, least + chance.randint(0, 5))
        winds = [(0, chance.randint(-5, 5), chance.randint(-5, 5), chance.randint(0, 2)), (9, 1, 1, 0)]
        low = chance.randint(-9, path.total() + 9)
        down = chance.choice((95, 100, 108, 118, 198, 290, 300))
        box = (low, low + chance.randint(0, 40), down, down + chance.randint(0, 14))
        return chart, path, course, kind, small_rules(slip=chance.randint(0, 2)), winds, chance.choice((3, 9)), box

    def test_random(self):
        chance = random.Random(11)
        for seed in range(1200):
            case = self.random_case(chance, seed)
            self.assertEqual(next_box(*case[1:]), plain_next(*case), case[2:])

    def test_within(self):
        chance = random.Random(12)
        for seed in range(600):
            _, *rest, box = self.random_case(chance, seed)
            low = chance.randint(box[0], box[1])
            down = chance.randint(box[2], box[3])
            inner = (low, chance.randint(low, box[1]), down, chance.randint(down, box[3]))
            outside, inside = next_box(*rest, box), next_box(*rest, inner)
            self.assertTrue(outside[0] <= inside[0] <= inside[1] <= outside[1])
            self.assertTrue(outside[2] <= inside[2] <= inside[3] <= outside[3])


class TubeCase(unittest.TestCase):
    def tube(self, chart, box, speed=10, level=30, winds=CALM, tick=100, kind=KIND, **rules):
        path = path_of(chart)
        course = (path.route(), speed, level)
        return tube(chart, path, course, kind, small_rules(**{"slip": 0, **rules}), winds, tick, box)

    def bad(self, code, at, *arguments, **more):
        before = copy.deepcopy((arguments, more))
        with self.assertRaises(CourseError) as caught:
            self.tube(*arguments, **more)
        self.assertEqual((caught.exception.code, caught.exception.tick), (code, at))
        self.assertEqual((arguments, more), before)


class TubeTest(TubeCase):
    def test_boxes(self):
        chart = line_chart(0, 35)
        self.assertEqual(self.tube(chart, (0, 0, 30, 30)), [
            (0, 0, 30, 30), (10, 10, 30, 30), (20, 20, 30, 30), (30, 30, 30, 30),
        ])
        self.assertEqual(self.tube(chart, (-10, 0, 24, 30), slip=4), [
            (-10, 0, 24, 30), (-4, 14, 25, 30), (2, 28, 26, 30), (8, 42, 27, 30), (14, 56, 28, 30),
            (20, 70, 29, 30), (26, 84, 30, 30), (32, 98, 30, 30),
        ])

    def test_ends_at_the_total(self):
        self.assertEqual(len(self.tube(line_chart(0, 30), (0, 0, 30, 30))), 3)
        self.assertEqual(len(self.tube(line_chart(0, 31), (0, 0, 30, 30))), 4)

    def test_each_is_the_next_one(self):
        chart = level_chart((0, 600), (100, 300), (0, 600))
        chart["fixes"]["D"] = (200, 100)
        winds = [(0, 2, 1, 1), (104, -2, 0, 2), (110, 0, 5, 0)]
        path = path_of(chart)
        course, rules = (path.route(), 12, 150), small_rules(slip=1)
        box = (-20, 0, 90, 100)
        boxes = tube(chart, path, course, (0, 12, 12, 3, 9), rules, winds, 100, box)
        for index, found in enumerate(boxes):
            self.assertEqual(found, box)
            box = next_box(path, course, (0, 12, 12, 3, 9), rules, winds, 100 + index, box)
        self.assertGreaterEqual(box[0], path.total())
        self.assertGreater(len(boxes), 20)

    def test_no_boxes(self):
        chart = line_chart(0, 100)
        chart["hours"] = [("A", "B", 0, 100000)]
        self.assertEqual(self.tube(chart, (100, 100, 30, 30)), [])
        self.assertEqual(self.tube(chart, (100, 900, 700, 700), winds=[(0, -99, 0, 0)]), [])
        self.bad("speed", 100, chart, (100, 100, 30, 30), speed=5, kind=(1, 6, 9, 1, 1))
        self.bad("shut", 100, chart, (99, 99, 30, 30))

    def test_answers_are_new(self):
        chart = line_chart(0, 35)
        boxes = self.tube(chart, (0, 0, 30, 30))
        boxes.clear()
        self.assertEqual(len(self.tube(chart, (0, 0, 30, 30))), 4)

    def test_arguments_stay(self):
        chart, winds, rules = line_chart(0, 35, 99), [(0, 1, 2, 1)], small_rules()
        path = path_of(chart)
        tube(chart, path, (path.route(), 20, 5), KIND, rules, winds, 7, (0, 5, 5, 5))
        self.assertEqual((chart, winds, rules), (line_chart(0, 35, 99), [(0, 1, 2, 1)], small_rules()))


class SpeedTest(TubeCase):
    def test_bounds(self):
        chart = line_chart(0, 100)
        for speed in (20, 25, 30):
            self.tube(chart, (0, 0, 30, 30), speed=speed, kind=(1, 20, 30, 1, 1))
        for speed in (19, 31):
            self.bad("speed", 100, chart, (0, 0, 30, 30), speed=speed, kind=(1, 20, 30, 1, 1))

    def test_ahead_of_all_others(self):
        chart = line_chart(0, 100, low=50)
        chart["hours"] = [("A", "B", 0, 100000)]
        self.bad("speed", 7, chart, (0, 0, 30, 30), speed=9, kind=(1, 20, 30, 1, 1), winds=[(0, -50, 0, 0)], tick=7)


class LongTest(TubeCase):
    def test_most_boxes(self):
        self.assertEqual(len(self.tube(line_chart(0, 240), (0, 0, 30, 30), speed=1)), 240)
        self.bad("long", 340, line_chart(0, 241), (0, 0, 30, 30), speed=1)
        self.assertEqual(len(self.tube(line_chart(0, 230), (-10, 0, 30, 30), speed=1)), 240)
        self.bad("long", 340, line_chart(0, 230), (-11, 0, 30, 30), speed=1)

    def test_ahead_of_the_others_at_its_box(self):
        chart = line_chart(0, 1000)
        chart["hours"] = [("A", "B", 340, 340)]
        self.bad("long", 340, chart, (0, 0, 30, 30), speed=1)
        chart["hours"] = [("A", "B", 339, 340)]
        self.bad("shut", 339, chart, (0, 0, 30, 30), speed=1)
        self.bad("long", 340, line_chart(0, 1000), (0, 0, 30, 30), speed=1, winds=[(0, 0, 0, 0), (340, -5, 0, 0)])
        self.bad("slow", 339, line_chart(0, 1000), (0, 0, 30, 30), speed=1, winds=[(0, 0, 0, 0), (339, -5, 0, 0)])


class LevelTest(TubeCase):
    def test_bounds(self):
        chart = level_chart((100, 300))
        for down, up in ((100, 100), (300, 300), (100, 300)):
            self.tube(chart, (0, 0, down, up), level=200)
        for down, up in ((99, 99), (301, 301), (99, 300), (100, 301), (0, 600)):
            self.bad("level", 100, chart, (0, 0, down, up), level=200)

    def test_a_later_leg(self):
        chart = level_chart((0, 600), (0, 600), (150, 300))
        # From 100 on, where the second leg begins, it climbs by 3 to 5 in a tick, for ten ticks.
        kind = (1, 1, 99, 3, 5)
        self.bad("level", 120, chart, (0, 0, 30, 30), kind=kind)
        self.bad("level", 120, chart, (0, 0, 119, 119), kind=kind, level=119)
        self.assertEqual(len(self.tube(chart, (0, 0, 120, 120), kind=kind, level=120)), 30)
        # With 11 in a tick, it has only nine ticks for that.
        self.bad("level", 119, chart, (0, 0, 120, 120), kind=kind, level=120, speed=11)

    def test_touched_at_its_begin(self):
        chart = level_chart((0, 600), (150, 300))
        # A box that reaches up to the begin of the second leg is on it; one that ends ahead of it is not.
        self.bad("level", 100, chart, (90, 100, 149, 149), level=149)
        self.bad("level", 101, chart, (90, 99, 140, 140), level=149)
        kind = (1, 1, 1000, 3, 3)
        self.assertEqual(self.tube(chart, (90, 99, 147, 147), level=149, kind=kind)[0], (90, 99, 147, 147))

    def test_touched_at_its_end(self):
        chart = level_chart((150, 300), (0, 600))
        self.tube(chart, (100, 110, 149, 149), level=149)
        self.bad("level", 100, chart, (99, 110, 149, 149), level=149)

    def test_not_checked_ahead_of_the_entry(self):
        chart = level_chart((100, 300))
        # It climbs by 1 to 3 in a tick: 97 becomes 100 in three ticks at the latest.
        self.assertEqual(len(self.tube(chart, (-30, -21, 97, 97), level=30)), 13)
        self.bad("level", 103, chart, (-30, -21, 96, 96), level=30)
        self.bad("level", 100, chart, (-30, 0, 99, 99), level=30)
        self.assertEqual(len(self.tube(chart, (-1, -1, 99, 99), level=30)), 11)

    def test_beyond_the_total(self):
        chart = level_chart((0, 600), (100, 300))
        self.bad("level", 100, chart, (190, 200, 99, 99))
        self.bad("level", 100, chart, (190, 999, 99, 99))
        self.bad("level", 100, chart, (199, 10 ** 6, 301, 301), level=400)
        self.assertEqual(len(self.tube(chart, (190, 10 ** 6, 100, 300))), 1)

    def test_all_legs_of_the_box(self):
        chart = level_chart((0, 600), (200, 210), (0, 600))
        self.bad("level", 100, chart, (50, 250, 0, 600))
        self.bad("level", 100, chart, (50, 100, 199, 205), level=205)
        self.tube(chart, (200, 250, 0, 600))


class ShutTest(TubeCase):
    def shut(self, first, last, *more):
        chart = line_chart(0, 100, 200)
        chart["hours"] = [("B", "C", first, last), *more]
        return chart

    def test_first_and_last_tick(self):
        # It is on the second leg from the tick 110 to the tick 119.
        box = (0, 0, 30, 30)
        for first, last in ((0, 109), (120, 200), (0, 0), (100000, 100000)):
            self.assertEqual(len(self.tube(self.shut(first, last), box)), 20)
        self.bad("shut", 110, self.shut(0, 110), box)
        self.bad("shut", 110, self.shut(110, 110), box)
        self.bad("shut", 119, self.shut(119, 500), box)
        self.bad("shut", 115, self.shut(115, 115), box)
        self.bad("shut", 110, self.shut(0, 500), box)

    def test_touched_at_its_begin_or_end(self):
        self.bad("shut", 109, self.shut(0, 109), (0, 10, 30, 30))
        self.assertEqual(len(self.tube(self.shut(0, 109), (0, 9, 30, 30))), 20)
        chart = line_chart(0, 100, 200)
        chart["hours"] = [("A", "B", 109, 500)]
        self.assertEqual(len(self.tube(chart, (10, 10, 30, 30))), 19)
        self.bad("shut", 109, chart, (9, 9, 30, 30))

    def test_several_hours(self):
        self.bad("shut", 117, self.shut(500, 501, ("B", "C", 117, 117), ("B", "C", 115, 114)), (0, 0, 30, 30))
        chart = self.shut(115, 116, ("A", "B", 103, 103))
        self.bad("shut", 103, chart, (0, 0, 30, 30))

    def test_only_this_direction(self):
        chart = line_chart(0, 100)
        chart["legs"].append(("B", "A", "S", 0, 600))
        chart["hours"] = [("B", "A", 0, 100000)]
        path = Path(chart, ("A", "B"))
        self.assertEqual(len(tube(chart, path, (("A", "B"), 10, 5), KIND, small_rules(slip=0), CALM, 0, (0, 0, 5, 5))), 10)
        path = Path(chart, ("A", "B", "A"))
        with self.assertRaises(CourseError) as caught:
            tube(chart, path, (("A", "B", "A"), 10, 5), KIND, small_rules(slip=0), CALM, 0, (0, 0, 5, 5))
        self.assertEqual((caught.exception.code, caught.exception.tick), ("shut", 10))

    def test_not_checked_ahead_of_the_entry(self):
        chart = line_chart(0, 100)
        chart["hours"] = [("A", "B", 0, 102)]
        self.assertEqual(len(self.tube(chart, (-30, -21, 30, 30))), 13)
        self.bad("shut", 102, chart, (-30, -20, 30, 30))
        self.bad("shut", 100, chart, (-30, 0, 30, 30))

    def test_beyond_the_total(self):
        self.bad("shut", 100, self.shut(100, 100), (190, 200, 30, 30))
        self.bad("shut", 100, self.shut(100, 100), (190, 999, 30, 30))


class SlowTest(TubeCase):
    def test_least(self):
        chart = line_chart(0, 100)
        self.assertEqual(len(self.tube(chart, (0, 0, 30, 30), winds=[(0, -9, 0, 0)])), 100)
        self.bad("slow", 100, chart, (0, 0, 30, 30), winds=[(0, -10, 0, 0)])
        self.assertEqual(len(self.tube(chart, (0, 0, 30, 30), slip=9)), 100)
        self.bad("slow", 100, chart, (0, 0, 30, 30), slip=10)
        self.bad("slow", 100, chart, (0, 0, 30, 30), winds=[(0, 0, 0, 10)])

    def test_tick_of_the_wind(self):
        chart = line_chart(0, 1000)
        self.bad("slow", 107, chart, (0, 0, 30, 30), winds=[(0, 0, 0, 0), (107, -10, 0, 0), (108, 0, 0, 0)])
        self.bad("slow", 199, chart, (0, 0, 30, 30), winds=[(0, 0, 0, 0), (199, -10, 0, 0)])
        self.assertEqual(len(self.tube(chart, (0, 0, 30, 30), winds=[(0, 0, 0, 0), (200, -10, 0, 0)])), 100)

    def test_legs_of_the_box(self):
        chart = line_chart(0, 100, 200)
        chart["fixes"]["C"] = (100, 100)
        winds = [(0, 0, -10, 0)]
        self.bad("slow", 110, chart, (0, 0, 30, 30), winds=winds)
        self.bad("slow", 100, chart, (90, 100, 30, 30), winds=winds)
        self.bad("slow", 101, chart, (90, 99, 30, 30), winds=winds)

    def test_ahead_of_the_entry(self):
        chart = line_chart(0, 100)
        self.bad("slow", 100, chart, (-30, -21, 30, 30), winds=[(0, -10, 0, 0)])
        self.bad("slow", 101, chart, (-30, -21, 30, 30), winds=[(0, 0, 0, 0), (101, -10, 0, 0)])


class OrderTest(TubeCase):
    def test_at_one_box(self):
        chart = level_chart((100, 300))
        against = [(0, -10, 0, 0)]
        chart["hours"] = [("A", "B", 100, 100)]
        self.bad("level", 100, chart, (0, 0, 99, 99), winds=against)
        self.bad("shut", 100, chart, (0, 0, 100, 100), winds=against)
        chart["hours"] = []
        self.bad("slow", 100, chart, (0, 0, 100, 100), winds=against)

    def test_level_of_a_later_leg_comes_ahead_of_hours_of_the_first_one(self):
        chart = level_chart((0, 600), (100, 300))
        chart["hours"] = [("A", "B", 100, 100)]
        self.bad("level", 100, chart, (90, 110, 99, 99))
        self.bad("shut", 100, chart, (90, 110, 100, 100))

    def test_from_box_to_box(self):
        chart = level_chart((0, 600), (100, 300))
        box = (90, 90, 30, 30)
        self.bad("level", 101, chart, box)
        chart["hours"] = [("A", "B", 100, 100)]
        self.bad("shut", 100, chart, box)
        chart["hours"] = []
        self.bad("slow", 100, chart, box, winds=[(0, -10, 0, 0)])
        self.bad("level", 101, chart, box, winds=[(0, 0, 0, 0), (101, -10, 0, 0)])


class WindowTest(unittest.TestCase):
    def window(self, tick, *bounds):
        return window(Path(line_chart(0, 100), ("A", "B")), tick, [(low, high, 5, 5) for low, high in bounds])

    def test_with_a_box_that_reaches_the_total(self):
        self.assertEqual(self.window(7, (0, 9), (60, 100), (80, 120)), (8, 10))
        self.assertEqual(self.window(7, (0, 9), (60, 99), (80, 120)), (9, 10))
        self.assertEqual(self.window(7, (0, 101), (60, 200)), (7, 9))

    def test_without_such_a_box(self):
        self.assertEqual(self.window(7, (0, 9), (60, 69), (99, 99)), (10, 10))
        self.assertEqual(self.window(0, (0, 99)), (1, 1))

    def test_no_boxes(self):
        self.assertEqual(self.window(7), (7, 7))
        self.assertEqual(self.window(0), (0, 0))

    def test_of_a_tube(self):
        chart = line_chart(0, 100)
        path = Path(chart, ("A", "B"))
        boxes = tube(chart, path, (("A", "B"), 10, 5), KIND, small_rules(slip=2), CALM, 50, (-8, 0, 5, 5))
        # The high grows by 12 from 0 to 108 in 9 ticks, the low by 8 from -8 to 104 in 14 ticks.
        self.assertEqual(window(path, 50, boxes), (59, 64))


class ChangedTest(unittest.TestCase):
    def test_changes(self):
        course = (("A", "B"), 10, 30)
        self.assertEqual(changed(course, ("level", 40)), (("A", "B"), 10, 40))
        self.assertEqual(changed(course, ("speed", 40)), (("A", "B"), 40, 30))
        self.assertEqual(changed(course, ("route", ("A", "C"))), (("A", "C"), 10, 30))
        self.assertEqual(course, (("A", "B"), 10, 30))

    def test_same_again(self):
        course = (("A", "B"), 10, 30)
        for change in (("level", 30), ("speed", 10), ("route", ("A", "B"))):
            self.assertEqual(changed(course, change), course)


if __name__ == "__main__":
    unittest.main()
