import copy
import random
import unittest

from skyapart.chart import check_chart, leg_length
from skyapart.errors import RouteError
from skyapart.routes import alternatives, check_route, confirmed, route_length, shortest, with_loops
from tests.samples import line_chart, plain_chart, random_chart, small_chart

LEVELS = ((0, 600), (0, 100), (50, 300))


def all_routes(chart, start, goal, level, most):
    """Return all routes without a name twice over open legs, in the order of alternatives."""
    found = []

    def go(route):
        if len(route) > 1 and route[-1] == goal:
            found.append((route_length(chart, route), len(route), route))
            return
        for leg in chart["legs"]:
            if len(route) < most and leg[0] == route[-1] and leg[1] not in route and leg[3] <= level <= leg[4]:
                go((*route, leg[1]))
    go((start,))
    return [route for _, _, route in sorted(found)]


def all_distances(chart, start, level):
    """Return the distances by relaxing all legs until nothing changes."""
    found = {start: 0}
    for _ in range(len(chart["fixes"])):
        for leg in chart["legs"]:
            if leg[0] in found and leg[3] <= level <= leg[4]:
                way = found[leg[0]] + leg_length(chart, leg[0], leg[1])
                found[leg[1]] = min(way, found.get(leg[1], way))
    return found


class RouteCase(unittest.TestCase):
    def wrong(self, code, index, action, *arguments):
        with self.assertRaises(RouteError) as caught:
            action(*arguments)
        self.assertEqual((caught.exception.code, caught.exception.index), (code, index))


class CheckRouteTest(RouteCase):
    def test_size(self):
        chart = small_chart()
        loop = ("B", "D") * 8
        self.assertIsNone(check_route(chart, ("A", "B")))
        self.assertIsNone(check_route(chart, loop))
        self.wrong("size", 0, check_route, chart, ())
        self.wrong("size", 0, check_route, chart, ("A",))
        self.wrong("size", 0, check_route, chart, ("x",))
        self.wrong("size", 0, check_route, chart, (*loop, "B"))
        self.wrong("size", 0, check_route, chart, ("x",) * 17)

    def test_legs(self):
        chart = small_chart()
        self.assertIsNone(check_route(chart, ("A", "B", "C", "A", "B", "D", "C")))
        self.wrong("leg", 0, check_route, chart, ("B", "A"))
        self.wrong("leg", 1, check_route, chart, ("A", "B", "A"))
        self.wrong("leg", 2, check_route, chart, ("A", "B", "C", "B", "A"))
        self.wrong("leg", 0, check_route, chart, ("A", "A"))

    def test_strange_names(self):
        chart = small_chart()
        self.wrong("leg", 1, check_route, chart, ("A", "B", "nowhere"))
        self.wrong("leg", 0, check_route, chart, ("", "B", "C"))
        self.wrong("leg", 0, check_route, chart, ("A", ""))

    def test_length(self):
        chart = small_chart()
        self.assertEqual(route_length(chart, ("A", "B")), 50)
        self.assertEqual(route_length(chart, ("A", "B", "C")), 150)
        self.assertEqual(route_length(chart, ("A", "B", "D", "B", "D")), 50 + 3 * 99)


class ShortestTest(RouteCase):
    def test_small(self):
        chart = small_chart()
        self.assertEqual(shortest(chart, "A", "C", 200), (("A", "B", "C"), {"A": 0, "B": 50, "C": 150, "D": 149}))
        # At 60, the leg from B to C is not open; the one from B to D is.
        self.assertEqual(shortest(chart, "A", "C", 60), (("A", "B", "D", "C"), {"A": 0, "B": 50, "C": 258, "D": 149}))

    def test_bounds_of_levels(self):
        chart = line_chart(0, 10, low=100, high=300)
        for level in (100, 300):
            self.assertEqual(shortest(chart, "A", "B", level), (("A", "B"), {"A": 0, "B": 10}))
        for level in (99, 301):
            self.wrong("none", 0, shortest, chart, "A", "B", level)

    def test_unreachable(self):
        chart = small_chart()
        self.wrong("none", 0, shortest, chart, "A", "E5", 200)
        self.wrong("none", 0, shortest, chart, "E5", "A", 200)
        self.wrong("none", 0, shortest, line_chart(0, 10, 20), "C", "A", 5)

    def test_distances_hold_what_is_reached(self):
        chart = small_chart()
        self.assertEqual(shortest(chart, "D", "B", 60)[1], {"D": 0, "B": 99, "C": 109, "A": 253})
        self.assertEqual(shortest(chart, "A", "B", 20)[1], {"A": 0, "B": 50})

    def test_fewest_names_among_equal_lengths(self):
        fixes = {"A": (0, 0), "B": (10, 0), "C": (20, 0), "Z": (20, 1), "D": (30, 0)}
        legs = [("A", "B"), ("B", "C"), ("C", "D"), ("A", "Z"), ("A", "C"), ("Z", "D")]
        chart = plain_chart(fixes, [(one, other, "S", 0, 600) for one, other in legs])
        self.assertEqual(shortest(chart, "A", "D", 5)[0], ("A", "C", "D"))

    def test_least_tuple_among_equal_ones(self):
        fixes = {"A": (0, 0), "B": (10, 10), "C": (10, -10), "D": (20, 0)}
        legs = [("A", "C"), ("C", "D"), ("A", "B"), ("B", "D")]
        chart = plain_chart(fixes, [(one, other, "S", 0, 600) for one, other in legs])
        self.assertEqual(shortest(chart, "A", "D", 5)[0], ("A", "B", "D"))
        # The least tuple is not the one whose last but one name is the least.
        fixes = {"A": (0, 0), "B": (10, 10), "Y": (20, 10), "C": (10, -10), "X": (20, -10), "D": (30, 0)}
        legs = [("A", "C"), ("C", "X"), ("X", "D"), ("A", "B"), ("B", "Y"), ("Y", "D")]
        chart = plain_chart(fixes, [(one, other, "S", 0, 600) for one, other in legs])
        self.assertEqual(shortest(chart, "A", "D", 5)[0], ("A", "B", "Y", "D"))

    def test_random(self):
        for seed in range(150):
            # A small spread gives many routes of equal lengths.
            chart = random_chart(seed, fixes=6, legs=14, spread=3 if seed % 2 else 40, levels=LEVELS)
            level = (20, 75, 200, 400)[seed % 4]
            for goal in "BCDEF":
                routes = all_routes(chart, "A", goal, level, 16)
                if not routes:
                    self.wrong("none", 0, shortest, chart, "A", goal, level)
                    continue
                before = copy.deepcopy(chart)
                route, distances = shortest(chart, "A", goal, level)
                self.assertEqual(chart, before)
                self.assertEqual(route, routes[0])
                self.assertEqual(distances, all_distances(chart, "A", level))
                self.assertIs(confirmed(chart, level, route, distances), True)

    def test_answers_are_new(self):
        chart = small_chart()
        shortest(chart, "A", "C", 200)[1].clear()
        self.assertEqual(shortest(chart, "A", "C", 200)[1], {"A": 0, "B": 50, "C": 150, "D": 149})


class ConfirmedTest(unittest.TestCase):
    route = ("A", "B", "C")

    def told(self, level=200, route=None, without=None, **others):
        distances = {"A": 0, "B": 50, "C": 150, "D": 149}
        distances.update(others)
        if without:
            del distances[without]
        return confirmed(small_chart(), level, route or self.route, distances)

    def test_right(self):
        self.assertIs(self.told(), True)

    def test_numbers(self):
        self.assertIs(self.told(A=1), False)
        self.assertIs(self.told(A=-1), False)
        self.assertIs(self.told(B=51), False)
        self.assertIs(self.told(C=149), False)
        self.assertIs(self.told(C=151), False)
        self.assertIs(self.told(D=150), False)

    def test_lesser_numbers_beside_the_route(self):
        # Numbers may be too small where no leg then leads to a fix of a greater number.
        self.assertIs(self.told(D=100), True)
        self.assertIs(self.told(B=49), False)
        self.assertIs(self.told(D=40), False)

    def test_left_out(self):
        for name in "ABCD":
            self.assertIs(self.told(without=name), False, name)

    def test_strange_names(self):
        self.assertIs(self.told(X=7), True)
        self.assertIs(self.told(E5=0), True)

    def test_other_routes(self):
        self.assertIs(self.told(route=("A", "B", "D", "C")), False)
        self.assertIs(self.told(route=("A", "B", "D")), True)
        self.assertIs(self.told(route=("B", "C")), False)
        self.assertIs(self.told(route=("A", "B", "D", "B", "C")), False)

    def test_closed_legs(self):
        self.assertIs(self.told(level=99), False)
        self.assertIs(self.told(level=100), True)
        self.assertIs(self.told(level=300), True)
        self.assertIs(self.told(level=301), False)

    def test_legs_that_are_not_open_prove_nothing(self):
        chart = small_chart()
        # At 20, only the legs A B, D C and C A are open.
        self.assertIs(confirmed(chart, 20, ("A", "B"), {"A": 0, "B": 50}), True)
        self.assertIs(confirmed(chart, 20, ("A", "B"), {"A": 0, "B": 50, "D": 70}), False)
        self.assertIs(confirmed(chart, 20, ("A", "B"), {"A": 0, "B": 50, "D": 70, "C": 179}), True)
        self.assertIs(confirmed(chart, 20, ("A", "B"), {"A": 0, "B": 50, "D": 70, "C": 180}), False)

    def test_empty(self):
        self.assertIs(confirmed(small_chart(), 200, self.route, {}), False)

    def test_one_number_changed(self):
        chance = random.Random(8)
        for seed in range(60):
            chart = random_chart(seed, fixes=6, legs=16)
            routes = [found for goal in "BCDEF" for found in all_routes(chart, "A", goal, 5, 16)]
            distances = all_distances(chart, "A", 5)
            for route in routes:
                right = route_length(chart, route) == distances[route[-1]]
                self.assertIs(confirmed(chart, 5, route, distances), right)
                name = chance.choice(route)
                distances[name] += 1
                self.assertIs(confirmed(chart, 5, route, distances), False)
                distances[name] -= 1


class AlternativesTest(unittest.TestCase):
    def test_ranking(self):
        chart = small_chart()
        self.assertEqual(alternatives(chart, "A", "C", 150, 9), [("A", "B", "C"), ("A", "B", "D", "C")])
        self.assertEqual(alternatives(chart, "A", "C", 150, 2), [("A", "B", "C"), ("A", "B", "D", "C")])
        self.assertEqual(alternatives(chart, "A", "C", 150, 1), [("A", "B", "C")])
        self.assertEqual(alternatives(chart, "A", "C", 150, 0), [])
        self.assertEqual(alternatives(chart, "A", "C", 60, 9), [("A", "B", "D", "C")])
        self.assertEqual(alternatives(chart, "A", "C", 40, 9), [])
        self.assertEqual(alternatives(chart, "A", "E5", 150, 9), [])
        self.assertEqual(alternatives(chart, "A", "A", 150, 9), [])

    def test_equal_lengths(self):
        fixes = {"A": (0, 0), "B": (10, 0), "C": (20, 0), "D": (30, 0)}
        legs = [("A", "B"), ("B", "C"), ("C", "D"), ("A", "C"), ("B", "D"), ("A", "D")]
        chart = plain_chart(fixes, [(one, other, "S", 0, 600) for one, other in legs])
        self.assertEqual(alternatives(chart, "A", "D", 5, 9), [
            ("A", "D"), ("A", "B", "D"), ("A", "C", "D"), ("A", "B", "C", "D"),
        ])

    def test_at_most_eight_names(self):
        chart = line_chart(*range(0, 120, 10))
        self.assertEqual(alternatives(chart, "A", "H", 5, 9), [tuple("ABCDEFGH")])
        self.assertEqual(alternatives(chart, "A", "I", 5, 9), [])
        chart["legs"].append(("B", "D", "S", 0, 600))
        self.assertEqual(alternatives(chart, "A", "I", 5, 9), [tuple("ABDEFGHI")])

    def test_random(self):
        for seed in range(120):
            chart = random_chart(seed, fixes=7, legs=18, spread=4 if seed % 2 else 60, levels=LEVELS)
            level = (20, 75, 200, 400)[seed % 4]
            for goal in "BG":
                routes = all_routes(chart, "A", goal, level, 8)
                self.assertEqual(alternatives(chart, "A", goal, level, 1000), routes)
                for count in (1, 2, 5):
                    self.assertEqual(alternatives(chart, "A", goal, level, count), routes[:count])

    def test_large(self):
        chart = random_chart(18, fixes=12, legs=36, spread=100000)
        self.assertIsNone(check_chart(chart))
        self.assertEqual(len(chart["legs"]), 36)
        before = copy.deepcopy(chart)
        routes = alternatives(chart, "A", "I", 5, 100000)
        self.assertEqual(chart, before)
        self.assertEqual(routes, all_routes(chart, "A", "I", 5, 8))
        self.assertGreater(len(routes), 50)

    def test_answers_are_new(self):
        chart = small_chart()
        alternatives(chart, "A", "C", 150, 9).clear()
        self.assertEqual(len(alternatives(chart, "A", "C", 150, 9)), 2)


class LoopsTest(RouteCase):
    def chart(self, holds):
        chart = line_chart(0, 10, 20, 30, 40, 50, 60, 70, 80, 90, 100, 110)
        chart["legs"].append(("C", "B", "S", 0, 600))
        chart["legs"].append(("D", "C", "S", 0, 600))
        chart["holds"] = holds
        self.assertIsNone(check_chart(chart))
        return chart

    def test_example(self):
        chart = plain_chart({}, [])
        chart["holds"] = {"B": "H"}
        self.assertEqual(with_loops(chart, ("A", "B", "C"), 2), ("A", "B", "H", "B", "H", "B", "C"))

    def test_numbers_of_loops(self):
        chart = self.chart({"C": "B"})
        route = ("A", "B", "C", "D")
        self.assertEqual(with_loops(chart, route, 0), route)
        self.assertEqual(with_loops(chart, route, 1), ("A", "B", "C", "B", "C", "D"))
        self.assertEqual(with_loops(chart, route, 2), ("A", "B", "C", "B", "C", "B", "C", "D"))
        self.assertEqual(with_loops(chart, route, 3), ("A", "B", "C", "B", "C", "B", "C", "B", "C", "D"))
        self.assertIsNone(check_route(chart, with_loops(chart, route, 3)))

    def test_first_fix_of_the_route(self):
        chart = self.chart({"D": "C", "C": "B", "B": "C"})
        self.assertEqual(with_loops(chart, ("A", "B", "C", "D"), 1), ("A", "B", "C", "B", "C", "D"))
        self.assertEqual(with_loops(chart, ("C", "D", "E"), 1), ("C", "B", "C", "D", "E"))
        self.assertEqual(with_loops(chart, ("C", "D", "C", "D"), 1), ("C", "B", "C", "D", "C", "D"))

    def test_no_hold(self):
        chart = self.chart({"C": "B"})
        self.assertEqual(with_loops(chart, ("A", "B"), 0), ("A", "B"))
        for loops in (1, 2, 3):
            self.wrong("hold", 0, with_loops, chart, ("D", "E"), loops)

    def test_hold_at_the_last_fix_alone(self):
        chart = self.chart({"C": "B"})
        self.wrong("hold", 0, with_loops, chart, ("A", "B", "C"), 1)

    def test_most_names(self):
        chart = self.chart({"C": "B"})
        ten = tuple("ABCDEFGHIJ")
        self.assertEqual(with_loops(chart, ten, 3), ("A", "B") + ("C", "B") * 3 + tuple("CDEFGHIJ"))
        self.assertEqual(len(with_loops(chart, ten, 3)), 16)
        eleven = tuple("ABCDEFGHIJK")
        self.assertEqual(len(with_loops(chart, eleven, 2)), 15)
        self.wrong("size", 0, with_loops, chart, eleven, 3)
        sixteen = ("B", "C") * 8
        self.assertEqual(with_loops(chart, sixteen, 0), sixteen)
        self.wrong("size", 0, with_loops, chart, sixteen, 1)

    def test_missing_hold_comes_first(self):
        chart = self.chart({})
        self.wrong("hold", 0, with_loops, chart, ("B", "C") * 8, 3)


if __name__ == "__main__":
    unittest.main()
