import copy
import random
import unittest

from skyapart.centre import Centre
from skyapart.courses import tube, window
from skyapart.errors import ChartError, CourseError, RequestError, RuleError
from skyapart.joint import choose
from skyapart.judge import takes
from skyapart.path import Path
from skyapart.requests import menu
from tests.centres import (
    CALM, KIND, CentreCase, boxes, exact_rules, lanes_chart, made, pass_ticks, request, shown, shown_offers, state,
)
from tests.samples import random_chart, small_rules

LANE1, LANE2 = ("A1", "B1", "C1"), ("A2", "B2", "C2")


class MakeTest(CentreCase):
    def test_new_centre(self):
        centre = Centre(lanes_chart(), exact_rules(), CALM)
        self.assertEqual(state(centre), (0, [], [], [], [], [], [], [], [], [
            (sector, [0] * 6) for sector in "WEX"
        ], []))

    def test_errors(self):
        chart = lanes_chart()
        chart["runways"] = ["C1", "C9"]
        with self.assertRaises(ChartError) as caught:
            Centre(chart, exact_rules(lateral=0), CALM)
        self.assertEqual((caught.exception.code, caught.exception.index), ("runway", 1))
        with self.assertRaises(RuleError) as caught:
            Centre(lanes_chart(), exact_rules(band=-1), CALM)
        self.assertEqual(caught.exception.code, "band")

    def test_copies(self):
        def full_chart():
            chart = lanes_chart()
            chart["legs"].append(("B1", "A1", "W", 0, 600))
            chart.update({"holds": {"B1": "A1"}, "hours": [("B1", "C1", 15, 34)], "capacities": {"W": 1, "E": 2}})
            chart["zones"] = [((500, 500), (600, 500), (500, 600))]
            return chart

        chart, rules, winds = full_chart(), exact_rules(), list(CALM)
        centre = Centre(chart, rules, winds)
        self.assertEqual((chart, rules, winds), (full_chart(), exact_rules(), CALM))
        for part in chart.values():
            part.clear()
        chart.clear()
        rules.clear()
        winds.clear()
        other = Centre(full_chart(), exact_rules(), CALM)
        for each in (centre, other):
            each.enter([request("F1")])
            each.enter([request("F2", 2), request("F3", 3)])
            each.enter([request("F2", 2, 30)])
            pass_ticks(each, 40)
        self.assertEqual(state(centre), state(other))
        self.assertEqual(self.courses(centre, "F1")[0][0], (("A1", "B1", "A1", "B1", "C1"), 100, 100))


class EnterTest(CentreCase):
    def test_one(self):
        centre = made()
        self.assertEqual(centre.enter([request("F1")]), ((0,), []))
        self.assertEqual(centre.flights(), ["F1"])
        self.assertEqual(centre.view("F1"), {
            "state": "waiting", "kind": KIND, "entry": 5, "courses": [((LANE1, 100, 100), None)], "open": None,
            "promised": 25, "responsible": "W",
        })
        self.assertEqual(shown(centre.held()), [("F1", [(1, "C1", LANE1, 5, boxes(0, 2000))])])

    def test_two_and_three(self):
        centre = made()
        self.assertEqual(centre.enter([request("F2"), request("F1", 2)]), ((0, 0), []))
        self.assertEqual(centre.enter([request("C", 3), request("B", 1, 40), request("A", 2, 40)]), ((0, 0, 0), []))
        self.assertEqual(centre.flights(), ["A", "B", "C", "F1", "F2"])
        self.assertEqual([name for name, _ in centre.held()], ["A", "B", "C", "F1", "F2"])
        self.assertEqual(centre.view("A")["courses"], [((LANE2, 100, 100), None)])
        self.assertEqual([centre.view(name)["promised"] for name in centre.flights()], [60, 60, 25, 25, 25])

    def test_none(self):
        centre = made()
        self.assertEqual(centre.enter([]), ((), []))
        self.assertEqual(centre.log(), [("enter", [])])

    def test_other_options(self):
        # Both enter at one place: the second one waits by 8 ticks.
        centre = made(request("F1", level=100))
        self.assertEqual(centre.enter([request("F2", level=100)]), ((2,), []))
        view = centre.view("F2")
        self.assertEqual((view["entry"], view["courses"]), (13, [((LANE1, 100, 100), None)]))
        self.assertEqual(view["promised"], 33)
        # At another level all the way it may enter at the same tick, but not land then.
        self.assertEqual(made(request("F1", 3, level=100)).enter([request("F2", 3, level=124)]), ((0,), []))
        self.assertEqual(made(request("F1", 3, level=100)).enter([request("F2", 3, level=123)]), ((2,), []))
        self.assertEqual(made(request("F1", level=100)).enter([request("F2", level=124)]), ((1,), []))

    def test_option_with_the_other_speed(self):
        # A faster one behind comes too near; the slower speed of its menu does not.
        slow = (1, 50, 60, 2, 5)
        centre = made(request("F1", tick=5, kind=slow))
        self.assertEqual(centre.enter([request("F2", tick=12)]), ((1,), []))
        self.assertEqual(centre.view("F2")["courses"], [((LANE1, 50, 100), None)])
        self.assertEqual(centre.view("F2")["promised"], 52)

    def test_first_box(self):
        centre = made(request("F1", late=150))
        self.assertEqual(self.offers(centre, "F1"), [(1, "C1", LANE1, 5, [
            (low, low + 150, 100, 100) for low in range(-150, 2000, 100)
        ])])
        self.assertEqual(centre.view("F1")["promised"], 27)

    def test_level_and_wanted(self):
        centre = made(request("F1", level=100, wanted=108))
        self.assertEqual(self.courses(centre, "F1"), [((LANE1, 100, 108), None)])
        self.assertEqual([box[2:] for box in self.offers(centre, "F1")[0][4][:5]],
                         [(100, 100), (102, 105), (104, 108), (106, 108), (108, 108)])

    def test_runway_or_not(self):
        centre = made(request("F1", 1), request("F2", 2), request("F3", 3))
        self.assertEqual([offers[0][:2] for _, offers in shown(centre.held())], [(1, "C1"), (1, "C2"), (1, "")])

    def test_sector_of_the_first_leg(self):
        centre = made()
        centre.enter([("F1", KIND, "B1", "C2", 100, 100, 3, 0)])
        self.assertEqual(centre.view("F1")["responsible"], "X")
        self.assertEqual([centre.acts("F1", sector) for sector in "WEX"], [False, False, True])

    def test_sectors_are_those_of_all_legs(self):
        centre = made(request("F1"))
        self.assertEqual(centre.give("F1", "W", "X"), ("give", 1, "W", "X"))


class ErrorTest(CentreCase):
    def test_point_33_first(self):
        centre = made(request("F1"), until=7)
        self.fails(RequestError, ("late", 1), centre.enter, [request("F1"), request("F2", late=-1)])
        self.fails(RequestError, ("name", 1), centre.enter, [request("F2", tick=1), request("F2", tick=1)])
        self.fails(RequestError, ("level", 0), centre.enter, [request("F2", level=601)])
        self.fails(RequestError, ("fix", 0), centre.enter, [request("F2", 4)])
        self.fails(RequestError, ("kind", 0), centre.enter, [request("F1", kind=(4, 1, 1, 1, 1))])

    def test_name(self):
        centre = made(request("F1"))
        self.fails(RequestError, ("name", 0), centre.enter, [request("F1", 2, 50)])
        self.fails(RequestError, ("name", 1), centre.enter, [request("F2", 2, 50), request("F1", 3, 50)])
        pass_ticks(centre, 10)
        self.fails(RequestError, ("name", 0), centre.enter, [request("F1", 2, 50)])
        pass_ticks(centre, 30)
        self.assertEqual(centre.view("F1")["state"], "gone")
        self.fails(RequestError, ("name", 0), centre.enter, [request("F1", 2, 50)])
        pass_ticks(centre, 300)
        self.fails(RequestError, ("name", 0), centre.enter, [request("F1", 2, 400)])

    def test_tick(self):
        centre = made(until=7)
        self.fails(RequestError, ("tick", 0), centre.enter, [request("F1", tick=6)])
        self.fails(RequestError, ("tick", 0), centre.enter, [request("F1", tick=7)])
        self.fails(RequestError, ("tick", 2), centre.enter, [request("F1", tick=8), request("F2", 2, 8), request("F3", 3, 7)])
        self.assertEqual(centre.enter([request("F1", tick=8)]), ((0,), []))
        self.fails(RequestError, ("tick", 0), made().enter, [request("F1", tick=0)])

    def test_first_request_that_fails(self):
        centre = made(request("F1"), until=7)
        self.fails(RequestError, ("tick", 0), centre.enter, [request("F2", tick=7), request("F1", tick=50)])
        self.fails(RequestError, ("name", 0), centre.enter, [request("F1", tick=50), request("F2", tick=7)])
        self.fails(RequestError, ("name", 0), centre.enter, [request("F1", tick=7)])

    def test_names_are_used_once_even_if_refused(self):
        centre = made()
        self.assertIsNone(centre.enter([request("F1", kind=(1, 1, 1, 1, 1))])[0])
        self.assertEqual(centre.enter([request("F1")]), ((0,), []))


class RefutationTest(CentreCase):
    def test_nothing_changes(self):
        # Each way and each tick of the second one is too near at its entry.
        kind = (1, 10, 10, 2, 5)
        centre = made(request("F1", kind=kind))
        before = state(centre)
        asked = [request("F3", 3), request("F2", kind=kind)]
        choice, refutation = centre.enter(asked)
        self.assertIsNone(choice)
        held = ("held", "F1", "near", 5)
        later = ("held", "F1", "near", 13)
        self.assertEqual(refutation, [
            ((index, entry), reason) for index in range(4) for entry, reason in ((0, held), (1, later))
        ])
        after = state(centre)
        self.assertEqual(after[:4] + after[5:], before[:4] + before[5:])
        self.assertEqual(after[4], before[4] + [("enter", asked)])
        self.assertEqual(centre.enter([request("F3", 3)]), ((0,), []))

    def test_codes_of_courses(self):
        centre = made()
        crawling = (1, 3, 3, 2, 5)
        self.assertEqual(centre.enter([request("F1", kind=crawling)]), (None, [
            ((0,), ("bad", "long")), ((1,), ("bad", "long")),
        ]))
        chart = lanes_chart()
        chart["hours"] = [("B1", "C1", 15, 18)]
        centre = made(chart=chart)
        self.assertEqual(centre.enter([request("F1", kind=(1, 100, 100, 2, 5))]), ((1,), []))
        self.assertEqual(centre.view("F1")["entry"], 13)
        chart["hours"] = [("B1", "C1", 15, 33)]
        centre = made(chart=chart)
        self.assertEqual(centre.enter([request("F1", kind=(1, 100, 100, 2, 5))]), (None, [
            ((0,), ("bad", "shut")), ((1,), ("bad", "shut")),
        ]))

    def test_capacity(self):
        chart = lanes_chart()
        chart["capacities"] = {"W": 2}
        centre = made(request("F1", 1), request("F2", 2), chart=chart)
        one_speed = (1, 100, 100, 2, 5)
        self.assertEqual(centre.enter([request("F3", 3, kind=one_speed)]), (None, [
            ((0,), ("full", "W", 5)), ((1,), ("full", "W", 13)),
        ]))
        self.assertEqual(centre.enter([request("F3", 3, 7, kind=one_speed)]), ((1,), []))
        self.assertEqual(centre.view("F3")["entry"], 15)

    def test_no_way(self):
        centre = made()
        self.assertEqual(centre.enter([("F1", KIND, "C1", "A1", 100, 100, 3, 0)]), (None, []))
        self.assertEqual(centre.enter([("F2", KIND, "A1", "C1", 100, 100, 3, 0), ("F1", KIND, "C1", "A1", 1, 1, 3, 0)]),
                         (None, []))

    def test_landings_of_flights_that_are_gone(self):
        heavy = (2, 50, 100, 2, 5)
        centre = made(request("F1", kind=heavy), until=25)
        self.assertEqual(centre.view("F1")["state"], "gone")
        # A light one that begins near the runway would land 4 ticks behind the heavy one; the gap is 9.
        close = ("F2", (0, 500, 500, 2, 5), "B1", "C1", 100, 100, 27, 0)
        self.assertEqual(centre.enter([close]), ((1,), []))
        self.assertEqual(centre.view("F2")["entry"], 35)
        centre = made(request("F1", kind=heavy), until=31)
        self.assertEqual(centre.enter([(*close[:6], 32, 0)]), ((0,), []))
        centre = made(request("F1", kind=heavy), until=30)
        self.assertEqual(centre.enter([(*close[:6], 31, 0)]), ((1,), []))


class CompareTest(CentreCase):
    def entries(self, chart, rules, winds, one):
        entries = []
        for (route, speed, level), entry in menu(chart, one):
            path = Path(chart, route)
            try:
                track = (path, entry, tube(chart, path, (route, speed, level), one[1], rules, winds, entry,
                                           (-one[7], 0, one[4], one[4])))
            except CourseError as error:
                entries.append(error.code)
            else:
                entries.append((one[1][0], route[-1] if route[-1] in chart["runways"] else "", track))
        return entries

    def run_once(self, seed):
        chance = random.Random(seed)
        rules = small_rules(lateral=40, radius=3, radar=5)
        chart = random_chart(seed, spread=400, levels=((0, 600), (0, 600), (80, 120)))
        chart["legs"] = [(*leg[:2], chance.choice("STU"), *leg[3:]) for leg in chart["legs"]]
        chart["runways"] = sorted(chart["fixes"])[:3]
        sectors = sorted({leg[2] for leg in chart["legs"]})
        chart["capacities"] = {sector: chance.randint(1, 4) for sector in sectors[:2]}
        winds = [(0, chance.randint(-3, 3), chance.randint(-3, 3), chance.randint(0, 1)), (30, 2, -2, 1)]
        centre, seen, number = Centre(chart, rules, winds), [], 0
        for _ in range(8):
            asked = []
            for _ in range(chance.choice((1, 1, 2, 3))):
                number += 1
                start, goal = chance.sample(sorted(chart["fixes"]), 2)
                level = chance.choice((90, 100, 100, 130))
                slow = chance.randint(15, 30)
                asked.append((f"F{number}", (chance.randint(0, 3), slow, slow + 10, 2, 5), start, goal, level,
                              chance.choice((level, 110)), centre.now() + chance.randint(1, 6), chance.choice((0, 30))))
            before, held = state(centre), centre.held()
            menus = [self.entries(chart, rules, winds, one) for one in asked]
            expected = choose(rules, chart["capacities"], held, menus)
            found = centre.enter(asked)
            self.assertEqual(found, expected)
            if found[0] is None:
                seen.append(0)
                self.assertTrue(takes(rules, chart["capacities"], held, menus, found[1]))
                self.assertEqual(centre.flights(), before[1])
                self.assertEqual(shown(centre.held()), before[3])
                continue
            seen.append(len(asked))
            for one, options, index in zip(asked, menus, found[0]):
                course, entry = menu(chart, one)[index]
                first_leg = [leg for leg in chart["legs"] if leg[:2] == course[0][:2]][0]
                self.assertEqual(centre.view(one[0]), {
                    "state": "waiting", "kind": one[1], "entry": entry, "courses": [(course, None)], "open": None,
                    "promised": window(*options[index][2])[1], "responsible": first_leg[2],
                })
                self.assertEqual(self.offers(centre, one[0]), shown_offers([options[index]]))
            for _ in range(chance.randint(0, 6)):
                centre.advance([])
        return seen

    def test_random(self):
        counts = [count for seed in range(25) for count in self.run_once(seed)]
        for count in range(4):
            self.assertGreater(counts.count(count), 3, count)


class CopyTest(CentreCase):
    def test_requests_and_answers(self):
        centre = made()
        asked = [request("F1"), request("F2", 2)]
        before = copy.deepcopy(asked)
        _, refutation = centre.enter(asked)
        self.assertEqual(asked, before)
        asked.clear()
        refutation.append(1)
        self.assertEqual(centre.log(), [("enter", before)])
        self.assertEqual(centre.flights(), ["F1", "F2"])

    def test_what_is_handed_out_is_new(self):
        centre = made(request("F1"), request("F2", 2), until=7)
        centre.say("W", "F1", ("level", 120), 10)
        centre.advance([(9, 9, 9)])
        before = copy.deepcopy(state(centre))
        for call in (centre.flights, centre.held, centre.log, centre.sightings, centre.alerts):
            call().clear()
            call().append(7)
        for _, offers in centre.held():
            for _, _, (_, _, tube_boxes) in offers:
                tube_boxes.clear()
            offers.clear()
        for name in centre.flights():
            view = centre.view(name)
            view["courses"].clear()
            view.clear()
        for row in centre.strips("F1"):
            row.clear()
        centre.strips("F1").clear()
        centre.load("W", 3).clear()
        centre.watched(0).clear()
        for call in centre.log():
            for part in call:
                if isinstance(part, list):
                    part.append(5)
        self.assertEqual(state(centre), before)


if __name__ == "__main__":
    unittest.main()
