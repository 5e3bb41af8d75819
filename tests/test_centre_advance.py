"""Points 45, 46, 51 and 55 to 58, 69 and 76: flights, their offers and views, plots, sightings, alerts, loads."""
import unittest

from skyapart.courses import tube
from skyapart.path import Path
from tests.centres import KIND, CentreCase, boxes, exact_rules, lanes_chart, made, pass_ticks, request, state

LANE1 = ("A1", "B1", "C1")
CROSS = ("A1", "B1", "C2")
SHORT = ("A1", "B1")


class OneFlightTest(CentreCase):
    """F1 enters at 5, is at B1 at the tick 15, and out at 25."""

    def check(self, centre, flight_state, box, offers):
        view = centre.view("F1")
        self.assertEqual((view["state"], view["courses"]), (flight_state, [((LANE1, 100, 100), box)]))
        self.assertEqual(self.offers(centre, "F1"), offers)

    def test_whole_life(self):
        centre = made(request("F1"))
        for tick in range(5):
            pass_ticks(centre, tick)
            self.check(centre, "waiting", None, [(1, "C1", LANE1, 5, boxes(0, 2000))])
        for tick in range(5, 25):
            pass_ticks(centre, tick)
            at = 100 * (tick - 5)
            self.check(centre, "flying", (at, at, 100, 100), [(1, "C1", LANE1, tick, boxes(at, 2000))])
        for tick in range(25, 225):
            pass_ticks(centre, tick)
            self.check(centre, "gone", None, [(1, "C1", LANE1, 25, [])])
            self.assertEqual([name for name, _ in centre.held()], ["F1"])
        for tick in range(225, 228):
            pass_ticks(centre, tick)
            self.check(centre, "gone", None, [])
            self.assertEqual(centre.held(), [])
        self.assertEqual(centre.flights(), ["F1"])
        self.assertEqual(centre.view("F1")["promised"], 25)

    def test_now(self):
        centre = made()
        for tick in range(4):
            self.assertEqual(centre.now(), tick)
            self.assertEqual(centre.advance([]), [])

    def test_boxes_that_grow(self):
        rules, winds = exact_rules(slip=2), [(0, 7, 0, 1), (9, -3, 0, 2)]
        centre = made(request("F1", late=50, level=100, wanted=110), rules=rules, winds=winds)
        chart = lanes_chart()
        path, course = Path(chart, LANE1), (LANE1, 100, 110)
        expected = tube(chart, path, course, KIND, rules, winds, 5, (-50, 0, 100, 100))
        for index, box in enumerate(expected):
            pass_ticks(centre, 5 + index)
            self.assertEqual(self.courses(centre, "F1"), [(course, box)])
            self.assertEqual(self.offers(centre, "F1"), [(1, "C1", LANE1, 5 + index, expected[index:])])
        pass_ticks(centre, 5 + len(expected))
        self.assertEqual(centre.view("F1")["state"], "gone")
        self.assertEqual(centre.view("F1")["promised"], 5 + len(expected))

    def test_view_is_that_of_its_kind(self):
        heavy = (2, 60, 90, 1, 9)
        centre = made(request("F1", kind=heavy), until=6)
        self.assertEqual(centre.view("F1"), {
            "state": "flying", "kind": heavy, "entry": 5, "courses": [((LANE1, 90, 100), (90, 90, 100, 100))],
            "open": None, "promised": 28, "responsible": "W",
        })

    def test_names_ascending(self):
        centre = made(request("Z"), request("A2", 2), request("A1", 3), until=3)
        centre.enter([request("M", 3, 40)])
        for tick in (3, 5, 10, 25, 41):
            pass_ticks(centre, tick)
            self.assertEqual(centre.flights(), ["A1", "A2", "M", "Z"])
            self.assertEqual([name for name, _ in centre.held()], ["A1", "A2", "M", "Z"])


class ClearanceTest(CentreCase):
    def test_open_one_with_a_box_at_its_tick(self):
        centre = made(request("F1"), until=6)
        self.says(centre, "F1", ("speed", 50), 10)
        for tick in range(6, 10):
            pass_ticks(centre, tick)
            self.assertEqual(self.offers(centre, "F1"), [
                (1, "C1", LANE1, tick, boxes(100 * tick - 500, 2000)), (1, "C1", LANE1, 10, boxes(500, 2000, 50)),
            ])

    def test_open_one_without_a_box_at_its_tick(self):
        # At the tick 28 the box may be at 1909; but then a plot shows that it is far ahead.
        rules = exact_rules(slip=7)
        centre = made(request("F1", kind=(1, 50, 90, 2, 5)), rules=rules, until=6)
        self.says(centre, "F1", ("level", 120), 28)
        self.assertEqual(len(self.offers(centre, "F1")), 2)
        self.assertEqual(self.offers(centre, "F1")[1][3], 28)
        pass_ticks(centre, 20)
        low, high = self.courses(centre, "F1")[0][1][:2]
        self.assertEqual((low, high), (15 * 83, 15 * 97))
        self.assertEqual(centre.advance([(1550, 0, 100)]), ["F1"])
        first, = self.offers(centre, "F1")
        self.assertEqual(first[3] + len(first[4]), 28)
        self.assertEqual(centre.view("F1")["open"], (("F1", 1, 28, ("level", 120)), False))
        self.assertEqual(centre.remind("F1"), ("say", ("F1", 1, 28, ("level", 120))))

    def test_confirmed_one_becomes_the_second_course(self):
        centre = made(request("F1"), until=6)
        self.confirms(centre, self.says(centre, "F1", ("route", CROSS), 10))
        pass_ticks(centre, 9)
        self.assertEqual(len(self.courses(centre, "F1")), 1)
        pass_ticks(centre, 10)
        box = (500, 500, 100, 100)
        self.assertEqual(self.courses(centre, "F1"), [((LANE1, 100, 100), box), ((CROSS, 100, 100), box)])
        self.assertIsNone(centre.view("F1")["open"])
        self.assertEqual(self.offers(centre, "F1"), [
            (1, "C1", LANE1, 10, boxes(500, 2000)), (1, "C2", CROSS, 10, boxes(500, 6100)),
        ])
        pass_ticks(centre, 12)
        box = (700, 700, 100, 100)
        self.assertEqual(self.courses(centre, "F1"), [((LANE1, 100, 100), box), ((CROSS, 100, 100), box)])

    def test_each_course_goes_on_by_itself(self):
        centre = made(request("F1"), until=6)
        self.confirms(centre, self.says(centre, "F1", ("speed", 50), 10))
        pass_ticks(centre, 13)
        self.assertEqual(self.courses(centre, "F1"), [
            ((LANE1, 100, 100), (800, 800, 100, 100)), ((LANE1, 50, 100), (650, 650, 100, 100)),
        ])
        centre = made(request("F1"), until=6)
        self.confirms(centre, self.says(centre, "F1", ("level", 150), 10))
        pass_ticks(centre, 13)
        self.assertEqual(self.courses(centre, "F1"), [
            ((LANE1, 100, 100), (800, 800, 100, 100)), ((LANE1, 100, 150), (800, 800, 106, 115)),
        ])

    def test_unconfirmed_one_is_nothing(self):
        centre = made(request("F1"), until=6)
        self.says(centre, "F1", ("speed", 50), 10)
        pass_ticks(centre, 10)
        self.assertIsNone(centre.view("F1")["open"])
        self.assertEqual(self.courses(centre, "F1"), [((LANE1, 100, 100), (500, 500, 100, 100))])
        self.assertEqual(self.offers(centre, "F1"), [(1, "C1", LANE1, 10, boxes(500, 2000))])

    def test_first_course_over_while_the_second_one_flies(self):
        centre = made(request("F1"), until=6)
        self.confirms(centre, self.says(centre, "F1", ("speed", 50), 24))
        for tick in (25, 26, 40):
            pass_ticks(centre, tick)
            at, slow = 100 * (tick - 5), 1900 + 50 * (tick - 24)
            if slow < 2000:
                self.assertEqual(self.courses(centre, "F1"), [
                    ((LANE1, 100, 100), (at, at, 100, 100)), ((LANE1, 50, 100), (slow, slow, 100, 100)),
                ])
                self.assertEqual(self.offers(centre, "F1"), [
                    (1, "C1", LANE1, 25, []), (1, "C1", LANE1, tick, boxes(slow, 2000, 50)),
                ])
            else:
                self.assertEqual(centre.view("F1")["state"], "gone")
                self.assertEqual(self.offers(centre, "F1"), [(1, "C1", LANE1, 25, []), (1, "C1", LANE1, 26, [])])
        pass_ticks(centre, 225)
        self.assertEqual(len(self.offers(centre, "F1")), 2)
        pass_ticks(centre, 226)
        self.assertEqual(self.offers(centre, "F1"), [])

    def test_second_course_over_at_once(self):
        centre = made(request("F1"), until=6)
        self.confirms(centre, self.says(centre, "F1", ("route", SHORT), 15))
        pass_ticks(centre, 14)
        self.assertEqual(self.offers(centre, "F1")[1], (1, "", SHORT, 15, []))
        for tick in range(15, 25):
            pass_ticks(centre, tick)
            at = 100 * tick - 500
            self.assertEqual(self.courses(centre, "F1"), [
                ((LANE1, 100, 100), (at, at, 100, 100)), ((SHORT, 100, 100), (at, at, 100, 100)),
            ])
            self.assertEqual(self.offers(centre, "F1"), [
                (1, "C1", LANE1, tick, boxes(at, 2000)), (1, "", SHORT, 15, []),
            ])
        pass_ticks(centre, 25)
        self.assertEqual(centre.view("F1")["state"], "gone")
        self.assertEqual(self.offers(centre, "F1"), [(1, "C1", LANE1, 25, []), (1, "", SHORT, 15, [])])

    def test_course_that_is_over_stays_over(self):
        # Behind its end the wind blows the first course back; it stays over all the same.
        winds = [(0, 0, 0, 0), (25, -180, 0, 0)]
        chart = lanes_chart()
        centre = made(request("F1"), chart=chart, winds=winds, until=6)
        self.confirms(centre, self.says(centre, "F1", ("route", CROSS), 15))
        pass_ticks(centre, 27)
        (_, box), (_, second) = self.courses(centre, "F1")
        self.assertEqual(box, (1840, 1840, 100, 100))
        self.assertLess(second[0], 6100)
        self.assertEqual(self.offers(centre, "F1")[0], (1, "C1", LANE1, 25, []))
        # A plot at the place of the first course belongs to nobody then.
        self.assertEqual(centre.advance([(1760, 0, 100)]), [""])


class StepsTest(CentreCase):
    """The order of the six steps of point 51."""

    def test_over_while_its_clearance_is_due(self):
        # At the tick 25 the flight is out: the clearance of this tick is dropped, not taken.
        rules = exact_rules(slip=5)
        centre = made(request("F1"), rules=rules, until=6)
        self.confirms(centre, self.says(centre, "F1", ("speed", 50), 26))
        pass_ticks(centre, 20)
        self.assertEqual(self.courses(centre, "F1")[0][1][:2], (15 * 95, 15 * 105))
        # The plot shows that it is at 15 * 105 or a little less: it is out at the tick 25 or 26.
        self.assertEqual(centre.advance([(16 * 105 + 40, 0, 100)]), ["F1"])
        self.assertEqual(self.courses(centre, "F1")[0][1][:2], (16 * 105 - 10, 16 * 105))
        pass_ticks(centre, 24)
        self.assertEqual(len(self.offers(centre, "F1")), 1)
        self.assertEqual(centre.view("F1")["open"], (("F1", 1, 26, ("speed", 50)), True))
        pass_ticks(centre, 25)
        view = centre.view("F1")
        self.assertEqual((view["state"], view["open"]), ("gone", None))
        self.assertEqual(view["courses"], [((LANE1, 100, 100), None)])
        self.assertEqual(self.offers(centre, "F1"), [(1, "C1", LANE1, 25, [])])

    def test_over_at_the_very_tick_of_its_clearance(self):
        rules = exact_rules(slip=5)
        centre = made(request("F1"), rules=rules, until=6)
        self.confirms(centre, self.says(centre, "F1", ("speed", 50), 25))
        pass_ticks(centre, 20)
        centre.advance([(16 * 105 + 40, 0, 100)])
        pass_ticks(centre, 24)
        self.assertGreaterEqual(self.courses(centre, "F1")[0][1][0] + 95, 2000)
        pass_ticks(centre, 25)
        view = centre.view("F1")
        self.assertEqual((view["state"], view["open"]), ("gone", None))
        self.assertEqual(view["courses"], [((LANE1, 100, 100), None)])

    def test_entry_at_this_tick_and_its_plot(self):
        centre = made(request("F1", late=30), until=4)
        self.assertEqual(centre.advance([(20, 0, 100)]), ["F1"])
        self.assertEqual(self.courses(centre, "F1"), [((LANE1, 100, 100), (0, 0, 100, 100))])
        centre = made(request("F1", late=30), until=3)
        self.assertEqual(centre.advance([(0, 0, 100)]), [""])
        self.assertEqual(centre.view("F1")["state"], "waiting")

    def test_wind_of_the_tick_before(self):
        centre = made(request("F1"), winds=[(0, 0, 0, 0), (7, 10, 0, 0)], until=7)
        self.assertEqual(self.courses(centre, "F1")[0][1], (200, 200, 100, 100))
        pass_ticks(centre, 8)
        self.assertEqual(self.courses(centre, "F1")[0][1], (310, 310, 100, 100))

    def test_plots_fit(self):
        centre = made(request("F1", late=200), until=9)
        self.assertEqual(self.courses(centre, "F1")[0][1], (200, 400, 100, 100))
        self.assertEqual(centre.advance([(350, 20, 104)]), ["F1"])
        self.assertEqual(self.courses(centre, "F1")[0][1], (305, 395, 100, 100))
        self.assertEqual(self.offers(centre, "F1")[0][4][0], (305, 395, 100, 100))
        self.assertEqual(centre.advance([(350, 0, 100), (420, 0, 100)]), ["", "F1"])
        self.assertEqual(self.courses(centre, "F1")[0][1], (405, 470, 100, 100))

    def test_plot_of_a_flight_that_is_gone(self):
        centre = made(request("F1"), until=24)
        self.assertEqual(centre.advance([(1990, 0, 100)]), [""])
        self.assertEqual(centre.view("F1")["state"], "gone")

    def two(self, change, until=16):
        """Return a centre in which F1 has two courses from the tick 15 on."""
        centre = made(request("F1"), until=6)
        self.confirms(centre, self.says(centre, "F1", change, 15))
        pass_ticks(centre, until)
        return centre

    def test_plots_for_one_of_two_courses(self):
        centre = self.two(("route", CROSS))
        self.assertEqual(centre.advance([(1200, 0, 100)]), ["F1"])
        self.assertEqual(self.courses(centre, "F1"), [((LANE1, 100, 100), (1200, 1200, 100, 100))])
        self.assertEqual(self.offers(centre, "F1"), [(1, "C1", LANE1, 17, boxes(1200, 2000))])
        self.assertIsNone(centre.remind("F1"))
        centre = self.two(("route", CROSS))
        self.assertEqual(centre.advance([(1040, 196, 100)]), ["F1"])
        self.assertEqual(self.courses(centre, "F1"), [((CROSS, 100, 100), (1200, 1200, 100, 100))])
        self.says(centre, "F1", ("level", 120), 20, 2)

    def test_plots_for_both_courses(self):
        centre = self.two(("route", CROSS), 14)
        self.assertEqual(centre.advance([(1000, 0, 100)]), ["F1"])
        self.assertEqual(len(self.courses(centre, "F1")), 2)
        centre = self.two(("level", 200))
        self.assertEqual(centre.advance([(1200, 0, 105)]), ["F1"])
        self.assertEqual(self.courses(centre, "F1"), [
            ((LANE1, 100, 100), (1200, 1200, 100, 100)), ((LANE1, 100, 200), (1200, 1200, 104, 110)),
        ])
        # The heights of the second course do not fit any more.
        self.assertEqual(centre.advance([(1300, 0, 98)]), ["F1"])
        self.assertEqual(self.courses(centre, "F1"), [((LANE1, 100, 100), (1300, 1300, 100, 100))])

    def test_equal_courses(self):
        # Both courses are equal, but still two; each has its own number.
        centre = self.two(("level", 100))
        self.assertEqual(centre.advance([(1200, 0, 100)]), ["F1"])
        self.assertEqual(len(self.courses(centre, "F1")), 2)
        centre.hear(("not", "F1", 1))
        self.assertEqual(self.courses(centre, "F1"), [((LANE1, 100, 100), (1200, 1200, 100, 100))])

    def test_course_that_is_over_is_dropped_with_a_plot(self):
        centre = self.two(("route", SHORT))
        self.assertEqual(len(self.courses(centre, "F1")), 2)
        self.assertEqual(centre.advance([(1200, 0, 100)]), ["F1"])
        self.assertEqual(self.courses(centre, "F1"), [((LANE1, 100, 100), (1200, 1200, 100, 100))])
        centre = made(request("F1"), until=6)
        self.confirms(centre, self.says(centre, "F1", ("speed", 50), 24))
        pass_ticks(centre, 24)
        self.assertEqual(centre.advance([(1950, 0, 100)]), ["F1"])
        self.assertEqual(self.courses(centre, "F1"), [((LANE1, 50, 100), (1950, 1950, 100, 100))])

    def test_course_that_is_over_is_no_candidate(self):
        centre = self.two(("route", SHORT), 14)
        # Both boxes are at 1000, but the short route ends there.
        self.assertEqual(centre.advance([(1000, 0, 100)]), ["F1"])
        self.assertEqual(self.courses(centre, "F1"), [((LANE1, 100, 100), (1000, 1000, 100, 100))])

    def test_plots_that_belong_to_no_flight(self):
        centre = self.two(("route", CROSS))
        before = self.courses(centre, "F1")
        self.assertEqual(centre.advance([(0, 0, 100), (1200, 0, 130)]), ["", ""])
        self.assertEqual(centre.sightings(), [(0, 0, 100, 17), (1200, 0, 130, 17)])
        self.assertEqual([course for course, _ in self.courses(centre, "F1")], [course for course, _ in before])

    def test_plots_of_two_flights(self):
        centre = made(request("Z1", 1), request("A1", 2), until=9)
        self.assertEqual(centre.advance([(500, 5000, 100), (500, 0, 100)]), ["A1", "Z1"])


class SightingTest(CentreCase):
    def test_kept_for_the_last_ticks(self):
        centre = made(rules=exact_rules(memory=3))
        centre.advance([(1, 2, 3), (4, 5, 6)])
        self.assertEqual(centre.sightings(), [(1, 2, 3, 1), (4, 5, 6, 1)])
        centre.advance([])
        centre.advance([(0, 0, 0)])
        self.assertEqual(centre.sightings(), [(1, 2, 3, 1), (4, 5, 6, 1), (0, 0, 0, 3)])
        centre.advance([(1, 2, 3)])
        self.assertEqual(centre.sightings(), [(0, 0, 0, 3), (1, 2, 3, 4)])
        pass_ticks(centre, 6)
        self.assertEqual(centre.sightings(), [(1, 2, 3, 4)])
        pass_ticks(centre, 7)
        self.assertEqual(centre.sightings(), [])

    def test_memory_of_one_tick(self):
        centre = made(rules=exact_rules(memory=1))
        centre.advance([(1, 2, 3)])
        self.assertEqual(centre.sightings(), [(1, 2, 3, 1)])
        centre.advance([])
        self.assertEqual(centre.sightings(), [])

    def test_plots_of_flights_are_none(self):
        centre = made(request("F1"), until=9)
        self.assertEqual(centre.advance([(500, 0, 100), (500, 90, 100), (500, 0, 100)]), ["F1", "", "F1"])
        self.assertEqual(centre.sightings(), [(500, 90, 100, 10)])

    def test_equal_sightings(self):
        centre = made()
        centre.advance([(1, 2, 3), (1, 2, 3)])
        self.assertEqual(centre.sightings(), [(1, 2, 3, 1)] * 2)


class AlertTest(CentreCase):
    """Near is less than 300 + 10 + 40 in the plane, and 50 more in each tick; 20 + 2 + 5 in height, and 2 more."""

    def sees(self, centre, *plots):
        self.assertEqual(centre.advance(list(plots)), [""] * len(plots))

    def test_at_once(self):
        centre = made(request("F1"), until=9)
        self.sees(centre, (849, 0, 100), (150, 0, 100), (151, 0, 100), (500, 349, 126), (500, 350, 100))
        self.assertEqual(centre.alerts(), [
            ("F1", (849, 0, 100, 10), 10), ("F1", (151, 0, 100, 10), 10), ("F1", (500, 349, 126, 10), 10),
            ("F1", (500, 350, 100, 10), 11),
        ])

    def test_least_tick(self):
        centre = made(request("F1"), until=9)
        # At the tick 10 + k it is at 500 + 100 * k; near is less than 350 + 50 * k.
        self.sees(centre, (1450, 0, 100))
        self.assertEqual(centre.alerts(), [("F1", (1450, 0, 100, 10), 15)])
        centre = made(request("F1"), until=9)
        self.sees(centre, (1449, 0, 100))
        self.assertEqual(centre.alerts(), [("F1", (1449, 0, 100, 10), 14)])

    def test_heights(self):
        for z, expected in ((126, 10), (127, 11), (129, 12), (131, 13)):
            centre = made(request("F1"), until=9)
            self.sees(centre, (600, 0, z))
            self.assertEqual(centre.alerts(), [("F1", (600, 0, z, 10), expected)])

    def test_ahead(self):
        for ahead, expected in ((4, []), (5, [15]), (6, [15]), (0, [])):
            centre = made(request("F1"), rules=exact_rules(ahead=ahead), until=9)
            self.sees(centre, (1450, 0, 100))
            self.assertEqual([alert[2] for alert in centre.alerts()], expected)
        centre = made(request("F1"), rules=exact_rules(ahead=0), until=9)
        self.sees(centre, (849, 0, 100), (850, 0, 100))
        self.assertEqual(centre.alerts(), [("F1", (849, 0, 100, 10), 10)])

    def test_from_now_on(self):
        centre = made(request("F1"), rules=exact_rules(ahead=3, memory=9), until=9)
        self.sees(centre, (1450, 0, 100))
        self.assertEqual(centre.alerts(), [])
        pass_ticks(centre, 12)
        self.assertEqual(centre.alerts(), [("F1", (1450, 0, 100, 10), 15)])
        pass_ticks(centre, 16)
        self.assertEqual(centre.alerts(), [("F1", (1450, 0, 100, 10), 16)])
        pass_ticks(centre, 18)
        self.assertEqual(centre.alerts(), [("F1", (1450, 0, 100, 10), 18)])
        pass_ticks(centre, 19)
        self.assertEqual((centre.sightings(), centre.alerts()), ([], []))

    def test_order(self):
        centre = made(request("Z1"), request("A1", 2), until=9)
        self.sees(centre, (600, 90, 100), (600, 4900, 100))
        self.sees(centre, (700, 4900, 100), (700, 90, 100))
        first = [(600, 90, 100, 10), (600, 4900, 100, 10)]
        second = [(700, 4900, 100, 11), (700, 90, 100, 11)]
        self.assertEqual(centre.alerts(), [
            ("A1", first[1], 11), ("A1", second[0], 11), ("Z1", first[0], 11), ("Z1", second[1], 11),
        ])

    def test_only_flying_flights(self):
        centre = made(request("F1", tick=14), until=9)
        self.sees(centre, (0, 0, 100))
        self.assertEqual(centre.alerts(), [])
        pass_ticks(centre, 13)
        self.assertEqual(centre.alerts(), [])
        centre = made(request("F1", tick=11), until=9)
        self.sees(centre, (0, 0, 100))
        pass_ticks(centre, 11)
        self.assertEqual(centre.alerts(), [("F1", (0, 0, 100, 10), 11)])
        centre = made(request("F1"), until=24)
        self.sees(centre, (2000, 0, 100))
        self.assertEqual(centre.alerts(), [])

    def test_open_clearance(self):
        centre = made(request("F1"), until=9)
        self.sees(centre, (1300, 2500, 100))
        self.assertEqual(centre.alerts(), [])
        self.says(centre, "F1", ("route", CROSS), 15)
        # On the cross leg it is 1227 from the plot at the tick 28; near is less than 1250 then.
        self.assertEqual(centre.alerts(), [("F1", (1300, 2500, 100, 10), 28)])
        self.assertEqual(centre.hear(("not", "F1", 1)), None)
        self.assertEqual(centre.alerts(), [])
        # Near the end of the cross leg it will be only later.
        centre = made(request("F1"), until=9)
        self.sees(centre, (1980, 4900, 100))
        self.says(centre, "F1", ("route", CROSS), 15)
        self.assertEqual(centre.alerts(), [])

    def test_second_course(self):
        centre = made(request("F1"), until=9)
        self.confirms(centre, self.says(centre, "F1", ("route", CROSS), 11))
        self.sees(centre, (1300, 2500, 100))
        pass_ticks(centre, 12)
        self.assertEqual(centre.alerts(), [("F1", (1300, 2500, 100, 10), 28)])
        centre.hear(("not", "F1", 1))
        self.assertEqual(centre.alerts(), [])

    def test_least_tick_of_all_offers(self):
        centre = made(request("F1"), until=9)
        self.says(centre, "F1", ("speed", 50), 11)
        self.sees(centre, (1450, 0, 100))
        self.assertEqual(centre.alerts(), [("F1", (1450, 0, 100, 10), 15)])


class StripTest(CentreCase):
    def test_each_state(self):
        centre = made(request("F1", late=100))
        waiting = [[("A1", 5, 6), ("B1", 15, 16), ("C1", 25, 26)]]
        self.assertEqual(centre.strips("F1"), waiting)
        pass_ticks(centre, 8)
        self.assertEqual(centre.strips("F1"), [[("A1", 8, 8), ("B1", 15, 16), ("C1", 25, 26)]])
        self.confirms(centre, self.says(centre, "F1", ("route", CROSS), 10))
        both = [[("A1", 8, 8), ("B1", 15, 16), ("C1", 25, 26)], [("A1", 10, 10), ("B1", 15, 16), ("C2", 66, 67)]]
        self.assertEqual(centre.strips("F1"), both)
        pass_ticks(centre, 10)
        both[0][0] = ("A1", 10, 10)
        self.assertEqual(centre.strips("F1"), both)
        centre.hear(("taken", "F1", 1))
        self.assertEqual(centre.strips("F1"), both[1:])

    def test_course_that_is_over(self):
        centre = made(request("F1"), until=6)
        self.confirms(centre, self.says(centre, "F1", ("speed", 50), 24))
        pass_ticks(centre, 25)
        self.assertEqual(centre.strips("F1"), [
            [("A1", 25, 25), ("B1", 25, 25), ("C1", 25, 25)], [("A1", 25, 25), ("B1", 25, 25), ("C1", 26, 26)],
        ])


class LoadTest(CentreCase):
    def test_ahead(self):
        centre = made(request("F1"), until=6)
        self.assertEqual(centre.load("W", 0), [1])
        self.assertEqual(centre.load("E", 0), [0])
        self.assertEqual(centre.load("W", 240), [1] * 9 + [0] * 232)
        self.assertEqual(centre.load("E", 240), [0] * 9 + [1] * 10 + [0] * 222)
        self.assertEqual(centre.load("X", 3), [0] * 4)
        self.assertEqual(centre.load("Y", 3), [0] * 4)

    def test_waiting_flights_count(self):
        centre = made(request("F1"), request("F2", 2, tick=8), until=3)
        self.assertEqual(centre.load("W", 16), [0, 0] + [1] * 3 + [2] * 7 + [1] * 3 + [0] * 2)

    def test_two_offers_count_once(self):
        centre = made(request("F1"), request("F2", 2), until=6)
        self.says(centre, "F1", ("speed", 50), 10)
        # F1 is in W up to 14, or up to 19; F2 up to 14.
        self.assertEqual(centre.load("W", 15), [2] * 9 + [1] * 5 + [0] * 2)
        self.assertEqual(centre.load("E", 40), [0] * 9 + [2] * 10 + [1] * 15 + [0] * 7)

    def test_gone_flights_do_not_count(self):
        centre = made(request("F1"), until=25)
        self.assertEqual(centre.load("E", 2), [0, 0, 0])

    def test_nothing_changes(self):
        centre = made(request("F1"), until=6)
        before = state(centre)
        centre.load("W", 9)
        self.assertEqual(state(centre), before)


class WatchedTest(CentreCase):
    def test_never_seen(self):
        centre = made(request("F1"), until=4)
        self.assertEqual(centre.watched(0), [])
        for tick in range(5, 25):
            pass_ticks(centre, tick)
            self.assertEqual(centre.watched(0), [("F1", tick - 5)])
            self.assertEqual(centre.watched(tick - 5), [("F1", tick - 5)])
            self.assertEqual(centre.watched(tick - 4), [])
        pass_ticks(centre, 25)
        self.assertEqual(centre.watched(0), [])

    def test_seen_at_its_entry(self):
        centre = made(request("F1"), until=4)
        centre.advance([(0, 0, 100)])
        self.assertEqual(centre.watched(0), [("F1", 0)])
        pass_ticks(centre, 6)
        self.assertEqual(centre.watched(1), [("F1", 1)])

    def test_seen_again(self):
        centre = made(request("F1"), until=9)
        self.assertEqual(centre.watched(4), [("F1", 4)])
        centre.advance([(500, 0, 100)])
        self.assertEqual(centre.watched(0), [("F1", 0)])
        self.assertEqual(centre.watched(1), [])
        pass_ticks(centre, 12)
        self.assertEqual(centre.watched(1), [("F1", 2)])
        centre.advance([(0, 0, 100)])
        self.assertEqual(centre.watched(1), [("F1", 3)])
        centre.advance([(0, 0, 100), (900, 0, 100)])
        self.assertEqual(centre.watched(0), [("F1", 0)])

    def test_order(self):
        centre = made(request("Z", 1, 5), request("B", 2, 8), request("A", 3, 8), until=9)
        self.assertEqual(centre.watched(0), [("Z", 4), ("A", 1), ("B", 1)])
        centre.advance([(500, 0, 100)])
        self.assertEqual(centre.watched(0), [("A", 2), ("B", 2), ("Z", 0)])
        self.assertEqual(centre.watched(2), [("A", 2), ("B", 2)])
        self.assertEqual(centre.watched(3), [])


if __name__ == "__main__":
    unittest.main()
