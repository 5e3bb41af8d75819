import unittest

from skyapart.errors import ClearError, ConflictError
from tests.centres import KIND, CentreCase, boxes, exact_rules, lanes_chart, made, pass_ticks, request, state

LANE1, LANE2 = ("A1", "B1", "C1"), ("A2", "B2", "C2")
CROSS = ("A1", "B1", "C2")
SAME = ("speed", 100)


class ErrorTest(CentreCase):
    """F1 enters at 5, is at B1 at the tick 15, and out at 25."""

    def refused(self, code, centre, flight="F1", change=("level", 120), tick=10, by="W"):
        self.fails(ClearError, code, centre.say, by, flight, change, tick)
        if code in ("flight", "owner", "busy", "tick"):
            self.fails(ClearError, code, centre.solve, by, flight, [change], tick)
            self.fails(ClearError, code, centre.solve, by, flight, [], tick)
        else:
            before = state(centre)
            self.assertEqual(centre.solve(by, flight, [change], tick), (None, [(change, ("bad", code))]))
            self.assertEqual(state(centre)[:4], before[:4])

    def test_flight(self):
        centre = made(request("F1"), until=4)
        self.refused("flight", centre)
        self.refused("flight", centre, "F2")
        self.refused("flight", centre, "")
        pass_ticks(centre, 5)
        self.refused("flight", centre, "F2")
        self.says(centre, "F1", ("level", 120), 10)
        pass_ticks(centre, 25)
        self.refused("flight", centre, tick=26)

    def test_owner(self):
        centre = made(request("F1"), until=5)
        for by in ("E", "X", "Y", ""):
            self.refused("owner", centre, by=by)
        message = centre.give("F1", "W", "E")
        self.refused("owner", centre, by="W")
        self.refused("owner", centre, by="E")
        centre.pass_on("F1", message)
        self.refused("owner", centre, by="W")
        self.says(centre, "F1", ("level", 120), 10, by="E")

    def test_busy(self):
        centre = made(request("F1"), until=5)
        clearance = self.says(centre, "F1", ("level", 120), 10)
        self.refused("busy", centre, tick=11)
        self.confirms(centre, clearance)
        self.refused("busy", centre, tick=11)
        pass_ticks(centre, 10)
        self.assertEqual(len(self.courses(centre, "F1")), 2)
        self.refused("busy", centre, tick=12)
        centre.hear(("taken", "F1", 1))
        self.says(centre, "F1", ("level", 130), 12, 2)

    def test_tick(self):
        centre = made(request("F1"), until=8)
        self.refused("tick", centre, tick=7)
        self.refused("tick", centre, tick=8)
        self.refused("tick", centre, tick=-5)
        self.refused("tick", centre, tick=39)
        self.says(centre, "F1", ("level", 120), 9)

    def test_last_box(self):
        centre = made(request("F1"), until=5)
        self.refused("tick", centre, tick=25)
        self.says(centre, "F1", SAME, 24)

    def test_thirty_ticks(self):
        slow = (1, 50, 50, 2, 5)
        centre = made(request("F1", kind=slow), until=6)
        self.refused("tick", centre, change=("level", 101), tick=37)
        self.says(centre, "F1", ("level", 101), 36)

    def test_course_that_is_over(self):
        # The second course is over at once; when it is the only one, it has no box.
        centre = made(request("F1"), until=5)
        clearance = self.says(centre, "F1", ("route", ("A1", "B1")), 15)
        self.confirms(centre, clearance)
        pass_ticks(centre, 15)
        centre.hear(("taken", "F1", 1))
        self.assertEqual(self.courses(centre, "F1"), [((("A1", "B1"), 100, 100), (1000, 1000, 100, 100))])
        self.refused("tick", centre, tick=16)
        pass_ticks(centre, 16)
        self.assertEqual(centre.view("F1")["state"], "gone")

    def test_level(self):
        centre = made(request("F1"), until=5)
        self.refused("change", centre, change=("level", -1))
        self.refused("change", centre, change=("level", 601))
        self.says(centre, "F1", ("level", 600), 10)
        self.says(made(request("F1"), until=5), "F1", ("level", 0), 10)

    def test_speed(self):
        centre = made(request("F1"), until=5)
        self.refused("change", centre, change=("speed", 49))
        self.refused("change", centre, change=("speed", 101))
        self.says(centre, "F1", ("speed", 50), 10)
        self.says(made(request("F1"), until=5), "F1", ("speed", 100), 10)

    def test_no_route(self):
        centre = made(request("F1"), until=5)
        for route in ((), ("A1",), ("A1", "B2", "C2"), ("A1", "C1"), ("A1", "B1", "X"), ("A1", "A1"), ("B1", "A1")):
            self.refused("change", centre, change=("route", route))
        chart = lanes_chart()
        chart["legs"] += [("B1", "A1", "W", 0, 600)]
        centre = made(request("F1"), chart=chart, until=5)
        self.refused("change", centre, change=("route", ("A1", "B1") * 8 + ("C1",)))
        self.says(centre, "F1", ("route", ("A1", "B1") * 8), 10)

    def test_joins_at_the_last_possible_leg(self):
        # At the tick 15 it is exactly at B1.
        for tick in (6, 14, 15):
            self.says(made(request("F1"), until=5), "F1", ("route", CROSS), tick)
        centre = made(request("F1"), until=5)
        for tick in (16, 17, 24):
            self.refused("change", centre, change=("route", CROSS), tick=tick)
            self.refused("change", centre, change=("route", ("A1", "B1")), tick=tick)
        self.says(centre, "F1", ("route", LANE1), 24)

    def test_joins_by_the_high_of_the_box(self):
        # The box at the tick 14 is from 880 to 980 or 1030.
        centre = made(request("F1", late=100), rules=exact_rules(slip=0), until=5)
        self.says(centre, "F1", ("route", CROSS), 15)
        centre = made(request("F1", late=100), rules=exact_rules(slip=1), until=5)
        self.refused("change", centre, change=("route", CROSS), tick=15)
        self.says(centre, "F1", ("route", CROSS), 14)

    def test_joins_at_the_end_of_the_path(self):
        chart = lanes_chart()
        chart["legs"] += [("C1", "C2", "Y", 0, 600)]
        centre = made(request("F1"), chart=chart, until=5)
        self.says(centre, "F1", ("route", ("A1", "B1", "C1", "C2")), 24)
        centre = made(request("F1", late=50), chart=chart, rules=exact_rules(slip=6), until=5)
        # The box at the tick 24 reaches beyond the total: not even the same route joins.
        self.refused("change", centre, change=("route", ("A1", "B1", "C1", "C2")), tick=24)
        self.refused("change", centre, change=("route", LANE1), tick=24)
        self.says(centre, "F1", ("route", ("A1", "B1", "C1", "C2")), 23)

    def test_joins_at_the_first_fix(self):
        chart = lanes_chart()
        chart["legs"] += [("A1", "B2", "Y", 0, 600)]
        early = request("F1", late=150)
        centre = made(early, chart=chart, until=5)
        # The box is from -150 to 0 at its entry, and nothing but A1 is before it a tick later.
        self.refused("change", centre, change=("route", ("A1", "B2")), tick=6)
        winds = [(0, -100, 0, 0), (7, 0, 0, 0)]
        still = made(("F1", (1, 101, 101, 2, 5), "A1", "C1", 100, 100, 5, 150), chart=chart, winds=winds, until=5)
        self.refused("change", still, change=("route", ("A1", "B2")), tick=6)

    def test_other_first_fix(self):
        chart = lanes_chart()
        chart["legs"] += [("A2", "B1", "Y", 0, 600)]
        centre = made(request("F1"), chart=chart, until=5)
        self.refused("change", centre, change=("route", ("A2", "B1", "C1")))
        self.refused("change", centre, change=("route", ("B1", "C1")))

    def test_shut_and_long(self):
        chart = lanes_chart()
        chart["legs"] += [("C1", "C3", "Y", 0, 600), ("C3", "C1", "Y", 0, 600)]
        chart["hours"] = [("B1", "C2", 0, 100000)]
        centre = made(request("F1"), chart=chart, until=5)
        self.refused("shut", centre, change=("route", CROSS))
        self.refused("long", centre, change=("route", LANE1 + ("C3", "C1") * 3))
        # These are 215 boxes from the tick 10 on.
        self.says(centre, "F1", ("route", (*LANE1, "C3", "C1")), 10)

    def test_level_and_slow(self):
        chart = lanes_chart()
        chart["legs"] += [("B1", "B3", "Y", 0, 90), ("C1", "C3", "Y", 0, 600)]
        centre = made(request("F1"), chart=chart, until=5)
        # The target on the leg to B1 is brought to 90; from 13 on that is too late.
        self.refused("level", centre, change=("route", ("A1", "B1", "B3")), tick=13)
        self.says(centre, "F1", ("route", ("A1", "B1", "B3")), 7)
        # Towards C3 the wind blows against it.
        centre = made(request("F1"), chart=chart, winds=[(0, 0, -100, 0)], until=5)
        self.refused("slow", centre, change=("route", (*LANE1, "C3")))

    def test_order_of_the_codes(self):
        centre = made(request("F1"), until=6)
        self.refused("flight", centre, "F2", ("level", -1), 2, "Y")
        self.refused("owner", centre, "F1", ("level", -1), 2, "Y")
        self.refused("tick", centre, "F1", ("level", -1), 2)
        self.refused("change", centre, "F1", ("speed", 5))
        clearance = self.says(centre, "F1", ("level", 120), 10)
        self.refused("owner", centre, "F1", ("level", -1), 2, "Y")
        self.refused("busy", centre, "F1", ("level", -1), 2)
        self.confirms(centre, clearance)

    def test_codes_before_conflicts(self):
        centre = made(request("F1"), request("F2", 2, level=100), until=5)
        self.refused("change", centre, change=("level", 601))
        chart = lanes_chart()
        chart["hours"] = [("B1", "C2", 0, 100000)]
        centre = made(request("F1"), request("F2", 2, tick=55), chart=chart, until=5)
        self.refused("shut", centre, change=("route", CROSS))


class ConflictTest(CentreCase):
    """F1 comes over B1 at 15; on the cross leg it is at C2 at the tick 66."""

    def refused(self, fields, centre, change=("route", CROSS), tick=10, flight="F1"):
        self.fails(ConflictError, fields, centre.say, "W", flight, change, tick)
        before = state(centre)
        self.assertEqual(centre.solve("W", flight, [change], tick), (None, [(change, ("held", *fields))]))
        self.assertEqual(state(centre)[:4], before[:4])

    def test_near(self):
        # At the tick 63 they are 380 from each other, at 64 254; 320 is far enough.
        centre = made(request("F1"), request("F2", 2, tick=46), until=5)
        name, kind, tick = "F2", "near", 64
        self.refused((name, kind, tick), centre)

    def test_wake(self):
        centre = made(request("F1"), request("F2", 2, tick=46, level=200), until=5)
        self.refused(("F2", "wake", 66), centre)
        centre = made(request("F1"), request("F2", 2, tick=49, level=200), until=5)
        self.says(centre, "F1", ("route", CROSS), 10)
        centre = made(request("F1"), request("F2", 2, tick=48, level=200), until=5)
        self.refused(("F2", "wake", 68), centre)

    def test_first_flight(self):
        rules = exact_rules(gaps=((5,) * 4,) * 4)
        for names, expected in ((("F2", "F3"), ("F2", "wake", 66)), (("F3", "F2"), ("F2", "wake", 67))):
            centre = made(
                request("F1"), request(names[0], 2, 42, level=200), request(names[1], 2, 47, level=200),
                rules=rules, until=5,
            )
            self.refused(expected, centre)

    def test_offer_of_an_open_clearance(self):
        centre = made(request("F1"), request("F2", 2, level=200, kind=(1, 27, 100, 2, 5)), until=5)
        clearance = self.says(centre, "F2", ("speed", 27), 10)
        self.assertEqual(centre.view("F2")["promised"], 66)
        self.refused(("F2", "wake", 66), centre)
        self.confirms(centre, clearance)
        pass_ticks(centre, 10)
        # Now it is that of the second course.
        self.assertEqual(len(self.courses(centre, "F2")), 2)
        self.refused(("F2", "wake", 66), centre, tick=12)
        centre.hear(("not", "F2", 1))
        self.says(centre, "F1", ("route", CROSS), 12)

    def test_first_offer_of_a_flight(self):
        centre = made(request("F1"), request("F2", 2, level=200, kind=(1, 32, 33, 2, 5)), until=5)
        self.says(centre, "F2", ("speed", 32), 30)
        self.assertEqual([len(offer[4]) + offer[3] for offer in self.offers(centre, "F2")], [66, 67])
        self.refused(("F2", "wake", 66), centre)

    def test_gone_flights(self):
        # F2 lands at the tick 25, and F1 would land on the same runway at 81.
        for gap, least in ((56, None), (57, 81)):
            rules = exact_rules(gaps=((gap,) * 4,) * 4)
            centre = made(request("F2", 2), request("F1", tick=20), rules=rules, until=26)
            self.assertEqual(centre.view("F2")["state"], "gone")
            if least is not None:
                self.refused(("F2", "wake", least), centre, tick=28)
            else:
                self.says(centre, "F1", ("route", CROSS), 28)

    def test_full(self):
        chart = lanes_chart()
        chart["capacities"] = {"X": 1, "W": 3, "E": 1}
        centre = made(request("F1"), chart=chart, until=5)
        self.assertEqual(centre.enter([("F2", KIND, "B1", "C2", 300, 300, 20, 0)]), ((0,), []))
        # F2 is in X from 20 on; F1 would come there at 15.
        self.refused(("X", "full", 20), centre)

    def test_full_least_tick(self):
        # F1 is in W up to the tick 14, but if it slows down then, up to 15.
        one_speed = (1, 100, 100, 2, 5)
        for tick, expected in ((15, 15), (16, None)):
            chart = lanes_chart()
            chart["capacities"] = {"W": 1}
            centre = made(request("F1"), request("F3", 3, tick, kind=one_speed), chart=chart, until=5)
            if expected is None:
                self.says(centre, "F1", ("speed", 50), 14)
            else:
                self.refused(("W", "full", expected), centre, ("speed", 50), 14)

    def test_full_counts_other_flights_once(self):
        chart = lanes_chart()
        chart["capacities"] = {"W": 2}
        centre = made(request("F1"), request("F3", 3, level=120), chart=chart, until=5)
        self.says(centre, "F3", ("level", 110), 7)
        self.assertEqual(len(self.offers(centre, "F3")), 2)
        self.says(centre, "F1", ("level", 110), 8)

    def test_full_first_sector(self):
        # F3 is in W from 15 on and in E from 25 on; F1 slowed down is in W up to 15 and then in E.
        for capacities, expected in (({"E": 1, "W": 1}, ("E", "full", 25)), ({"W": 1}, ("W", "full", 15)),
                                     ({"E": 2, "W": 1}, ("W", "full", 15)), ({"E": 1, "W": 2}, ("E", "full", 25))):
            chart = lanes_chart()
            chart["capacities"] = capacities
            centre = made(request("F1"), request("F3", 3, 15, kind=(1, 100, 100, 2, 5)), chart=chart, until=5)
            self.refused(expected, centre, ("speed", 50), 14)

    def test_full_without_this_flight(self):
        # W is over its capacity only if this flight is there.
        chart = lanes_chart()
        chart["capacities"] = {"X": 1, "E": 1}
        centre = made(request("F1"), chart=chart, until=5)
        self.assertEqual(centre.enter([request("F2", 2, 15, kind=(1, 100, 100, 2, 5))]), ((0,), []))
        self.says(centre, "F1", ("route", CROSS), 12)

    def test_clash_before_full(self):
        chart = lanes_chart()
        chart["capacities"] = {"X": 1}
        centre = made(request("F1"), request("F2", 2, tick=46), chart=chart, until=5)
        self.assertEqual(centre.enter([("F0", KIND, "B1", "C2", 300, 300, 20, 0)]), ((0,), []))
        self.refused(("F2", "near", 64), centre)

    def test_own_offers_do_not_count(self):
        chart = lanes_chart()
        chart["capacities"] = {"W": 1, "E": 1, "X": 1}
        centre = made(request("F1"), chart=chart, until=5)
        self.says(centre, "F1", ("level", 120), 10)


class SayTest(CentreCase):
    def test_message_and_view(self):
        centre = made(request("F1"), until=6)
        clearance = self.says(centre, "F1", ("level", 120), 10)
        view = centre.view("F1")
        self.assertEqual(view["open"], (clearance, False))
        self.assertEqual(view["courses"], [((LANE1, 100, 100), (100, 100, 100, 100))])
        self.assertEqual(view["promised"], 25)
        self.assertEqual(centre.log()[-1], ("say", "W", "F1", ("level", 120), 10))

    def test_numbers(self):
        centre = made(request("F1"), request("F2", 2), until=6)
        self.says(centre, "F1", ("level", 120), 8, 1)
        self.says(centre, "F2", ("level", 120), 8, 1)
        self.fails(ClearError, "busy", centre.say, "W", "F1", ("level", 110), 9)
        pass_ticks(centre, 8)
        self.fails(ClearError, "change", centre.say, "W", "F1", ("level", 601), 12)
        self.says(centre, "F1", ("level", 130), 10, 2)
        centre.hear(("not", "F1", 2))
        self.says(centre, "F1", ("level", 130), 10, 3)
        self.says(centre, "F2", ("level", 130), 10, 2)

    def test_promised_tick(self):
        centre = made(request("F1"), until=6)
        self.says(centre, "F1", ("speed", 50), 10)
        # From 500 on it needs 30 ticks more.
        self.assertEqual(centre.view("F1")["promised"], 40)
        centre.hear(("not", "F1", 1))
        self.assertEqual(centre.view("F1")["promised"], 40)
        self.says(centre, "F1", ("speed", 60), 10, 2)
        self.assertEqual(centre.view("F1")["promised"], 40)
        slow = made(request("F1", kind=(1, 50, 60, 2, 5)), until=6)
        self.assertEqual(slow.view("F1")["promised"], 39)
        self.says(slow, "F1", ("route", ("A1", "B1")), 10)
        self.assertEqual(slow.view("F1")["promised"], 39)

    def test_promised_tick_is_the_latest(self):
        centre = made(request("F1"), rules=exact_rules(slip=4), until=6)
        self.assertEqual(centre.view("F1")["promised"], 26)
        self.says(centre, "F1", ("speed", 50), 10)
        # The low is 480 at the tick 10, and 46 more in each tick.
        self.assertEqual(centre.view("F1")["promised"], 44)

    def test_routes(self):
        centre = made(request("F1"), until=6)
        self.says(centre, "F1", ("route", CROSS), 15)
        self.assertEqual(centre.view("F1")["promised"], 66)
        self.assertEqual(self.offers(centre, "F1"), [
            (1, "C1", LANE1, 6, boxes(100, 2000)), (1, "C2", CROSS, 15, boxes(1000, 6100)),
        ])


class SolveTest(CentreCase):
    def test_no_changes(self):
        centre = made(request("F1"), until=6)
        self.assertEqual(centre.solve("W", "F1", [], 10), (None, []))
        self.assertEqual(centre.log()[-1], ("solve", "W", "F1", [], 10))
        self.fails(ClearError, "tick", centre.solve, "W", "F1", [], 6)
        self.fails(ClearError, "flight", centre.solve, "W", "F2", [], 10)
        self.fails(ClearError, "owner", centre.solve, "E", "F1", [], 10)
        self.says(centre, "F1", SAME, 10)
        self.fails(ClearError, "busy", centre.solve, "W", "F1", [], 10)

    def test_first_change(self):
        centre = made(request("F1"), until=6)
        changes = [("level", 120), ("level", 601)]
        self.assertEqual(centre.solve("W", "F1", changes, 10), (("say", ("F1", 1, 10, ("level", 120))), []))
        self.assertEqual(changes, [("level", 120), ("level", 601)])
        self.assertEqual(centre.view("F1")["open"], (("F1", 1, 10, ("level", 120)), False))
        changes.clear()
        self.assertEqual(centre.log()[-1], ("solve", "W", "F1", [("level", 120), ("level", 601)], 10))

    def test_later_change(self):
        chart = lanes_chart()
        chart["capacities"] = {"X": 1}
        centre = made(request("F1"), request("F2", 2, tick=48, level=200), chart=chart, until=5)
        changes = [("level", 601), ("route", CROSS), ("speed", 50), ("speed", 60)]
        self.assertEqual(centre.solve("W", "F1", changes, 10), (("say", ("F1", 1, 10, ("speed", 50))), []))
        self.assertEqual(centre.view("F1")["promised"], 40)
        self.assertEqual([call[0] for call in centre.log()[-1:]], ["solve"])

    def test_no_possible_change(self):
        chart = lanes_chart()
        chart["hours"] = [("B1", "C1", 30, 60)]
        centre = made(request("F1"), request("F2", 2, tick=48, level=200), chart=chart, until=5)
        changes = [("level", 601), ("speed", 50), ("route", CROSS), ("route", ("A1",)), ("speed", 50)]
        reasons = [("bad", "change"), ("bad", "shut"), ("held", "F2", "wake", 68), ("bad", "change"), ("bad", "shut")]
        before = state(centre)
        found = centre.solve("W", "F1", changes, 10)
        self.assertEqual(found, (None, list(zip(changes, reasons))))
        found[1].clear()
        after = state(centre)
        self.assertEqual(after[:4] + after[5:], before[:4] + before[5:])
        self.assertEqual(after[4][-1], ("solve", "W", "F1", changes, 10))
        self.says(centre, "F1", ("level", 120), 10)

    def test_full(self):
        chart = lanes_chart()
        chart["capacities"] = {"X": 1}
        centre = made(request("F1"), chart=chart, until=5)
        self.assertEqual(centre.enter([("F2", KIND, "B1", "C2", 300, 300, 20, 0)]), ((0,), []))
        change = ("route", CROSS)
        self.assertEqual(centre.solve("W", "F1", [change], 10), (None, [(change, ("held", "X", "full", 20))]))


if __name__ == "__main__":
    unittest.main()
