"""Point 68: a flight that makes room for another one."""
import unittest

from skyapart.errors import ClearError, ConflictError
from tests.centres import CentreCase, exact_rules, lanes_chart, made, pass_ticks, request, state

CROSS = ("A1", "B1", "C2")
CHANGE = ("route", CROSS)


class PlanCase(CentreCase):
    """F1 flies on lane 1 from the tick 5 on and wants to go over to C2, where it would be at 66.

    F2 flies on lane 2, would be near C2 at that time, too, and can be faster or at another level.
    """

    def setUp(self):
        self.centre = self.make()

    def make(self, **others):
        kind = others.pop("kind", (1, 27, 100, 2, 5))
        centre = made(request("F1"), request("F3", 3), chart=others.pop("chart", None),
                      rules=others.pop("rules", None))
        # The first options are those with the greatest speed: slow down first.
        self.assertEqual(centre.enter([request("F2", 2, level=others.pop("level", 100), kind=kind)]), ((0,), []))
        pass_ticks(centre, 5)
        centre.say("W", "F2", ("speed", 27), 10)
        centre.hear(("read", ("F2", 1, 10, ("speed", 27))))
        pass_ticks(centre, 10)
        centre.hear(("taken", "F2", 1))
        return centre

    def plans(self, expected, helps, change=CHANGE, first=12, second=14, flight="F1", by="W", centre=None):
        centre = centre or self.centre
        before, handed = state(centre), list(helps)
        found = centre.plan(by, flight, change, first, second, helps)
        self.assertEqual(found, expected)
        self.assertEqual(helps, handed)
        found[1].append(1)
        self.assertEqual(state(centre), before)
        self.assertEqual(centre.plan(by, flight, change, first, second, helps), expected)


class HelpTest(PlanCase):
    def test_wish_without_help(self):
        self.fails(ConflictError, ("F2", "near", 63), self.centre.say, "W", "F1", CHANGE, 14)

    def test_no_helps(self):
        self.plans((None, []), [])

    def test_help_that_works(self):
        self.plans((0, []), [("F2", ("speed", 100))])
        self.plans((0, []), [("F2", ("speed", 40))])

    def test_first_help_that_works(self):
        self.plans((2, []), [
            ("F9", ("level", 5)), ("F2", ("speed", 28)), ("F2", ("speed", 50)), ("F2", ("speed", 100)),
        ])

    def test_help_that_fails(self):
        self.plans((None, [("help", ("bad", "change"))]), [("F2", ("level", 601))])
        self.plans((None, [("help", ("bad", "change"))]), [("F2", ("route", ("A2", "C2")))])

    def test_wish_that_fails(self):
        self.plans((None, [("wish", ("held", "F2", "near", 63))]), [("F2", ("speed", 27))])
        self.plans((None, [("wish", ("held", "F2", "wake", 66))]), [("F2", ("level", 160))])
        self.plans((None, [("wish", ("bad", "change"))]), [("F2", ("speed", 100))], ("level", 601))
        self.plans((None, [("wish", ("bad", "change"))]), [("F2", ("speed", 100))], ("route", ("A1", "B1", "B2")))
        self.plans((None, [("wish", ("bad", "change"))]), [("F2", ("speed", 100))], second=16)

    def test_help_that_changes_nothing_that_matters(self):
        self.plans((None, [("wish", ("held", "F2", "near", 63))]), [("F3", ("level", 120))])

    def test_one_reason_for_each(self):
        helps = [("F3", ("level", 120)), ("F1", ("level", 120)), ("F2", ("level", 160)), ("F2", ("speed", 26))]
        self.plans((None, [
            ("wish", ("held", "F2", "near", 63)), ("help", ("bad", "flight")), ("wish", ("held", "F2", "wake", 66)),
            ("help", ("bad", "change")),
        ]), helps)

    def test_flight_itself(self):
        self.plans((None, [("help", ("bad", "flight"))]), [("F1", ("level", 120))])

    def test_flights_that_do_not_fly(self):
        self.centre.enter([request("F4", 3, 40)])
        self.plans((None, [("help", ("bad", "flight"))] * 3), [
            ("F4", ("level", 120)), ("F9", ("level", 120)), ("", ("level", 120)),
        ])

    def test_flight_that_is_gone(self):
        centre = self.make(kind=(1, 27, 100, 2, 5))
        pass_ticks(centre, 12)
        centre.say("W", "F1", ("speed", 50), 13)
        pass_ticks(centre, 25)
        self.assertEqual(centre.view("F3")["state"], "gone")
        self.plans((None, [("help", ("bad", "flight"))]), [("F3", ("level", 120))], ("level", 110), 26, 27, "F2",
                   centre=centre)

    def test_owner_that_acts_for_none(self):
        self.centre.give("F2", "W", "E")
        self.plans((None, [("help", ("bad", "owner"))]), [("F2", ("speed", 100))])
        self.centre.pass_on("F2", ("give", 1, "W", "E"))
        self.plans((0, []), [("F2", ("speed", 100))])

    def test_other_sector_acts_for_the_other_flight(self):
        self.centre.pass_on("F2", self.centre.give("F2", "W", "X"))
        self.assertTrue(self.centre.acts("F2", "X"))
        self.plans((0, []), [("F2", ("speed", 100))])

    def test_busy(self):
        self.centre.say("W", "F3", ("level", 120), 20)
        self.plans((None, [("help", ("bad", "busy"))]), [("F3", ("level", 130))])

    def test_tick_of_the_other_flight(self):
        # F3 is out before the tick of its clearance; F1 is slow.
        centre = made(request("F1", kind=(1, 50, 50, 2, 5)), request("F3", 3), until=20)
        self.plans((None, [("help", ("bad", "tick"))]), [("F3", ("level", 120))], ("level", 110), 26, 30, centre=centre)
        self.plans((0, []), [("F3", ("level", 101))], ("level", 110), 24, 30, centre=centre)

    def test_help_that_overfills_a_sector(self):
        chart = lanes_chart()
        chart["legs"] += [("B2", "B1", "Y", 0, 600)]
        chart["capacities"] = {"Y": 1}
        centre = made(request("F1"), request("F2", 2), chart=chart)
        self.assertEqual(centre.enter([("F4", (1, 50, 100, 2, 5), "B2", "B1", 300, 300, 20, 0)]), ((0,), []))
        pass_ticks(centre, 7)
        way = ("route", ("A2", "B2", "B1", "C1"))
        self.fails(ConflictError, ("Y", "full", 20), centre.say, "W", "F2", way, 9)
        self.plans((None, [("help", ("held", "Y", "full", 20))]), [("F2", way)], ("level", 120), 9, 20, centre=centre)

    def test_help_that_clashes(self):
        # F3 cannot help by a change that would bring it too near to F2.
        chart = lanes_chart()
        chart["legs"] += [("B3", "B2", "Y", 0, 600)]
        centre = made(request("F1"), request("F3", 3, 5), request("F2", 2, 55), chart=chart, until=6)
        way = ("route", ("A3", "B3", "B2", "C2"))
        self.fails(ConflictError, ("F2", "near", 63), centre.say, "W", "F3", way, 9)
        self.plans((None, [("help", ("held", "F2", "near", 63))]), [("F3", way)], ("level", 120), 9, 20, "F1", "W", centre)

    def test_full_as_the_wish_fails(self):
        chart = lanes_chart()
        chart["capacities"] = {"E": 1, "W": 3}
        centre = made(request("F1"), request("F3", 3, 15, kind=(1, 50, 100, 2, 5)), chart=chart, until=6)
        pass_ticks(centre, 15)
        # F3 is in W from 15 on, and in E from 25 on; F1 would still be in E then, if it slowed down.
        self.plans((None, [("wish", ("held", "E", "full", 25))]), [("F3", ("level", 120))], ("speed", 50), 17, 20,
                   centre=centre)
        self.plans((0, []), [("F3", ("speed", 50))], ("speed", 50), 17, 20, centre=centre)
        # At the speed 70 it comes into E at the tick 29, when F1 is there for the last time; at 60, at 31.
        self.plans((None, [("wish", ("held", "E", "full", 29))]), [("F3", ("speed", 70))], ("speed", 50), 17, 20,
                   centre=centre)
        self.plans((0, []), [("F3", ("speed", 60))], ("speed", 50), 17, 20, centre=centre)


class ErrorTest(PlanCase):
    def refused(self, code, *arguments):
        self.fails(ClearError, code, self.centre.plan, *arguments)

    def test_errors_of_say(self):
        helps = [("F2", ("speed", 100))]
        self.refused("flight", "W", "F9", CHANGE, 12, 14, helps)
        self.refused("owner", "E", "F1", CHANGE, 12, 14, helps)
        self.refused("tick", "W", "F1", CHANGE, 12, 10, helps)
        self.refused("tick", "W", "F1", CHANGE, 12, 41, helps)
        self.refused("tick", "W", "F1", CHANGE, 12, 25, helps)
        self.centre.say("W", "F1", ("level", 120), 20)
        self.refused("busy", "W", "F1", CHANGE, 12, 14, helps)

    def test_ticks(self):
        helps = [("F2", ("speed", 100))]
        self.refused("tick", "W", "F1", CHANGE, 10, 14, helps)
        self.refused("tick", "W", "F1", CHANGE, 9, 14, helps)
        self.refused("tick", "W", "F1", CHANGE, 14, 14, helps)
        self.refused("tick", "W", "F1", CHANGE, 15, 14, helps)
        self.refused("tick", "W", "F1", CHANGE, 15, 14, [])
        self.plans((0, []), helps, first=11)
        self.plans((0, []), helps, first=13)

    def test_order(self):
        self.refused("flight", "E", "F9", CHANGE, 20, 3, [])
        self.refused("owner", "E", "F1", CHANGE, 20, 3, [])
        self.centre.say("W", "F1", ("level", 120), 20)
        self.refused("busy", "W", "F1", CHANGE, 20, 3, [])

    def test_change_is_no_error(self):
        self.plans((None, []), [], ("level", 601))


class WindowTest(PlanCase):
    def test_cut_track_counts(self):
        for gap, expected in ((54, (0, [])), (55, (None, [("wish", ("held", "F2", "wake", 66))]))):
            centre = self.make(rules=exact_rules(gaps=((gap,) * 4,) * 4))
            # With its new route F2 does not land at C2, but its old track is cut off there at the tick 12.
            self.plans(expected, [("F2", ("route", ("A2", "B2")))], centre=centre)


class FollowTest(PlanCase):
    def test_help_is_told_and_taken(self):
        centre = self.centre
        self.assertEqual(centre.plan("W", "F1", CHANGE, 12, 14, [("F2", ("speed", 100))]), (0, []))
        before = centre.log()
        clearance = self.says(centre, "F2", ("speed", 100), 12, 2)
        self.fails(ConflictError, ("F2", "near", 63), centre.say, "W", "F1", CHANGE, 14)
        self.confirms(centre, clearance)
        pass_ticks(centre, 12)
        self.fails(ConflictError, ("F2", "near", 63), centre.say, "W", "F1", CHANGE, 14)
        centre.hear(("taken", "F2", 2))
        self.says(centre, "F1", CHANGE, 14)
        self.assertEqual([call[0] for call in centre.log()[len(before):]],
                         ["say", "hear", "advance", "advance", "hear", "say"])


if __name__ == "__main__":
    unittest.main()
