"""Points 49, 50 and 54: what the centre hears, its reminders, the responsibility, and the log."""
import unittest

from skyapart.errors import ClearError, HandoverError
from tests.centres import CentreCase, made, pass_ticks, request, state

LANE1 = ("A1", "B1", "C1")


class HearCase(CentreCase):
    """F1 enters at 5; its first clearance is for the tick 10."""

    def setUp(self):
        self.centre = made(request("F1"), request("F2", 2, tick=50), until=6)

    def nothing(self, message):
        """Check that the message changes nothing but the log, and is not answered."""
        before = state(self.centre)
        self.assertIsNone(self.centre.hear(message))
        after = state(self.centre)
        self.assertEqual(after[:4] + after[5:], before[:4] + before[5:])
        self.assertEqual(after[4], before[4] + [("hear", message)])

    def open(self, confirmed=False, tick=10):
        clearance = self.says(self.centre, "F1", ("level", 120), tick)
        if confirmed:
            self.confirms(self.centre, clearance)
        return clearance

    def others(self, clearance):
        flight, number, tick, (what, value) = clearance
        return [(flight, number + 1, tick, (what, value)), (flight, number, tick + 1, (what, value)),
                (flight, number, tick, (what, value + 1)), (flight, number, tick, ("speed", value))]


class ReadTest(HearCase):
    def test_right(self):
        clearance = self.open()
        for _ in range(3):
            self.confirms(self.centre, clearance)
            self.assertEqual(self.centre.view("F1")["open"], (clearance, True))

    def test_wrong_before_it_is_confirmed(self):
        clearance = self.open()
        for other in self.others(clearance):
            self.assertEqual(self.centre.hear(("read", other)), ("say", clearance))
            self.assertEqual(self.centre.view("F1")["open"], (clearance, False))
        self.confirms(self.centre, clearance)

    def test_wrong_behind_it(self):
        clearance = self.open(True)
        for other in self.others(clearance):
            self.nothing(("read", other))
        self.confirms(self.centre, clearance)

    def test_no_open_clearance(self):
        self.nothing(("read", ("F1", 1, 10, ("level", 120))))
        self.open()
        self.centre.hear(("not", "F1", 1))
        self.nothing(("read", ("F1", 1, 10, ("level", 120))))

    def test_tick_of_the_clearance(self):
        clearance = self.open()
        pass_ticks(self.centre, 9)
        self.assertEqual(self.centre.hear(("read", self.others(clearance)[0])), ("say", clearance))
        self.confirms(self.centre, clearance)
        pass_ticks(self.centre, 10)
        self.nothing(("read", clearance))
        self.nothing(("read", self.others(clearance)[0]))
        pass_ticks(self.centre, 11)
        self.nothing(("read", clearance))

    def test_tick_of_one_that_was_not_confirmed(self):
        clearance = self.open()
        pass_ticks(self.centre, 10)
        self.nothing(("read", clearance))
        self.assertEqual(len(self.courses(self.centre, "F1")), 1)

    def test_flights_that_are_not_flying(self):
        self.nothing(("read", ("F2", 1, 60, ("level", 120))))
        self.nothing(("read", ("F9", 1, 60, ("level", 120))))
        pass_ticks(self.centre, 25)
        self.assertEqual(self.centre.view("F1")["state"], "gone")
        self.nothing(("read", ("F1", 1, 60, ("level", 120))))


class TakenTest(HearCase):
    def two(self):
        """Let F1 have two courses."""
        clearance = self.open(True)
        pass_ticks(self.centre, 10)
        self.assertEqual(self.courses(self.centre, "F1"), [
            ((LANE1, 100, 100), (500, 500, 100, 100)), ((LANE1, 100, 120), (500, 500, 100, 100)),
        ])
        return clearance

    def test_taken(self):
        self.two()
        self.assertIsNone(self.centre.hear(("taken", "F1", 1)))
        self.assertEqual(self.courses(self.centre, "F1"), [((LANE1, 100, 120), (500, 500, 100, 100))])
        self.nothing(("taken", "F1", 1))
        self.nothing(("not", "F1", 1))

    def test_not(self):
        self.two()
        self.assertIsNone(self.centre.hear(("not", "F1", 1)))
        self.assertEqual(self.courses(self.centre, "F1"), [((LANE1, 100, 100), (500, 500, 100, 100))])
        self.nothing(("not", "F1", 1))
        self.nothing(("taken", "F1", 1))

    def test_other_numbers(self):
        self.two()
        for what in ("taken", "not"):
            for number in (0, 2, 7):
                self.nothing((what, "F1", number))
            self.nothing((what, "F2", 1))
            self.nothing((what, "F9", 1))

    def test_later_clearance(self):
        self.two()
        self.centre.hear(("taken", "F1", 1))
        clearance = self.says(self.centre, "F1", ("level", 130), 12, 2)
        self.assertEqual(self.centre.view("F1")["open"], (clearance, False))
        self.confirms(self.centre, clearance)
        self.nothing(("taken", "F1", 1))
        pass_ticks(self.centre, 12)
        self.nothing(("taken", "F1", 1))
        self.nothing(("not", "F1", 1))
        self.assertIsNone(self.centre.hear(("taken", "F1", 2)))
        self.assertEqual([course for course, _ in self.courses(self.centre, "F1")], [(LANE1, 100, 130)])

    def test_taken_of_an_open_clearance(self):
        for confirmed in (False, True):
            self.setUp()
            self.open(confirmed)
            self.nothing(("taken", "F1", 1))

    def test_not_of_an_open_clearance(self):
        for confirmed in (False, True):
            self.setUp()
            self.open(confirmed)
            self.nothing(("not", "F1", 2))
            self.nothing(("not", "F1", 0))
            self.assertIsNone(self.centre.hear(("not", "F1", 1)))
            self.assertIsNone(self.centre.view("F1")["open"])
            self.assertEqual(len(self.offers(self.centre, "F1")), 1)
            clearance = self.says(self.centre, "F1", ("level", 130), 10, 2)
            self.assertEqual(self.centre.view("F1")["open"], (clearance, False))
            pass_ticks(self.centre, 10)
            self.assertEqual(len(self.courses(self.centre, "F1")), 1)

    def test_flights_that_are_not_flying(self):
        self.open(True)
        pass_ticks(self.centre, 25)
        for flight in ("F1", "F2", "F9"):
            for what in ("taken", "not"):
                self.nothing((what, flight, 1))


class OtherKindsTest(HearCase):
    def check(self):
        clearance = ("F1", 1, 10, ("level", 120))
        for message in (("say", clearance), ("confirm", clearance), ("ask", "F1", 1), ("ask", "F9", 1)):
            self.nothing(message)

    def test_without_and_with_an_open_clearance(self):
        self.check()
        clearance = self.open()
        self.check()
        self.confirms(self.centre, clearance)
        self.check()
        pass_ticks(self.centre, 10)
        self.check()


class RemindTest(HearCase):
    def reminds(self, message, flight="F1"):
        before = state(self.centre)
        self.assertEqual(self.centre.remind(flight), message)
        self.assertEqual(state(self.centre), before)

    def test_each_state(self):
        self.reminds(None)
        clearance = self.open()
        self.reminds(("say", clearance))
        self.centre.hear(("read", self.others(clearance)[0]))
        self.reminds(("say", clearance))
        self.confirms(self.centre, clearance)
        self.reminds(("confirm", clearance))
        pass_ticks(self.centre, 9)
        self.reminds(("confirm", clearance))
        pass_ticks(self.centre, 10)
        self.reminds(("ask", "F1", 1))
        pass_ticks(self.centre, 11)
        self.reminds(("ask", "F1", 1))
        self.centre.hear(("taken", "F1", 1))
        self.reminds(None)

    def test_number_of_the_second_course(self):
        self.open()
        self.centre.hear(("not", "F1", 1))
        self.confirms(self.centre, self.says(self.centre, "F1", ("level", 120), 10, 2))
        pass_ticks(self.centre, 10)
        self.reminds(("ask", "F1", 2))

    def test_not_confirmed_at_its_tick(self):
        self.open()
        pass_ticks(self.centre, 10)
        self.reminds(None)

    def test_flights_that_are_not_flying(self):
        self.open(True)
        self.reminds(None, "F2")
        self.reminds(None, "F9")
        pass_ticks(self.centre, 25)
        self.reminds(None)


class ResponsibilityTest(CentreCase):
    def check(self, centre, flight):
        message = centre.give(flight, "W", "E")
        self.assertEqual(message, ("give", 1, "W", "E"))
        self.assertEqual(centre.view(flight)["responsible"], "W")
        self.assertFalse(centre.acts(flight, "W"))
        before = centre.log()
        self.assertEqual(centre.repeat(flight, "W"), message)
        self.assertEqual(centre.log(), before)
        self.fails(HandoverError, "state", centre.repeat, flight, "E")
        self.fails(HandoverError, "sector", centre.repeat, flight, "Y")
        self.fails(HandoverError, "state", centre.give, flight, "W", "E")
        self.fails(HandoverError, "sector", centre.give, flight, "W", "Y")
        self.fails(HandoverError, "sector", centre.pass_on, flight, ("give", 1, "W", "W"))
        self.fails(HandoverError, "sector", centre.pass_on, flight, ("took", 1, "Y", "W"))
        answer = centre.pass_on(flight, message)
        self.assertEqual(answer, ("took", 1, "E", "W"))
        self.assertEqual(centre.view(flight)["responsible"], "E")
        self.assertTrue(centre.acts(flight, "E"))
        self.assertIsNone(centre.pass_on(flight, answer))
        self.fails(HandoverError, "state", centre.repeat, flight, "W")
        self.assertEqual(centre.log()[-3:], [
            ("give", flight, "W", "E"), ("pass_on", flight, message), ("pass_on", flight, answer),
        ])

    def test_waiting_and_flying(self):
        centre = made(request("F1"), request("F2", 2, tick=50), until=6)
        self.check(centre, "F1")
        self.check(centre, "F2")
        self.assertEqual(centre.give("F2", "E", "W"), ("give", 2, "E", "W"))
        self.assertTrue(centre.acts("F1", "E"))

    def test_gone_and_unknown(self):
        centre = made(request("F1"), until=25)
        self.assertEqual(centre.view("F1")["state"], "gone")
        for flight in ("F1", "F9", ""):
            self.fails(ClearError, "flight", centre.give, flight, "W", "E")
            self.fails(ClearError, "flight", centre.give, flight, "Y", "Y")
            self.fails(ClearError, "flight", centre.repeat, flight, "Y")
            self.fails(ClearError, "flight", centre.pass_on, flight, ("give", 1, "W", "E"))
            self.fails(ClearError, "flight", centre.pass_on, flight, ("give", 1, "Y", "Y"))
            for sector in ("W", "E", "Y"):
                self.assertIs(centre.acts(flight, sector), False)

    def test_acts(self):
        centre = made(request("F1"), until=3)
        for tick in (3, 5, 24):
            pass_ticks(centre, tick)
            self.assertIs(centre.acts("F1", "W"), True)
            self.assertIs(centre.acts("F1", "E"), False)
            self.assertIs(centre.acts("F1", "Y"), False)

    def test_view_of_a_gone_flight(self):
        centre = made(request("F1"), until=10)
        centre.pass_on("F1", centre.give("F1", "W", "E"))
        pass_ticks(centre, 25)
        self.assertEqual(centre.view("F1")["responsible"], "E")


class LogTest(CentreCase):
    def test_calls_in_order(self):
        centre = made()
        asked, plots, changes = [request("F1")], [(-5, 3, 9), (0, 0, 100)], [("level", 601), ("level", 130)]
        calls = [("enter", list(asked)), ("enter", [request("F2", 1, 5)])]
        centre.enter(asked)
        centre.enter([request("F2", 1, 5)])
        for _ in range(5):
            centre.advance(list(plots))
            calls.append(("advance", list(plots)))
        clearance = centre.say("W", "F1", ("level", 120), 9)[1]
        calls.append(("say", "W", "F1", ("level", 120), 9))
        for message in (("read", clearance), ("taken", "F9", 1), ("say", clearance)):
            centre.hear(message)
            calls.append(("hear", message))
        message = centre.give("F1", "W", "E")
        centre.repeat("F1", "W")
        calls.append(("give", "F1", "W", "E"))
        centre.remind("F1")
        centre.pass_on("F1", message)
        calls.append(("pass_on", "F1", message))
        centre.alerts()
        centre.strips("F1")
        centre.load("W", 9)
        centre.watched(0)
        centre.hear(("not", "F1", 1))
        calls.append(("hear", ("not", "F1", 1)))
        centre.plan("E", "F1", ("level", 120), 7, 9, [])
        centre.solve("E", "F1", changes, 9)
        calls.append(("solve", "E", "F1", list(changes), 9))
        self.assertEqual(centre.log(), calls)

    def test_calls_that_raise_are_not_in_it(self):
        centre = made(request("F1"), until=6)
        before = centre.log()
        for call in (
            lambda: centre.enter([request("F1")]), lambda: centre.say("E", "F1", ("level", 1), 9),
            lambda: centre.solve("W", "F1", [], 6), lambda: centre.give("F1", "E", "W"),
            lambda: centre.pass_on("F1", ("give", 1, "W", "W")), lambda: centre.repeat("F1", "W"),
            lambda: centre.plan("W", "F1", ("level", 1), 9, 8, []),
        ):
            with self.assertRaises(ValueError):
                call()
        self.assertEqual(centre.log(), before)

    def test_what_was_handed_in(self):
        centre = made(request("F1"), until=6)
        plots, changes, asked = [(1, 2, 3)], [("level", 120)], [request("F2", 2, 40)]
        centre.advance(plots)
        centre.solve("W", "F1", changes, 9)
        centre.enter(asked)
        self.assertEqual((plots, changes, asked), ([(1, 2, 3)], [("level", 120)], [request("F2", 2, 40)]))
        before = state(centre)
        plots.append((4, 5, 6))
        changes.clear()
        asked[0] = request("F3")
        self.assertEqual(state(centre), before)


if __name__ == "__main__":
    unittest.main()
