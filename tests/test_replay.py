"""Point 54: logs are replayed."""
import copy
import unittest

from skyapart.calls import read_call
from skyapart.centre import Centre
from skyapart.errors import SkyError
from skyapart.replay import replay
from tests.centres import CALM, CentreCase, exact_rules, lanes_chart, made, pass_ticks, request, state
from tests.test_centre_random import Driver

LANE1 = ("A1", "B1", "C1")


def every_call(centre):
    """Let a centre have calls of each kind and with each kind of answer; return how many are in the log."""
    def refused(call, *arguments):
        try:
            call(*arguments)
        except SkyError:
            return
        raise AssertionError((call, arguments))

    # Admitted at once, together, refused with a refutation, and with an error.
    centre.enter([request("F1")])
    centre.enter([request("F2", 2, late=40), request("F3", 3, level=100, wanted=110)])
    if centre.enter([request("F4", 1, 8, level=100, wanted=100, kind=(3, 1, 2, 1, 1))])[0] is not None:
        raise AssertionError("admitted")
    refused(centre.enter, [request("F1", 1, 70)])
    refused(centre.enter, [request("F9", 1, 0)])
    refused(centre.say, "W", "F1", ("level", 120), 10)
    pass_ticks(centre, 5)
    # Plots of flights and of none.
    centre.advance([(100, 0, 100), (50, 5000, 101), (9000, 9000, 300)])
    # Clearances that are said, solved at once, later and not at all, and refused.
    clearance = centre.say("W", "F1", ("level", 120), 10)[1]
    refused(centre.say, "W", "F1", ("level", 130), 11)
    refused(centre.say, "W", "F2", ("level", 601), 11)
    centre.solve("W", "F2", [("level", 601), ("route", ("A2", "C2")), ("speed", 90)], 12)
    if centre.solve("W", "F3", [("speed", 999), ("route", LANE1)], 12)[0] is not None:
        raise AssertionError("solved")
    centre.solve("W", "F3", [], 12)
    refused(centre.solve, "E", "F3", [], 12)
    # Messages that are answered, and those that change nothing.
    centre.hear(("read", (*clearance[:3], ("level", 121))))
    centre.hear(("read", clearance))
    centre.hear(("taken", "F1", 7))
    centre.hear(("say", clearance))
    centre.hear(("not", "F2", 1))
    centre.hear(("ask", "F9", 1))
    # The responsibility.
    give = centre.give("F1", "W", "E")
    refused(centre.give, "F1", "W", "E")
    centre.repeat("F1", "W")
    took = centre.pass_on("F1", give)
    centre.pass_on("F1", took)
    centre.pass_on("F1", took)
    refused(centre.pass_on, "F1", ("give", 1, "W", "Y"))
    refused(centre.pass_on, "F9", give)
    # Questions, which are not in the log.
    centre.remind("F1")
    centre.plan("W", "F3", ("level", 120), 8, 9, [("F2", ("level", 140))])
    centre.load("W", 3), centre.alerts(), centre.watched(0), centre.strips("F1"), centre.held(), centre.log()
    centre.advance([(9050, 9000, 302)])
    pass_ticks(centre, 10)
    return len(centre.log())


class ReplayTest(CentreCase):
    def again(self, centre, chart=None, rules=None, winds=None):
        """Replay the log of a centre; check that both are equal, now and some ticks later."""
        chart, rules, winds = chart or lanes_chart(), rules or exact_rules(), winds or CALM
        log = centre.log()
        parts = (chart, rules, winds, log)
        before = copy.deepcopy(parts)
        found = replay(chart, rules, winds, log)
        self.assertEqual(parts, before)
        self.assertIsInstance(found, Centre)
        self.same(found, centre)
        return found

    def same(self, one, other):
        self.assertEqual(one.now(), other.now())
        self.assertEqual(one.flights(), other.flights())
        for name in one.flights():
            self.assertEqual(one.view(name), other.view(name))
        self.assertEqual(one.log(), other.log())
        self.assertEqual(state(one), state(other))

    def test_empty_log(self):
        found = replay(lanes_chart(), exact_rules(), CALM, [])
        self.assertEqual(found.log(), [])
        self.same(found, Centre(lanes_chart(), exact_rules(), CALM))

    def test_each_kind_of_call(self):
        centre = made()
        self.assertEqual(every_call(centre), 27)
        kinds = {call[0] for call in centre.log()}
        self.assertEqual(kinds, {"enter", "say", "hear", "give", "pass_on", "advance", "solve"})
        found = self.again(centre)
        self.assertEqual(len(centre.view("F1")["courses"]), 2)
        for plots in ([(520, 0, 102)], [], [(610, 0, 105), (7000, 7000, 90)]):
            self.assertEqual(found.advance(plots), centre.advance(plots))
            self.same(found, centre)
        self.assertEqual(found.hear(("taken", "F1", 1)), centre.hear(("taken", "F1", 1)))
        pass_ticks(found, 60)
        pass_ticks(centre, 60)
        self.same(found, centre)

    def test_behind_each_call(self):
        centre = made()
        every_call(centre)
        log = centre.log()
        one = made()
        for many in range(len(log) + 1):
            self.same(replay(lanes_chart(), exact_rules(), CALM, log[:many]), one)
            if many < len(log):
                what, *arguments = log[many]
                getattr(one, what)(*arguments)
        self.same(one, centre)

    def test_each_call_once_more_at_its_end(self):
        # What one call did in the first run, it does in the replay, with the same answer.
        centre = made(request("F1"), until=6)
        found = self.again(centre)
        for method, arguments in (
            ("enter", ([request("F5", 2, 40)],)), ("enter", ([request("F6", 1, 7)],)),
            ("say", ("W", "F1", ("level", 110), 9)), ("hear", (("read", ("F1", 1, 9, ("level", 110))),)),
            ("give", ("F1", "W", "E")), ("pass_on", ("F1", ("give", 1, "W", "E"))), ("advance", ([(200, 0, 100)],)),
            ("solve", ("E", "F1", [("level", 120)], 12)),
        ):
            answers = []
            for each in (centre, found):
                try:
                    answers.append(getattr(each, method)(*arguments))
                except SkyError as error:
                    answers.append((type(error), vars(error)))
            self.assertEqual(*answers)
            self.same(self.again(centre), found)

    def test_log_that_was_handed_out(self):
        centre = made()
        every_call(centre)
        before = state(centre)
        log = centre.log()
        for call in log:
            for part in call:
                if isinstance(part, list):
                    part.append("changed")
        log.clear()
        self.assertEqual(state(centre), before)
        self.again(centre)

    def test_log_that_was_handed_in(self):
        centre = made()
        every_call(centre)
        log = centre.log()
        found = replay(lanes_chart(), exact_rules(), CALM, log)
        for call in log:
            for part in call:
                if isinstance(part, list):
                    part.clear()
        log.clear()
        self.same(found, centre)

    def test_chart_rules_and_winds(self):
        chart, rules = lanes_chart(), exact_rules(slip=3, memory=9)
        chart["capacities"] = {"W": 2, "E": 1}
        chart["hours"] = [("B2", "C2", 10, 12)]
        winds = [(0, 4, 0, 1), (7, -9, 2, 3)]
        centre = Centre(chart, rules, winds)
        for lane in (1, 2, 3, 1):
            centre.enter([request(f"F{len(centre.log())}", lane, 5, late=30)])
        pass_ticks(centre, 9)
        found = self.again(centre, chart, rules, winds)
        for part in (*chart.values(), chart, rules, winds):
            part.clear()
        pass_ticks(centre, 30)
        pass_ticks(found, 30)
        self.same(found, centre)

    def test_calls_that_were_read_from_texts(self):
        centre = made()
        for text in ("ENTER FLIGHT F1 KIND 1 50 100 2 5 FROM A1 TO C1 AT 100 WANTS 100 TICK 2 LATE 0", "ADVANCE",
                     "ADVANCE 0 0 100", "SOLVE W F1 5 LEVEL 700 / LEVEL 120", "HEAR READ F1 1 AT 5 LEVEL 120"):
            what, *arguments = read_call(text)
            getattr(centre, what)(*arguments)
        self.assertEqual(centre.view("F1")["open"], (("F1", 1, 5, ("level", 120)), True))
        self.again(centre)

    def test_random_logs(self):
        for seed in (3, 21):
            driver = Driver(self, seed)
            for _ in range(45):
                driver.step()
            found = self.again(driver.centre, driver.chart, driver.rules, driver.winds)
            plots = driver.plots()
            self.assertEqual(found.advance(plots), driver.centre.advance(plots))
            self.same(found, driver.centre)


if __name__ == "__main__":
    unittest.main()
