"""Point 75: the primary, and the standby that takes over."""
import random
import unittest

from skyapart.centre import Centre
from skyapart.errors import ChartError, RuleError
from skyapart.journal import read_line
from skyapart.primary import Primary, take_over
from skyapart.standby import Feed, Standby
from tests.centres import CALM, exact_rules, lanes_chart, state
from tests.consoles import Texts, busy_lanes, plain_answer
from tests.test_console import asks

SESSION = (
    ("ADVANCE", "TICK 1", 1),
    ("ENTER " + asks("F1", tick=3), "ADMITTED 0", 1),
    ("ENTER " + asks("F1", tick=3), "ERROR REQUEST NAME 0", 0),
    ("ENTER " + asks("F2", tick=4, speeds="1 1"), "REFUSED\n0 BAD LONG\n1 BAD LONG", 1),
    ("ENTER", "ERROR TEXT 1", 0),
    ("", "ERROR TEXT 0", 0),
    ("ADVANCE", "TICK 2", 1),
    ("ADVANCE 0 0 100 -5 7 -9", "TICK 3 F1 -", 1),
    ("SAY W F1 5 LEVEL 120", "SAY F1 1 AT 5 LEVEL 120", 1),
    ("SAY W F1 5 LEVEL 120", "ERROR CLEAR BUSY", 0),
    ("HEAR READ F1 1 AT 5 LEVEL 120", "CONFIRM F1 1 AT 5 LEVEL 120", 1),
    ("HEAR TAKEN F1 1", "SILENCE", 1),
    ("ADVANCE", "TICK 4", 1),
    ("ADVANCE", "TICK 5", 1),
    ("HEAR TAKEN F1 1", "SILENCE", 1),
    ("SOLVE W F1 9", "NONE", 1),
    ("SOLVE W F1 9 LEVEL 700 / ROUTE A1 B1 C2", "SAY F1 2 AT 9 ROUTE A1 B1 C2", 1),
    ("GIVE F1 W E", "GIVE 1 W E", 1),
    ("GIVE F1 W E", "ERROR HANDOVER STATE", 0),
    ("PASS F1 GIVE 1 W E", "TOOK 1 E W", 1),
    ("PASS F1 TOOK 1 E W", "SILENCE", 1),
    ("PASS F9 GIVE 1 W E", "ERROR CLEAR FLIGHT", 0),
    ("ADVANCE 300 0 105", "TICK 6 F1", 1),
)


def new_primary():
    return Primary(lanes_chart(), exact_rules(), CALM)


def all_lines(feed):
    """Return all lines of a feed that has heard no answer; they are safe then."""
    lines = []
    standby = Standby()
    while True:
        new = [message for message in feed.messages() if message[0] == len(lines)]
        if not new:
            return lines
        lines.append(new[0])
        feed.hear(standby.hear(new[0]))
    return lines


def standby_with(lines):
    standby = Standby()
    for line in lines:
        standby.hear(line)
    return standby


class PrimaryTest(unittest.TestCase):
    def test_beginning(self):
        primary = new_primary()
        self.assertIsInstance(primary.centre(), Centre)
        self.assertIsInstance(primary.feed(), Feed)
        self.assertEqual(state(primary.centre()), state(Centre(lanes_chart(), exact_rules(), CALM)))
        self.assertEqual((primary.feed().safe(), primary.feed().messages()), (0, []))
        self.assertIs(primary.centre(), primary.centre())
        self.assertIs(primary.feed(), primary.feed())

    def test_session(self):
        primary, other = new_primary(), Centre(lanes_chart(), exact_rules(), CALM)
        for text, answer, many in SESSION:
            before = len(primary.centre().log())
            self.assertEqual(primary.respond(text), answer)
            self.assertEqual(plain_answer(other, text), answer)
            self.assertEqual(len(primary.centre().log()) - before, many, text)
            self.assertEqual(state(primary.centre()), state(other))
        calls = [read_line(number, line) for number, line in all_lines(primary.feed())]
        self.assertEqual(calls, primary.centre().log())
        self.assertEqual(len(calls), sum(many for _, _, many in SESSION))

    def test_feed_behind_each_text(self):
        primary, total = new_primary(), 0
        for text, _, many in SESSION:
            # All calls so far are safe: only what this text adds is told next.
            primary.feed().hear(total)
            primary.respond(text)
            self.assertEqual([number for number, _ in primary.feed().messages()], list(range(total, total + many)))
            for number, line in primary.feed().messages():
                self.assertEqual(read_line(number, line), primary.centre().log()[number])
            total += many

    def test_questions_add_nothing(self):
        primary = new_primary()
        for text, _, _ in SESSION:
            primary.respond(text)
        total = len(primary.centre().log())
        primary.feed().hear(total)
        centre = primary.centre()
        self.assertEqual(centre.remind("F1"), ("say", ("F1", 2, 9, ("route", ("A1", "B1", "C2")))))
        centre.view("F1"), centre.held(), centre.log(), centre.alerts(), centre.sightings(), centre.strips("F1")
        centre.load("W", 9), centre.watched(0), centre.acts("F1", "E"), centre.flights(), centre.now()
        self.assertEqual(primary.feed().messages(), [])
        self.assertEqual(primary.respond("X"), "ERROR TEXT 0")
        self.assertEqual(primary.feed().messages(), [])
        self.assertEqual(primary.respond("ADVANCE"), "TICK 7")
        self.assertEqual([number for number, _ in primary.feed().messages()], [total])

    def test_errors(self):
        chart, rules = lanes_chart(), exact_rules(band=-1)
        chart["runways"] = ["C1", "Q"]
        for make in (Primary, lambda *parts: take_over(*parts, Standby())):
            with self.assertRaises(ChartError) as caught:
                make(chart, rules, CALM)
            self.assertEqual((caught.exception.code, caught.exception.index), ("runway", 1))
            with self.assertRaises(RuleError) as caught:
                make(lanes_chart(), rules, CALM)
            self.assertEqual(caught.exception.code, "band")

    def test_two_primaries(self):
        one, other = new_primary(), new_primary()
        one.respond("ADVANCE")
        self.assertEqual((one.centre().now(), other.centre().now()), (1, 0))
        self.assertEqual((len(one.feed().messages()), len(other.feed().messages())), (1, 0))

    def test_copies(self):
        chart, rules, winds = lanes_chart(), exact_rules(), list(CALM)
        primary = Primary(chart, rules, winds)
        self.assertEqual((chart, rules, winds), (lanes_chart(), exact_rules(), CALM))
        for part in (*chart.values(), chart, rules, winds):
            part.clear()
        for text, answer, _ in SESSION:
            self.assertEqual(primary.respond(text), answer)


class TakeOverTest(unittest.TestCase):
    def parts(self):
        return lanes_chart(), exact_rules(), CALM

    def test_nothing(self):
        centre = take_over(*self.parts(), Standby())
        self.assertIsInstance(centre, Centre)
        self.assertEqual(state(centre), state(Centre(*self.parts())))

    def test_behind_each_number_of_calls(self):
        primary, states = new_primary(), [state(new_primary().centre())]
        for text, _, many in SESSION:
            primary.respond(text)
            states += [state(primary.centre())] * many
        lines = all_lines(primary.feed())
        self.assertEqual(len(lines) + 1, len(states))
        for many in range(len(lines) + 1):
            standby = standby_with(lines[:many])
            centre = take_over(*self.parts(), standby)
            self.assertEqual(state(centre), states[many])
            self.assertEqual(centre.log(), primary.centre().log()[:many])
            # The standby stays as it is, and goes on.
            self.assertEqual(standby.calls(), primary.centre().log()[:many])
        self.assertEqual(state(centre), state(primary.centre()))

    def test_goes_on_as_the_primary(self):
        primary = new_primary()
        for text, _, _ in SESSION:
            primary.respond(text)
        centre = take_over(*self.parts(), standby_with(all_lines(primary.feed())))
        for text in ("HEAR READ F1 2 AT 9 ROUTE A1 B1 C2", "ADVANCE 400 0 107", "ADVANCE", "ADVANCE", "ADVANCE",
                     "HEAR TAKEN F1 2", "SAY E F1 20 LEVEL 99"):
            self.assertEqual(plain_answer(centre, text), primary.respond(text))
            self.assertEqual(state(centre), state(primary.centre()))

    def test_copies(self):
        primary = new_primary()
        for text, _, _ in SESSION:
            primary.respond(text)
        standby = standby_with(all_lines(primary.feed()))
        chart, rules, winds = lanes_chart(), exact_rules(), list(CALM)
        centre = take_over(chart, rules, winds, standby)
        self.assertEqual((chart, rules, winds), (lanes_chart(), exact_rules(), CALM))
        for part in (*chart.values(), chart, rules, winds):
            part.clear()
        centre.advance([])
        self.assertEqual(len(standby.calls()) + 1, len(centre.log()))
        primary.respond("ADVANCE")
        self.assertEqual(state(centre), state(primary.centre()))


class LongRunTest(unittest.TestCase):
    def run_once(self, seed):
        """A primary is fed by texts, and its feed is heard over a bad channel; now and then the standby takes over."""
        chance, texts = random.Random(seed), Texts(seed)
        chart, rules = busy_lanes()
        primary, standby = Primary(chart, rules, CALM), Standby()
        states, lines, overtaken = [state(primary.centre())], [], 0
        for number in range(160):
            text = texts.text(primary.centre())
            before = len(primary.centre().log())
            answer = primary.respond(text)
            texts.heard(answer)
            after = len(primary.centre().log())
            self.assertEqual(after - before, 0 if answer.startswith("ERROR") else 1)
            states += [state(primary.centre())] * (after - before)
            lines += primary.feed().messages()
            for _ in range(chance.randint(0, 4)):
                line = chance.choice(lines[-12:]) if lines else (0, "")
                told = standby.hear(line)
                if chance.random() < 0.7:
                    primary.feed().hear(told)
            if number % 40 == 39:
                centre = take_over(chart, rules, CALM, standby)
                many = len(standby.calls())
                self.assertGreaterEqual(many, primary.feed().safe())
                self.assertEqual(state(centre), states[many])
                overtaken += many
        return overtaken

    def test_long_runs(self):
        self.assertGreater(sum(self.run_once(seed) for seed in range(4)), 400)


if __name__ == "__main__":
    unittest.main()
