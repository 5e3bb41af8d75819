"""Point 74: the console."""
import unittest

from skyapart.centre import Centre
from skyapart.console import respond
from tests.centres import CALM, exact_rules, lanes_chart, made, pass_ticks, request, state
from tests.consoles import Texts, busy_lanes, plain_answer
from tests.test_calls import PAIRS


def asks(flight, lane=1, tick=5, level=100, speeds="50 100", late=0, wake=1, to=None, wanted=None):
    """Return the text of a request on a lane."""
    return (f"FLIGHT {flight} KIND {wake} {speeds} 2 5 FROM A{lane} TO {to or f'C{lane}'} AT {level} "
            f"WANTS {level if wanted is None else wanted} TICK {tick} LATE {late}")


class ConsoleCase(unittest.TestCase):
    def answers(self, centre, *rows):
        """Check texts and their answers, one behind the other."""
        for text, answer in rows:
            self.assertEqual(respond(centre, text), answer, text)

    def changes_nothing(self, centre, text, answer):
        before = state(centre)
        self.answers(centre, (text, answer))
        self.assertEqual(state(centre), before)


class TextErrorTest(ConsoleCase):
    def test_texts_of_no_call(self):
        centre = made(request("F1"), until=6)
        for text, at in (
            ("", 0), (" ", 0), ("X", 0), ("advance", 0), ("ADVANCE ", 1), ("ADVANCE 1 2", 3), ("ADVANCE 1 X 3", 2),
            ("ENTER", 1), ("ENTER " + asks("F2") + " /", 22), ("ENTER " + asks("F2")[:-2], 20), ("SAY W F1 10", 4),
            ("SAY W F1 10 LEVEL 120 /", 6), ("SOLVE W F1", 3), ("SOLVE W F1 10 /", 4), ("HEAR", 1), ("HEAR GIVE", 1),
            ("HEAR READ F1 1 AT 10 LEVEL", 7), ("GIVE F1 W", 3), ("GIVE F1 W E X", 4), ("PASS F1 SAY 1 W E", 2),
            ("REMIND F1", 0), ("REPEAT F1 W", 0), ("ADVANCE\n", 0), ("GIVE F1 W E\n", 3),
        ):
            self.changes_nothing(centre, text, f"ERROR TEXT {at}")

    def test_wrong_text_before_a_wrong_call(self):
        self.changes_nothing(made(), "SAY W F1 10 LEVEL X", "ERROR TEXT 5")
        self.changes_nothing(made(), "SAY W F1 10 LEVEL 5", "ERROR CLEAR FLIGHT")


class AdvanceTest(ConsoleCase):
    def test_example(self):
        self.answers(made(), ("ADVANCE", "TICK 1"), ("ADVANCE", "TICK 2"))

    def test_plots(self):
        centre = made(request("F1"), request("F2", 2), until=6)
        self.answers(
            centre, ("ADVANCE 200 0 100", "TICK 7 F1"), ("ADVANCE 9000 -9000 -5", "TICK 8 -"),
            ("ADVANCE 400 5000 100 -1 -2 -3 400 0 100 410 0 100", "TICK 9 F2 - F1 F1"), ("ADVANCE", "TICK 10"),
        )
        self.assertEqual(centre.sightings(), [(9000, -9000, -5, 8), (-1, -2, -3, 9)])

    def test_many_digits(self):
        self.answers(made(), ("ADVANCE 999999999 -999999999 999999999", "TICK 1 -"))
        centre = made(request("F1"), until=6)
        self.answers(centre, ("ADVANCE 999999999 -999999999 999999999 200 0 100", "TICK 7 - F1"))
        centre = made(until=1234)
        self.answers(centre, ("ADVANCE", "TICK 1235"))


class EnterTest(ConsoleCase):
    def test_admitted(self):
        self.answers(
            made(),
            ("ENTER " + asks("F1"), "ADMITTED 0"),
            ("ENTER " + asks("F2", 2) + " / " + asks("F3", 2), "ADMITTED 0 2"),
            ("ENTER " + asks("F4", 3) + " / " + asks("F5", 1) + " / " + asks("F6", 2, 40), "ADMITTED 0 2 0"),
        )

    def test_admitted_flights(self):
        centre = made()
        respond(centre, "ENTER " + asks("F1", level=100, wanted=120, late=30))
        other = made()
        other.enter([request("F1", level=100, wanted=120, late=30)])
        self.assertEqual(state(centre), state(other))

    def test_bad(self):
        self.changes(made(), "ENTER " + asks("F1", speeds="1 1"), "REFUSED\n0 BAD LONG\n1 BAD LONG")
        chart = lanes_chart()
        chart["hours"] = [("A1", "B1", 5, 20)]
        chart["legs"][1] = ("B1", "C1", "E", 0, 99)
        centre = Centre(chart, exact_rules(), CALM)
        self.changes(centre, "ENTER " + asks("F1", level=90, speeds="100 100"), "REFUSED\n0 BAD SHUT\n1 BAD SHUT")

    def changes(self, centre, text, answer):
        """Check an answer to a call that changes nothing but the log."""
        before, many = state(centre), len(centre.log())
        self.answers(centre, (text, answer))
        after = state(centre)
        self.assertEqual(after[:4] + after[5:], before[:4] + before[5:])
        self.assertEqual(len(centre.log()), many + 1)

    def test_held_near(self):
        centre = made(request("F1", tick=5, kind=(1, 20, 20, 2, 5)), until=6)
        self.changes(centre, "ENTER " + asks("F2", tick=10), "REFUSED\n0 HELD F1 NEAR 10\n1 HELD F1 NEAR 10\n"
                     "2 HELD F1 NEAR 18\n3 HELD F1 NEAR 18")

    def test_held_wake(self):
        centre = made(request("F1", 3, tick=5), rules=exact_rules(gaps=((99,) * 4,) * 4))
        self.assertEqual(centre.view("F1")["promised"], 25)
        self.answers(centre, ("ENTER " + asks("F2", 3, level=200, speeds="100 100"), "ADMITTED 0"))
        centre = made(request("F1", 1, tick=5), rules=exact_rules(gaps=((99,) * 4,) * 4))
        self.changes(centre, "ENTER " + asks("F2", 1, level=200, speeds="100 100"),
                     "REFUSED\n0 HELD F1 WAKE 25\n1 HELD F1 WAKE 33")

    def test_chosen(self):
        slow = {"speeds": "20 20", "tick": 10}
        self.changes(made(), "ENTER " + asks("F1", **slow) + " / " + asks("F2", **slow),
                     "REFUSED\n0.0 CHOSEN 0 NEAR 10\n0.1 CHOSEN 0 NEAR 18\n1.0 CHOSEN 0 NEAR 18\n1.1 CHOSEN 0 NEAR 18")

    def test_three_indexes(self):
        slow = {"speeds": "20 20", "tick": 10}
        text = "ENTER " + " / ".join([asks("F1", 3, **slow), asks("F2", **slow), asks("F3", **slow)])
        rows = [f"{one}.{two}.{three} CHOSEN 1 NEAR {10 if two == three == 0 else 18}"
                for one in (0, 1) for two in (0, 1) for three in (0, 1)]
        self.changes(made(), text, "\n".join(["REFUSED"] + rows))

    def test_prefixes_of_each_length(self):
        chart = lanes_chart()
        chart["hours"] = [("A1", "B1", 10, 10), ("A3", "B3", 10, 10)]
        centre = Centre(chart, exact_rules(), CALM)
        centre.enter([request("F9", 2, tick=5, kind=(1, 20, 20, 2, 5))])
        text = "ENTER " + " / ".join([asks(f"F{lane}", lane, 10, speeds="20 20") for lane in (1, 3, 2)])
        self.changes(centre, text, "REFUSED\n0 BAD SHUT\n1.0 BAD SHUT\n1.1.0 HELD F9 NEAR 10\n1.1.1 HELD F9 NEAR 18")

    def test_full(self):
        chart = lanes_chart()
        chart["capacities"] = {"W": 1, "E": 5}
        centre = Centre(chart, exact_rules(), CALM)
        slow = {"speeds": "50 50", "tick": 5}
        self.answers(centre, ("ENTER " + asks("F1", **slow), "ADMITTED 0"))
        self.changes(centre, "ENTER " + asks("F2", 2, **slow), "REFUSED\n0 FULL W 5\n1 FULL W 13")
        centre = Centre(chart, exact_rules(), CALM)
        self.changes(centre, "ENTER " + asks("F1", **slow) + " / " + asks("F2", 2, **slow),
                     "REFUSED\n0.0 FULL W 5\n0.1 FULL W 13\n1.0 FULL W 13\n1.1 FULL W 13")

    def test_empty_menu(self):
        # There is no way from C1 back to A1: no choice, and no reasons.
        centre = made()
        text = asks("F1").replace("FROM A1 TO C1", "FROM C1 TO A1")
        self.changes(centre, "ENTER " + text, "REFUSED")

    def test_errors(self):
        centre = made(request("F1"), until=6)
        for text, answer in (
            (asks("F1", 2, 40), "NAME 0"), (asks("F2", 2, 40) + " / " + asks("F2", 2, 60), "NAME 1"),
            (asks("F2", 2, 40) + " / " + asks("F1", 2, 60), "NAME 1"), (asks("F2", 2, 6), "TICK 0"),
            (asks("F2", 2, 90001), "TICK 0"), (asks("F2", 2, 40, 601), "LEVEL 0"), (asks("F2", 2, 40, late=10001), "LATE 0"),
            (asks("F2", 2, 40, to="Q"), "FIX 0"), (asks("F2", 2, 40, speeds="0 5"), "KIND 0"),
            (" / ".join([asks("F2", 2, 40), asks("F3", 3, 40), asks("F4", 3, 40, wake=4)]), "KIND 2"),
        ):
            self.changes_nothing(centre, "ENTER " + text, "ERROR REQUEST " + answer)


class SayTest(ConsoleCase):
    def centre(self, *others, until=6, **kept):
        return made(request("F1"), *others, until=until, **kept)

    def test_each_change(self):
        for change in ("LEVEL 120", "SPEED 90", "ROUTE A1 B1 C2"):
            self.answers(self.centre(), (f"SAY W F1 10 {change}", f"SAY F1 1 AT 10 {change}"))

    def test_numbers(self):
        centre = self.centre()
        self.answers(centre, ("SAY W F1 8 LEVEL 120", "SAY F1 1 AT 8 LEVEL 120"), ("ADVANCE", "TICK 7"),
                     ("ADVANCE", "TICK 8"), ("SAY W F1 10 LEVEL 130", "SAY F1 2 AT 10 LEVEL 130"))

    def test_clear_errors(self):
        centre = self.centre()
        for text, code in (
            ("SAY W F9 10 LEVEL 120", "FLIGHT"), ("SAY E F1 10 LEVEL 120", "OWNER"), ("SAY W F1 6 LEVEL 120", "TICK"),
            ("SAY W F1 37 LEVEL 120", "TICK"), ("SAY W F1 10 LEVEL 601", "CHANGE"), ("SAY W F1 10 SPEED 49", "CHANGE"),
            ("SAY W F1 10 ROUTE A1 C1", "CHANGE"), ("SAY W F1 20 ROUTE A1 B1 C2", "CHANGE"),
        ):
            self.changes_nothing(centre, text, f"ERROR CLEAR {code}")
        self.answers(centre, ("SAY W F1 10 LEVEL 120", "SAY F1 1 AT 10 LEVEL 120"))
        self.changes_nothing(centre, "SAY W F1 11 LEVEL 120", "ERROR CLEAR BUSY")

    def test_codes_of_courses(self):
        chart = lanes_chart()
        chart["hours"] = [("B1", "C2", 15, 70)]
        centre = made(request("F1"), chart=chart, until=6)
        self.changes_nothing(centre, "SAY W F1 10 ROUTE A1 B1 C2", "ERROR CLEAR SHUT")
        chart["hours"], chart["legs"][-1] = [], ("B1", "C2", "X", 300, 600)
        centre = made(request("F1"), chart=chart, until=6)
        self.changes_nothing(centre, "SAY W F1 10 ROUTE A1 B1 C2", "ERROR CLEAR LEVEL")
        centre = made(request("F1", kind=(1, 2, 100, 2, 5)), until=6)
        self.changes_nothing(centre, "SAY W F1 10 SPEED 2", "ERROR CLEAR LONG")
        centre = made(request("F1", kind=(1, 2, 100, 2, 5)), rules=exact_rules(slip=5), until=6)
        self.changes_nothing(centre, "SAY W F1 10 SPEED 5", "ERROR CLEAR SLOW")

    def test_conflicts(self):
        centre = self.centre(request("F2", level=124, kind=(1, 90, 90, 2, 5)))
        # F1 climbs by at most 5 in a tick: its levels meet those of F2 at once, and it is 50 to 100 ahead.
        self.changes_nothing(centre, "SAY W F1 10 LEVEL 123", "ERROR CONFLICT F2 NEAR 11")

    def test_conflict_of_landings(self):
        # F1 on the way to C2 would land there at the tick 66; F2 does at 65.
        centre = self.centre(request("F2", 2, 45, level=200), until=6)
        self.changes_nothing(centre, "SAY W F1 10 ROUTE A1 B1 C2", "ERROR CONFLICT F2 WAKE 66")

    def test_conflict_of_a_sector(self):
        chart = lanes_chart()
        chart["capacities"] = {"X": 1}
        centre = made(request("F1"), request("F2", level=200, kind=(1, 90, 90, 2, 5)), chart=chart, until=6)
        self.answers(centre, ("SAY W F2 10 ROUTE A1 B1 C2", "SAY F2 1 AT 10 ROUTE A1 B1 C2"))
        self.changes_nothing(centre, "SAY W F1 10 ROUTE A1 B1 C2", "ERROR CONFLICT X FULL 17")


class SolveTest(ConsoleCase):
    def test_first_and_later_change(self):
        centre = made(request("F1"), request("F2", 2), until=6)
        self.answers(
            centre, ("SOLVE W F1 10 LEVEL 120 / LEVEL 130", "SAY F1 1 AT 10 LEVEL 120"),
            ("SOLVE W F2 10 LEVEL 601 / ROUTE A2 C2 / SPEED 90", "SAY F2 1 AT 10 SPEED 90"),
        )

    def test_none(self):
        centre = made(request("F1"), until=6)
        self.answers(centre, ("SOLVE W F1 10", "NONE"), (
            "SOLVE W F1 10 LEVEL 601 / ROUTE A1 B1 B1 / SPEED 101",
            "NONE\nLEVEL 601 BAD CHANGE\nROUTE A1 B1 B1 BAD CHANGE\nSPEED 101 BAD CHANGE",
        ))
        self.assertEqual(centre.log()[-2:], [
            ("solve", "W", "F1", [], 10),
            ("solve", "W", "F1", [("level", 601), ("route", ("A1", "B1", "B1")), ("speed", 101)], 10),
        ])

    def test_held(self):
        chart = lanes_chart()
        chart["capacities"] = {"X": 1}
        chart["hours"] = [("B2", "C2", 0, 99)]
        centre = made(request("F1"), request("F2", level=200, kind=(1, 90, 90, 2, 5)), chart=chart, until=6)
        self.answers(centre, ("SAY W F2 10 ROUTE A1 B1 C2", "SAY F2 1 AT 10 ROUTE A1 B1 C2"), (
            "SOLVE W F1 10 ROUTE A1 B1 C2 / LEVEL 700", "NONE\nROUTE A1 B1 C2 HELD X FULL 17\nLEVEL 700 BAD CHANGE",
        ))
        centre = made(request("F1"), request("F2", 2, 45, level=200), until=6)
        self.answers(centre, ("SOLVE W F1 10 ROUTE A1 B1 C2", "NONE\nROUTE A1 B1 C2 HELD F2 WAKE 66"))

    def test_near(self):
        centre = made(request("F1", kind=(1, 50, 50, 2, 5)), request("F2", tick=9, level=124), until=10)
        self.answers(centre, ("SOLVE W F2 12 LEVEL 123", "NONE\nLEVEL 123 HELD F1 NEAR 13"))

    def test_errors(self):
        centre = made(request("F1"), until=6)
        for text, code in (("SOLVE W F9 10", "FLIGHT"), ("SOLVE E F1 10 LEVEL 601", "OWNER"), ("SOLVE W F1 6", "TICK")):
            self.changes_nothing(centre, text, f"ERROR CLEAR {code}")
        self.answers(centre, ("SOLVE W F1 10 LEVEL 120", "SAY F1 1 AT 10 LEVEL 120"))
        self.changes_nothing(centre, "SOLVE W F1 10", "ERROR CLEAR BUSY")


class HearTest(ConsoleCase):
    def test_all(self):
        centre = made(request("F1"), until=6)
        self.answers(
            centre, ("SAY W F1 8 ROUTE A1 B1 C2", "SAY F1 1 AT 8 ROUTE A1 B1 C2"),
            ("HEAR READ F1 1 AT 8 LEVEL 120", "SAY F1 1 AT 8 ROUTE A1 B1 C2"),
            ("HEAR READ F1 1 AT 8 ROUTE A1 B1 C2", "CONFIRM F1 1 AT 8 ROUTE A1 B1 C2"),
            ("HEAR READ F1 1 AT 8 LEVEL 120", "SILENCE"), ("HEAR READ F2 1 AT 8 LEVEL 120", "SILENCE"),
            ("HEAR SAY F1 1 AT 8 LEVEL 120", "SILENCE"), ("HEAR CONFIRM F1 1 AT 8 LEVEL 120", "SILENCE"),
            ("HEAR ASK F1 1", "SILENCE"), ("ADVANCE", "TICK 7"), ("ADVANCE", "TICK 8"),
        )
        self.assertEqual(len(centre.view("F1")["courses"]), 2)
        self.answers(centre, ("HEAR TAKEN F1 2", "SILENCE"), ("HEAR TAKEN F1 1", "SILENCE"), ("HEAR NOT F1 1", "SILENCE"))
        self.assertEqual([course for course, _ in centre.view("F1")["courses"]], [(("A1", "B1", "C2"), 100, 100)])


class HandoverTest(ConsoleCase):
    def test_whole_way(self):
        centre = made(request("F1"))
        self.answers(
            centre, ("GIVE F1 W E", "GIVE 1 W E"), ("PASS F1 GIVE 1 W E", "TOOK 1 E W"), ("PASS F1 GIVE 1 W E", "TOOK 1 E W"),
            ("PASS F1 TOOK 1 E W", "SILENCE"), ("PASS F1 TOOK 1 E W", "SILENCE"), ("GIVE F1 E X", "GIVE 2 E X"),
            ("PASS F1 GIVE 2 E X", "TOOK 2 X E"),
        )
        self.assertEqual(centre.view("F1")["responsible"], "X")

    def test_errors(self):
        centre = made(request("F1"))
        for text, answer in (
            ("GIVE F2 W E", "CLEAR FLIGHT"), ("GIVE F1 W Q", "HANDOVER SECTOR"), ("GIVE F1 W W", "HANDOVER SECTOR"),
            ("GIVE F1 E W", "HANDOVER STATE"), ("PASS F2 GIVE 1 W E", "CLEAR FLIGHT"),
        ):
            self.changes_nothing(centre, text, "ERROR " + answer)
        self.answers(centre, ("GIVE F1 W E", "GIVE 1 W E"))
        self.changes_nothing(centre, "GIVE F1 W E", "ERROR HANDOVER STATE")


class SameTest(ConsoleCase):
    def test_as_the_calls_themselves(self):
        """Over long runs each text has the answer of point 74, and does what its call does."""
        seen = {}
        for seed in range(10):
            chart, rules = busy_lanes()
            one, other, texts = Centre(chart, rules, CALM), Centre(chart, rules, CALM), Texts(seed)
            for number in range(220):
                text = texts.text(one)
                answer = respond(one, text)
                self.assertEqual(answer, plain_answer(other, text), text)
                texts.heard(answer)
                if number % 20 == 0:
                    self.assertEqual(state(one), state(other))
                for line in answer.split("\n"):
                    words = [word for word in line.split(" ") if word.isalpha() and len(word) > 1]
                    for word in words[:2] if words[:1] == ["ERROR"] else words[:1]:
                        seen[word] = seen.get(word, 0) + 1
            self.assertEqual(state(one), state(other))
        for word in ("TEXT", "CLEAR", "CONFLICT", "REQUEST", "HANDOVER", "ADMITTED", "REFUSED", "BAD", "HELD", "CHOSEN",
                     "FULL", "SAY", "NONE", "CONFIRM", "SILENCE", "GIVE", "TOOK", "TICK"):
            self.assertGreater(seen.get(word, 0), 2, (word, seen))

    def test_no_error_for_any_text_of_a_call(self):
        for until in (0, 6):
            centre = made(request("AB1"), until=until)
            for text, call, _ in PAIRS:
                if call[0] != "pass_on":
                    self.assertRegex(respond(centre, text), r"\A[A-Z]+")

    def test_texts_with_the_greatest_numbers(self):
        centre = made(request("F1"), until=6)
        for text, answer in (
            ("SAY W F1 999999999 LEVEL 999999999", "ERROR CLEAR TICK"), ("SAY W F1 10 LEVEL 999999999", "ERROR CLEAR CHANGE"),
            ("SAY W F1 10 SPEED 999999999", "ERROR CLEAR CHANGE"), ("HEAR TAKEN F1 999999999", "SILENCE"),
            ("SAY W F1 10 ROUTE" + " A1 B1" * 20, "ERROR CLEAR CHANGE"),
            ("ENTER FLIGHT F2" + " KIND 9" + " 999999999" * 4 + " FROM A1 TO C1 AT 1 WANTS 1 TICK 9 LATE 0",
             "ERROR REQUEST KIND 0"),
        ):
            self.answers(centre, (text, answer))

    def test_far_in_time(self):
        centre = made(request("F1"))
        pass_ticks(centre, 300)
        self.answers(centre, ("SAY W F1 310 LEVEL 120", "ERROR CLEAR FLIGHT"), ("GIVE F1 W E", "ERROR CLEAR FLIGHT"),
                     ("ENTER " + asks("F1", tick=400), "ERROR REQUEST NAME 0"), ("HEAR TAKEN F1 1", "SILENCE"))


if __name__ == "__main__":
    unittest.main()
