"""Point 62: texts of calls."""
import copy
import random
import unittest

from skyapart.calls import call_text, read_call
from tests.texts import TextCase, cut

ONE = ("AB1", (1, 20, 40, 2, 5), "A", "C", 100, 120, 7, 60)
TWO = ("X", (0, 1, 1, 1, 1), "C", "A", 0, 0, 0, 0)
ONE_TEXT = "FLIGHT AB1 KIND 1 20 40 2 5 FROM A TO C AT 100 WANTS 120 TICK 7 LATE 60"
TWO_TEXT = "FLIGHT X KIND 0 1 1 1 1 FROM C TO A AT 0 WANTS 0 TICK 0 LATE 0"
SLOTS = "=n=#####=n=n=#=#=#=#"
CLEARANCE = ("AB1", 7, 30, ("level", 100))

PAIRS = (
    (f"ENTER {ONE_TEXT}", ("enter", [ONE]), "=" + SLOTS),
    (f"ENTER {ONE_TEXT} / {TWO_TEXT}", ("enter", [ONE, TWO]), f"={SLOTS}={SLOTS}"),
    (f"ENTER {TWO_TEXT} / {ONE_TEXT} / {TWO_TEXT}", ("enter", [TWO, ONE, TWO]), f"={SLOTS}={SLOTS}={SLOTS}"),
    ("SAY S AB1 30 LEVEL 100", ("say", "S", "AB1", ("level", 100), 30), "=nn#=#"),
    ("SAY S AB1 0 SPEED 0", ("say", "S", "AB1", ("speed", 0), 0), "=nn#=#"),
    ("SAY SAY SOLVE 999999999 ROUTE A B C", ("say", "SAY", "SOLVE", ("route", ("A", "B", "C")), 999999999), "=nn#=nnn"),
    ("SOLVE S AB1 30", ("solve", "S", "AB1", [], 30), "=nn#"),
    ("SOLVE S AB1 30 LEVEL 100", ("solve", "S", "AB1", [("level", 100)], 30), "=nn#=#"),
    ("SOLVE S AB1 30 ROUTE A B / SPEED 9 / ROUTE ROUTE LEVEL C / LEVEL 0",
     ("solve", "S", "AB1", [("route", ("A", "B")), ("speed", 9), ("route", ("ROUTE", "LEVEL", "C")), ("level", 0)], 30),
     "=nn#=nn==#==nnm==#"),
    ("HEAR READ AB1 7 AT 30 LEVEL 100", ("hear", ("read", CLEARANCE)), "==n#=#=#"),
    ("HEAR SAY AB1 7 AT 30 ROUTE A B", ("hear", ("say", ("AB1", 7, 30, ("route", ("A", "B"))))), "==n#=#=nn"),
    ("HEAR CONFIRM AB1 7 AT 30 LEVEL 100", ("hear", ("confirm", CLEARANCE)), "==n#=#=#"),
    ("HEAR ASK AB1 7", ("hear", ("ask", "AB1", 7)), "==n#"),
    ("HEAR TAKEN AB1 7", ("hear", ("taken", "AB1", 7)), "==n#"),
    ("HEAR NOT AB1 0", ("hear", ("not", "AB1", 0)), "==n#"),
    ("GIVE AB1 S T", ("give", "AB1", "S", "T"), "=nnn"),
    ("PASS AB1 GIVE 1 S T", ("pass_on", "AB1", ("give", 1, "S", "T")), "=n=#nn"),
    ("PASS AB1 TOOK 12 T S", ("pass_on", "AB1", ("took", 12, "T", "S")), "=n=#nn"),
    ("ADVANCE", ("advance", []), "="),
    ("ADVANCE 1 -2 3", ("advance", [(1, -2, 3)]), "=sss"),
    ("ADVANCE 0 0 0 -999999999 999999999 -1", ("advance", [(0, 0, 0), (-999999999, 999999999, -1)]), "=ssssss"),
)


def random_change(chance):
    route = tuple(chance.choice(("A", "B9", "LEVEL", "ROUTE", "ABCDE")) for _ in range(chance.randint(2, 18)))
    number = chance.choice((0, 5, 10, 999999999))
    return chance.choice((("level", number), ("speed", number), ("route", route)))


def random_call(chance):
    """Return a call of any kind, with numbers and names anywhere in their ranges."""
    def name():
        return chance.choice(("A", "Z9", "SAY", "ENTER", "AT", "F0000", "LATE"))

    def number():
        return chance.choice((0, 7, 10, 999999999, chance.randint(0, 999999999)))

    def request():
        kind = tuple(number() for _ in range(5))
        return name(), kind, name(), name(), number(), number(), number(), number()

    clearance = (name(), number(), number(), random_change(chance))
    return chance.choice((
        ("enter", [request() for _ in range(chance.randint(1, 4))]),
        ("say", name(), name(), random_change(chance), number()),
        ("solve", name(), name(), [random_change(chance) for _ in range(chance.randint(0, 4))], number()),
        ("hear", (chance.choice(("say", "read", "confirm")), clearance)),
        ("hear", (chance.choice(("ask", "taken", "not")), name(), number())),
        ("give", name(), name(), name()),
        ("pass_on", name(), (chance.choice(("give", "took")), number(), name(), name())),
        ("advance", [tuple(chance.choice((1, -1)) * number() for _ in range(3)) for _ in range(chance.randint(0, 4))]),
    ))


class CallsTest(TextCase):
    def wrong(self, at, text):
        self.wrong_text(read_call, at, text)

    def test_there_and_back(self):
        for text, call, _ in PAIRS:
            self.assertEqual(call_text(call), text)
            self.assertEqual(read_call(text), call)

    def test_random(self):
        chance = random.Random(1)
        for _ in range(1000):
            call = random_call(chance)
            before = copy.deepcopy(call)
            text = call_text(call)
            self.assertEqual(read_call(text), call)
            self.assertEqual(call, before)
            self.assertEqual(call_text(read_call(text)), text)

    def test_lists_are_new(self):
        for text, call, _ in PAIRS:
            if isinstance(call[-1], list):
                read_call(text)[-1].append("x")
                self.assertEqual(read_call(text), call)

    def test_wrong_words(self):
        for text, _, slots in PAIRS:
            if len(slots) < 50:
                self.wrong_slots(read_call, text, slots)

    def test_first_word(self):
        for word in ("", "enter", "TOOK", "READ", "REPEAT", "REMIND", "PLAN", "PASS_ON", "AB1", "7", "/", "ADVANCE\n"):
            self.wrong(0, word)
            self.wrong(0, f"{word} AB1 S T")
        self.wrong(0, " ")
        self.wrong(0, " ADVANCE")

    def test_too_few_words(self):
        for text, call, slots in PAIRS:
            # Where words may end: behind each whole entry, and within a route from its second name on.
            ends = {len(slots)}
            if call[0] == "enter":
                ends = set(range(21, len(slots) + 1, 21))
            if call[0] == "solve":
                ends = {4, 6} if len(slots) == 6 else {4, 7, 10, 14, 15, 18}
            if call[0] == "advance":
                ends = set(range(1, len(slots) + 1, 3))
            if call[0] == "say" and len(slots) == 8:
                ends = {7, 8}
            for many in range(1, len(slots) + 1):
                if many in ends:
                    read_call(cut(text, many))
                else:
                    self.wrong(many, cut(text, many))

    def test_too_many_words(self):
        for text, call, slots in PAIRS:
            for more in ("", "x", "?", " "):
                self.wrong(len(slots), f"{text} {more}")
            if call[0] not in ("enter", "solve"):
                self.wrong(len(slots), f"{text} /")
            if "ROUTE" not in text:
                self.wrong(len(slots), f"{text} AB1")
            if call[0] != "advance" and text != "SOLVE S AB1 30":
                self.wrong(len(slots), f"{text} 5")

    def test_enter_without_a_request(self):
        # A call of enter has at least one request: its first word is missing.
        self.wrong(1, "ENTER")
        self.wrong(1, "ENTER ")
        self.wrong(1, "ENTER /")
        self.wrong(1, f"ENTER / {ONE_TEXT}")
        self.assertEqual(call_text(("enter", [])), "ENTER")

    def test_more_requests_than_a_centre_takes(self):
        text = "ENTER " + " / ".join([ONE_TEXT, TWO_TEXT] * 3)
        self.assertEqual(read_call(text), ("enter", [ONE, TWO] * 3))
        self.assertEqual(call_text(("enter", [ONE, TWO] * 3)), text)

    def test_slashes_between_requests(self):
        self.wrong(21, f"ENTER {ONE_TEXT} {TWO_TEXT}")
        self.wrong(21, f"ENTER {ONE_TEXT} // {TWO_TEXT}")
        self.wrong(22, f"ENTER {ONE_TEXT} / / {TWO_TEXT}")
        self.wrong(22, f"ENTER {ONE_TEXT} /")
        self.wrong(22, f"ENTER {ONE_TEXT} / ")
        self.wrong(43, f"ENTER {ONE_TEXT} / {TWO_TEXT} /")
        self.wrong(42, f"ENTER {ONE_TEXT} / {TWO_TEXT} 5")
        self.wrong(5, f"ENTER FLIGHT AB1 KIND 1 / {TWO_TEXT}")

    def test_slashes_between_changes(self):
        self.wrong(4, "SOLVE S AB1 30 /")
        self.wrong(4, "SOLVE S AB1 30 / LEVEL 5")
        self.wrong(7, "SOLVE S AB1 30 LEVEL 5 /")
        self.wrong(7, "SOLVE S AB1 30 LEVEL 5 / ")
        self.wrong(7, "SOLVE S AB1 30 LEVEL 5 / / SPEED 6")
        self.wrong(6, "SOLVE S AB1 30 LEVEL 5 // SPEED 6")
        self.wrong(6, "SOLVE S AB1 30 LEVEL 5 SPEED 6")
        self.wrong(6, "SOLVE S AB1 30 LEVEL 5 6")
        self.wrong(5, "SOLVE S AB1 30 LEVEL / SPEED 6")
        self.wrong(3, "SOLVE S AB1 / LEVEL 5")

    def test_route_up_to_a_slash(self):
        changes = [("route", ("A", "B")), ("route", ("C", "D", "E")), ("level", 5)]
        self.assertEqual(read_call("SOLVE S AB1 30 ROUTE A B / ROUTE C D E / LEVEL 5"),
                         ("solve", "S", "AB1", changes, 30))
        self.wrong(8, "SOLVE S AB1 30 ROUTE A B /")
        self.wrong(8, "SOLVE S AB1 30 ROUTE A B / / LEVEL 5")
        self.wrong(8, "SOLVE S AB1 30 ROUTE A B / C D")
        self.wrong(6, "SOLVE S AB1 30 ROUTE A / LEVEL 5")
        self.wrong(5, "SOLVE S AB1 30 ROUTE / LEVEL 5")
        self.wrong(7, "SOLVE S AB1 30 ROUTE A B // LEVEL 5")
        # LEVEL is a name, too: without a slash it is one of the route, and 5 is none.
        self.wrong(8, "SOLVE S AB1 30 ROUTE A B LEVEL 5")
        self.wrong(7, "SAY S AB1 30 ROUTE A B / LEVEL 5")
        self.wrong(9, "HEAR READ AB1 7 AT 30 ROUTE A B / C")

    def test_wrong_change_behind_a_slash(self):
        begin = "SOLVE S AB1 30 LEVEL 5 /"
        self.wrong(7, f"{begin} HEIGHT 5")
        self.wrong(8, f"{begin} SPEED X")
        self.wrong(8, f"{begin} SPEED")
        self.wrong(9, f"{begin} ROUTE A")
        self.wrong(9, f"{begin} ROUTE A 5")
        self.wrong(10, f"{begin} ROUTE A B 5")

    def test_route_with_one_name(self):
        self.wrong(6, "SAY S AB1 30 ROUTE A")
        self.wrong(6, "SOLVE S AB1 30 ROUTE A")
        self.wrong(8, "HEAR SAY AB1 7 AT 30 ROUTE A")

    def test_messages_of_pass(self):
        for word in ("SAY", "TAKE", "give", "ASK", ""):
            self.wrong(2, f"PASS AB1 {word} 1 S T")
        self.wrong(3, "PASS AB1 GIVE -1 S T")
        self.wrong(6, "PASS AB1 GIVE 1 S T U")
        self.wrong(5, "PASS AB1 TOOK 1 S")

    def test_wrong_message_of_hear(self):
        for word in ("GIVE", "TOOK", "hear", "", "AB1"):
            self.wrong(1, f"HEAR {word} AB1 7")
        self.wrong(1, "HEAR")
        self.wrong(4, "HEAR READ AB1 7")

    def test_plots(self):
        self.assertEqual(read_call("ADVANCE 1 2 3 4 5 6"), ("advance", [(1, 2, 3), (4, 5, 6)]))
        self.wrong(2, "ADVANCE 1")
        self.wrong(3, "ADVANCE 1 2")
        self.wrong(5, "ADVANCE 1 2 3 4")
        self.wrong(6, "ADVANCE 1 2 3 4 5")
        # A word that is wrong counts before words that are missing.
        self.wrong(2, "ADVANCE 1 X")
        self.wrong(4, "ADVANCE 1 2 3 /")
        self.wrong(1, "ADVANCE ")
        self.wrong(4, "ADVANCE 1 2 3 ")
        self.wrong(2, "ADVANCE 1 -0 3")
        self.wrong(3, "ADVANCE 1 2 1000000000")
        self.wrong(3, "ADVANCE 1 2 -1000000000")
        self.assertEqual(read_call("ADVANCE 0 -999999999 999999999")[1], [(0, -999999999, 999999999)])

    def test_signs_only_for_plots(self):
        self.wrong(3, "SAY S AB1 -30 LEVEL 100")
        self.wrong(5, "SAY S AB1 30 LEVEL -100")
        self.wrong(3, "HEAR ASK AB1 -7")
        self.wrong(4, f"ENTER {ONE_TEXT}".replace("KIND 1", "KIND -1"))

    def test_other_blanks(self):
        self.wrong(0, "ADVANCE\t1 2 3")
        self.wrong(1, "ADVANCE  1 2 3")
        self.wrong(3, "ADVANCE 1 2 3\n")


if __name__ == "__main__":
    unittest.main()
