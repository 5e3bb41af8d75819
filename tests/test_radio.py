"""Point 61: texts of messages."""
import random
import unittest

from skyapart.radio import message_text, read_message
from tests.texts import TextCase, cut

PAIRS = (
    ("SAY AB1 7 AT 30 ROUTE A B C", ("say", ("AB1", 7, 30, ("route", ("A", "B", "C")))), "=n#=#=nnn"),
    ("READ AB1 7 AT 30 LEVEL 100", ("read", ("AB1", 7, 30, ("level", 100))), "=n#=#=#"),
    ("CONFIRM SAY 0 AT 0 SPEED 0", ("confirm", ("SAY", 0, 0, ("speed", 0))), "=n#=#=#"),
    ("CONFIRM X 1 AT 2 ROUTE SAY ASK", ("confirm", ("X", 1, 2, ("route", ("SAY", "ASK")))), "=n#=#=nn"),
    ("ASK AB1 7", ("ask", "AB1", 7), "=n#"),
    ("TAKEN NOT 0", ("taken", "NOT", 0), "=n#"),
    ("NOT Z9999 999999999", ("not", "Z9999", 999999999), "=n#"),
)


class RadioTest(TextCase):
    def wrong(self, at, text):
        self.wrong_text(read_message, at, text)

    def test_there_and_back(self):
        for text, message, _ in PAIRS:
            self.assertEqual(message_text(message), text)
            self.assertEqual(read_message(text), message)

    def test_random(self):
        chance = random.Random(1)
        names = ("A", "B9", "AT", "SAY", "ROUTE", "ABCDE")
        for _ in range(300):
            number = chance.choice((0, 9, 10, 999999999))
            route = tuple(chance.choice(names) for _ in range(chance.randint(2, 18)))
            change = chance.choice((("level", number), ("speed", number), ("route", route)))
            clearance = (chance.choice(names), chance.randint(0, 10 ** 9 - 1), chance.randint(0, 100000), change)
            for message in ((chance.choice(("say", "read", "confirm")), clearance),
                            (chance.choice(("ask", "taken", "not")), chance.choice(names), number)):
                self.assertEqual(read_message(message_text(message)), message)

    def test_wrong_words(self):
        for text, _, slots in PAIRS:
            self.wrong_slots(read_message, text, slots)

    def test_first_word(self):
        for word in ("", "Say", "say", "GIVE", "TOOK", "TOLD", "AB1", "7", "/", "HEAR"):
            self.wrong(0, f"{word} AB1 7 AT 30 LEVEL 100")
            self.wrong(0, f"{word} AB1 7")
        self.wrong(0, "")
        self.wrong(0, " ")

    def test_kinds_are_not_mixed(self):
        self.wrong(3, "SAY AB1 7")
        self.wrong(3, "READ AB1 7")
        self.wrong(3, "CONFIRM AB1 7")
        for word in ("ASK", "TAKEN", "NOT"):
            self.wrong(3, f"{word} AB1 7 AT 30 LEVEL 100")

    def test_too_few_words(self):
        for text, _, slots in PAIRS:
            least = 8 if "ROUTE" in text else len(slots)
            for many in range(1, least):
                self.wrong(many, cut(text, many))
        self.wrong(7, "SAY AB1 7 AT 30 ROUTE A")
        self.wrong(6, "SAY AB1 7 AT 30 ROUTE")
        self.wrong(7, "SAY AB1 7 AT 30 ROUTE A ")

    def test_too_many_words(self):
        for text, _, slots in PAIRS:
            for more in ("", "5", "/", "x", "-", " ", "/ A"):
                self.wrong(len(slots), f"{text} {more}")
            if "ROUTE" not in text:
                self.wrong(len(slots), text + " A")

    def test_slash_in_a_route(self):
        self.wrong(8, "SAY AB1 7 AT 30 ROUTE A B / LEVEL 5")
        self.wrong(7, "SAY AB1 7 AT 30 ROUTE A / B")

    def test_ranges_are_not_checked(self):
        self.assertEqual(read_message("SAY A 1 AT 999999999 LEVEL 601"), ("say", ("A", 1, 999999999, ("level", 601))))


if __name__ == "__main__":
    unittest.main()
