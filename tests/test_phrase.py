import random
import unittest

from skyapart.errors import SkyError, TextError
from skyapart.phrase import clearance_text, read_clearance

PAIRS = (
    ("AB1 7 AT 30 ROUTE A B C", ("AB1", 7, 30, ("route", ("A", "B", "C")))),
    ("AB1 7 AT 30 ROUTE A B", ("AB1", 7, 30, ("route", ("A", "B")))),
    ("X 0 AT 0 LEVEL 0", ("X", 0, 0, ("level", 0))),
    ("X 999999999 AT 999999999 LEVEL 999999999", ("X", 999999999, 999999999, ("level", 999999999))),
    ("ZZZZZ 12 AT 100 SPEED 250", ("ZZZZZ", 12, 100, ("speed", 250))),
    ("AT 1 AT 1 ROUTE AT LEVEL SPEED ROUTE", ("AT", 1, 1, ("route", ("AT", "LEVEL", "SPEED", "ROUTE")))),
)
WRONG_NUMBERS = ("", "X", "-1", "+1", "00", "01", "1000000000", "0000000000", "1.0", "1_0", "\u0661", "\u00b2", "1\n")
WRONG_NAMES = ("", "1", "a", "A-", "ABCDEF", "\u00c4", "A\u0661", "A\n", "/")


class PhraseTest(unittest.TestCase):
    def wrong(self, at, text):
        with self.assertRaises(TextError) as caught:
            read_clearance(text)
        self.assertEqual(caught.exception.at, at, text)
        self.assertIsInstance(caught.exception, SkyError)

    def replaced(self, text, at, word):
        words = text.split(" ")
        words[at] = word
        return " ".join(words)

    def test_there_and_back(self):
        for text, clearance in PAIRS:
            self.assertEqual(read_clearance(text), clearance)
            self.assertEqual(clearance_text(clearance), text)

    def test_random(self):
        chance = random.Random(1)
        for _ in range(200):
            names = tuple(chance.choice(("A", "B9", "AT", "LEVEL", "ROUTE", "ABCDE")) for _ in range(chance.randint(2, 20)))
            number = chance.choice((0, 9, 10, 999999999))
            change = chance.choice((("level", number), ("speed", number), ("route", names)))
            clearance = (names[0], chance.randint(0, 10 ** 9 - 1), chance.randint(0, 100000), change)
            self.assertEqual(read_clearance(clearance_text(clearance)), clearance)

    def test_ranges_are_not_checked(self):
        self.assertEqual(read_clearance("A 1 AT 1 LEVEL 601")[3], ("level", 601))
        self.assertEqual(read_clearance("A 1 AT 1 ROUTE A A")[3], ("route", ("A", "A")))
        self.assertEqual(len(read_clearance("A 1 AT 1 ROUTE" + " B" * 40)[3][1]), 40)

    def test_wrong_words(self):
        for text, _ in PAIRS:
            for word in WRONG_NAMES:
                self.wrong(0, self.replaced(text, 0, word))
            for word in WRONG_NUMBERS:
                self.wrong(1, self.replaced(text, 1, word))
                self.wrong(3, self.replaced(text, 3, word))
            for word in ("", "at", "AT1", "ON", "5", "/"):
                self.wrong(2, self.replaced(text, 2, word))
            for word in ("", "level", "LEVELS", "HEIGHT", "5", "AT", "/"):
                self.wrong(4, self.replaced(text, 4, word))

    def test_wrong_number_of_a_change(self):
        for what in ("LEVEL", "SPEED"):
            for word in WRONG_NUMBERS:
                self.wrong(5, f"A 1 AT 1 {what} {word}")

    def test_wrong_names_of_a_route(self):
        for at in range(5, 9):
            for word in WRONG_NAMES:
                self.wrong(at, self.replaced("A 1 AT 1 ROUTE A B C D", at, word))

    def test_route_with_one_name(self):
        self.wrong(6, "A 1 AT 1 ROUTE A")
        self.wrong(5, "A 1 AT 1 ROUTE")
        self.wrong(6, "A 1 AT 1 ROUTE A ")
        self.wrong(5, "A 1 AT 1 ROUTE ")
        self.wrong(5, "A 1 AT 1 ROUTE 5")

    def test_too_many_words(self):
        self.wrong(6, "A 1 AT 1 LEVEL 5 5")
        self.wrong(6, "A 1 AT 1 SPEED 5 SPEED 5")
        self.wrong(6, "A 1 AT 1 LEVEL 5 ")
        self.wrong(6, "A 1 AT 1 SPEED 5 X")

    def test_too_few_words(self):
        for text in ("AB1 7 AT 30 LEVEL 5", "AB1 7 AT 30 SPEED 5", "AB1 7 AT 30 ROUTE A B"):
            words = text.split(" ")
            for many in range(1, len(words)):
                self.wrong(many, " ".join(words[:many]))

    def test_empty_words(self):
        self.wrong(0, "")
        self.wrong(0, " ")
        for text, _ in PAIRS:
            self.wrong(0, " " + text)
            self.wrong(len(text.split(" ")), text + " ")
            for at in range(len(text.split(" "))):
                words = text.split(" ")
                words.insert(at, "")
                self.wrong(at, " ".join(words))

    def test_first_wrong_word(self):
        for text, _ in PAIRS:
            words = text.split(" ")
            for at in range(len(words)):
                self.wrong(at, " ".join(words[:at] + ["-"] * 9))


if __name__ == "__main__":
    unittest.main()
