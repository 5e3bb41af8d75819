"""Point 63: journals."""
import copy
import random
import unittest

from skyapart.calls import call_text
from skyapart.journal import journal_text, line_of, read_journal, read_line, text_sum
from tests.test_calls import PAIRS, random_call

LOG = [call for _, call, _ in PAIRS]
SHORT = [("advance", []), ("advance", [(1, -2, 3)]), ("give", "AB1", "S", "T"), ("hear", ("ask", "AB1", 7)),
         ("solve", "S", "AB1", [("level", 5), ("route", ("A", "B"))], 30), ("advance", [])]


def summed(number, text):
    """Return a line that is right but for its text, perhaps."""
    return f"{number} {text_sum(text)} {text}"


class SumTest(unittest.TestCase):
    def test_sums(self):
        self.assertEqual(text_sum(""), 0)
        self.assertEqual(text_sum("A"), 65)
        self.assertEqual(text_sum(" "), 32)
        self.assertEqual(text_sum("0"), 48)
        self.assertEqual(text_sum("A0"), 65 + 2 * 48)
        self.assertEqual(text_sum("0A"), 48 + 2 * 65)
        self.assertEqual(text_sum("ADVANCE"), 1994)

    def test_remainder(self):
        # 17 letters A have 65 * 153 = 9945, and 28 more are 9973.
        self.assertEqual(text_sum("A" * 17), 9945)
        self.assertEqual(text_sum("A" * 18), (9945 + 18 * 65) % 9973)
        self.assertEqual(text_sum("A" * 1000), 65 * 500500 % 9973)

    def test_random(self):
        chance = random.Random(1)
        for _ in range(100):
            text = "".join(chr(chance.randint(32, 126)) for _ in range(chance.randint(0, 300)))
            total = 0
            for position in range(len(text)):
                total += (position + 1) * text.encode("ascii")[position]
            self.assertEqual(text_sum(text), total % 9973)


class LineTest(unittest.TestCase):
    def none(self, number, line):
        self.assertIsNone(read_line(number, line), (number, line))

    def test_example(self):
        self.assertEqual(line_of(0, ("advance", [])), "0 1994 ADVANCE")
        self.assertEqual(read_line(0, "0 1994 ADVANCE"), ("advance", []))

    def test_there_and_back(self):
        for call in LOG:
            for number in (0, 7, 10, 123456):
                line = line_of(number, call)
                self.assertEqual(line, summed(number, call_text(call)))
                self.assertEqual(read_line(number, line), call)

    def test_other_number(self):
        for number in (1, 2, 10, -1):
            self.none(number, "0 1994 ADVANCE")
        for number in (0, 2, 11, 10, 111):
            self.none(number, "1 1994 ADVANCE")
        for word in ("00", "+0", "-0", "", "x", "0.", "\u0660", "0 "):
            self.none(0, f"{word} 1994 ADVANCE")
        self.none(1, "01 1994 ADVANCE")

    def test_other_sum(self):
        for word in ("1993", "1995", "01994", "+1994", "-1994", "0", "", "x", "11967", "\u0661994", "1994 ", " 1994"):
            self.none(0, f"0 {word} ADVANCE")
        text = "GIVE A S T"
        self.none(0, f"0 0{text_sum(text)} {text}")
        self.none(0, f"0 {text_sum(text) + 9973} {text}")

    def test_sum_below_1000(self):
        # The sum is written without leading zeros, whatever it is.
        for number in range(1000):
            call = ("advance", [(number, 0, -number)] if number else [])
            self.assertEqual(read_line(3, line_of(3, call)), call)
        calls = [("advance", [(x, y, 0)] * 5) for x in range(100) for y in range(100)]
        small = [call for call in calls if text_sum(call_text(call)) < 10]
        self.assertTrue(small)
        for call in small:
            line = line_of(0, call)
            self.assertRegex(line, r"\A0 [0-9] ADVANCE ")
            self.none(0, line.replace("0 ", "0 0", 1))

    def test_text_that_is_no_call(self):
        for text in ("", "ADVANC", "ADVANCE 1", "advance", "ENTER", "SAY", "REPEAT A S", "ADVANCE ", " ADVANCE",
                     "ADVANCE\u00e4", "\u00c4DVANCE", "ADVANCE 1 2 \u0663", "GIVE A S T U", "ADVANCE\t", "ADVANCE\r"):
            self.none(0, summed(0, text))

    def test_shape(self):
        for line in ("", " ", "  ", "0", "0 ", "0 0", "0 0 ", "0 1994", "0 1994 ", "0 1994  ADVANCE", "0  1994 ADVANCE",
                     " 0 1994 ADVANCE", "ADVANCE", "1994 ADVANCE", "0 1994 ADVANCE ", "0 ADVANCE 1994", "0\t1994 ADVANCE"):
            self.none(0, line)

    def test_each_changed_sign(self):
        # No other character in any one place gives a line that is taken, but for another call with the same sum.
        for number, call in ((0, SHORT[0]), (12, SHORT[2]), (3, SHORT[4])):
            line = line_of(number, call)
            for at in range(len(line)):
                for sign in " 0123456789ABZaz/-\u00e4":
                    if sign != line[at]:
                        self.none(number, line[:at] + sign + line[at + 1:])

    def test_lists_are_new(self):
        line = line_of(0, SHORT[1])
        read_line(0, line)[1].clear()
        self.assertEqual(read_line(0, line), SHORT[1])


class JournalTest(unittest.TestCase):
    def test_there_and_back(self):
        for log in ([], LOG, SHORT, LOG * 6):
            before = copy.deepcopy(log)
            text = journal_text(log)
            self.assertEqual(log, before)
            self.assertEqual(text, "".join(line_of(number, call) + "\n" for number, call in enumerate(log)))
            self.assertEqual(read_journal(text), log)

    def test_empty(self):
        self.assertEqual(journal_text([]), "")
        self.assertEqual(read_journal(""), [])
        self.assertEqual(journal_text([("advance", [])]), "0 1994 ADVANCE\n")

    def test_random(self):
        chance = random.Random(1)
        log = [random_call(chance) for _ in range(300)]
        self.assertEqual(read_journal(journal_text(log)), log)

    def test_cut_anywhere(self):
        for log in (LOG[2:], SHORT * 2):
            text = journal_text(log)
            for at in range(len(text) + 1):
                self.assertEqual(read_journal(text[:at]), log[:text[:at].count("\n")])

    def test_begin_cut_off(self):
        text = journal_text(SHORT)
        for at in range(1, len(text)):
            self.assertEqual(read_journal(text[at:]), [])

    def test_wrong_line_ends_it(self):
        lines = journal_text(SHORT).split("\n")[:-1]
        wrong = ["", "x", "0 1994 ADVANCE", "99 1994 ADVANCE", "ADVANCE"]
        for at in range(len(lines)):
            good = lines[at]
            number, told, text = good.split(" ", 2)
            for line in wrong + [
                f"{int(number) + 1} {told} {text}", f"0{number} {told} {text}", f"{number} {int(told) + 1} {text}",
                f"{number} 0{told} {text}", good + " ", good + "\r", f"{number} {told} {text}\u00e4", summed(at, "ADVANC"),
                summed(at, "ENTER"), f"{number}  {told} {text}",
            ]:
                if line != good:
                    for behind in (lines[at + 1:], lines[at:]):
                        found = read_journal("".join(each + "\n" for each in lines[:at] + [line] + behind))
                        self.assertEqual(found, SHORT[:at], line)

    def test_lines_exchanged_left_out_and_twice(self):
        lines = journal_text(SHORT).split("\n")[:-1]
        for at in range(len(lines) - 1):
            exchanged = lines[:at] + [lines[at + 1], lines[at]] + lines[at + 2:]
            left_out = lines[:at] + lines[at + 1:]
            for found in (exchanged, left_out):
                self.assertEqual(read_journal("\n".join(found) + "\n"), SHORT[:at])
            twice = lines[:at + 1] + lines[at:]
            self.assertEqual(read_journal("\n".join(twice) + "\n"), SHORT[:at + 1])

    def test_last_line_without_its_newline(self):
        text = journal_text(SHORT)
        self.assertEqual(read_journal(text[:-1]), SHORT[:-1])
        self.assertEqual(read_journal(text + "6 1994 ADVANCE"), SHORT)
        self.assertEqual(read_journal(text + "6 1994 ADVANCE\n"), SHORT + [("advance", [])])
        self.assertEqual(read_journal(text + "\n"), SHORT)

    def test_numbers_with_more_digits(self):
        log = [("advance", [])] * 1001
        text = journal_text(log)
        self.assertTrue(text.endswith("\n999 1994 ADVANCE\n1000 1994 ADVANCE\n"))
        self.assertEqual(read_journal(text), log)

    def test_lists_are_new(self):
        text = journal_text(SHORT)
        calls = read_journal(text)
        calls[1][1].clear()
        calls.clear()
        self.assertEqual(read_journal(text), SHORT)


if __name__ == "__main__":
    unittest.main()
