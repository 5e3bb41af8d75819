"""Point 60: texts of charts."""
import copy
import random
import unittest

from skyapart.chart import check_chart
from skyapart.charttext import chart_text, read_chart
from skyapart.errors import ChartError
from tests.samples import plain_chart, random_chart, small_chart
from tests.texts import TextCase, WRONG_NAMES, WRONG_NUMBERS, WRONG_SIGNED, replaced

TEXT = """\
FIX A 0 0
FIX B 30 40
FIX C 30 140
FIX D -60 80
FIX E5 500 0
LEG A B S1 0 600
LEG B C S1 100 300
LEG B D S2 50 400
LEG D B S2 50 400
LEG D C S2 0 200
LEG C A S3 0 600
ZONE 200 200 300 200 300 300 200 300
RUNWAY C
RUNWAY A
HOLD B D
HOURS A B 10 20
HOURS B C 0 0
CAPACITY S1 3
CAPACITY S2 20
"""
LINES = TEXT.split("\n")[:-1]
EMPTY = {"fixes": {}, "legs": [], "zones": [], "runways": [], "holds": {}, "hours": [], "capacities": {}}
# A line of each kind, what it stands for, and its places: n for a name, # for a number, s for a signed one.
KINDS = (
    ("FIX A -5 7", {"fixes": {"A": (-5, 7)}}, "=nss"),
    ("LEG X9 Y S 600 0", {"legs": [("X9", "Y", "S", 600, 0)]}, "=nnn##"),
    ("ZONE 1 2 -3 4 5 -6", {"zones": [((1, 2), (-3, 4), (5, -6))]}, "=ssssss"),
    ("RUNWAY FIX", {"runways": ["FIX"]}, "=n"),
    ("HOLD A A", {"holds": {"A": "A"}}, "=nn"),
    ("HOURS A B 5 3", {"hours": [("A", "B", 5, 3)]}, "=nn##"),
    ("CAPACITY S 0", {"capacities": {"S": 0}}, "=n#"),
)


def lines_text(*lines):
    return "".join(line + "\n" for line in lines)


class ThereAndBackTest(TextCase):
    def both(self, text, chart):
        before = copy.deepcopy(chart)
        self.assertEqual(chart_text(chart), text)
        self.assertEqual(chart, before)
        found = read_chart(text)
        self.assertEqual(found, chart)
        for part in ("fixes", "holds", "capacities"):
            self.assertEqual(list(found[part]), sorted(chart[part]))
        for part in ("legs", "zones", "runways", "hours"):
            self.assertIsInstance(found[part], list)
        check_kinds(self, found)

    def test_each_kind(self):
        self.both(TEXT, small_chart())
        check_chart(read_chart(TEXT))

    def test_one_kind_alone(self):
        for line, entries, _ in KINDS:
            self.both(lines_text(line), {**EMPTY, **entries})

    def test_no_entries(self):
        self.both("", EMPTY)

    def test_all_but_one_kind(self):
        for part, empty in EMPTY.items():
            chart = {**small_chart(), part: type(empty)()}
            self.both(chart_text(chart), chart)

    def test_order_of_names(self):
        # In the order of the characters a digit comes before a letter, and a part of a name before the name.
        names = ["B", "A10", "AA", "A9", "A", "Z", "A1"]
        chart = {**EMPTY, "fixes": {name: (1, 2) for name in names}, "holds": {name: "B" for name in names},
                 "capacities": {name: 5 for name in names}}
        ordered = ["A", "A1", "A10", "A9", "AA", "B", "Z"]
        self.both(lines_text(
            *[f"FIX {name} 1 2" for name in ordered], *[f"HOLD {name} B" for name in ordered],
            *[f"CAPACITY {name} 5" for name in ordered],
        ), chart)
        self.assertEqual(list(chart["fixes"]), names)

    def test_order_of_lists_stays(self):
        chart = {**EMPTY, "runways": ["C", "A", "C"], "legs": [("C", "A", "S", 1, 2), ("A", "C", "S", 3, 4)],
                 "hours": [("C", "A", 5, 6), ("A", "C", 7, 8)]}
        self.both(lines_text("LEG C A S 1 2", "LEG A C S 3 4", "RUNWAY C", "RUNWAY A", "RUNWAY C", "HOURS C A 5 6",
                             "HOURS A C 7 8"), chart)

    def test_charts_that_are_not_valid(self):
        # Legs of fixes that do not exist, a leg twice, zones that are none, numbers out of their ranges.
        text = lines_text("FIX A 999999999 -999999999", "LEG NO NO NO 700 3", "LEG NO NO NO 700 3",
                          "ZONE 0 0 0 0 0 0", "ZONE 0 0 1 0 2 0 3 0 4 0 5 0 6 0 7 0", "RUNWAY Q", "RUNWAY Q",
                          "HOLD A ZZZZZ", "HOURS X Y 999999999 0", "CAPACITY S 999999999")
        chart = read_chart(text)
        self.both(text, chart)
        self.assertEqual(chart["legs"], [("NO", "NO", "NO", 700, 3)] * 2)
        self.assertEqual(chart["zones"], [((0, 0), (0, 0), (0, 0)), tuple((x, 0) for x in range(8))])
        with self.assertRaises(ChartError):
            check_chart(chart)

    def test_zones_of_each_size(self):
        for count in range(3, 9):
            chart = {**EMPTY, "zones": [tuple((x, -x) for x in range(count))] * 2}
            self.both(chart_text(chart), chart)

    def test_random(self):
        chance = random.Random(1)
        for seed in range(40):
            chart = random_chart(seed, spread=100000)
            chart["zones"] = [
                tuple((chance.randint(-10 ** 9 + 1, 10 ** 9 - 1), chance.randint(-9, 9)) for _ in range(chance.randint(3, 8)))
                for _ in range(chance.randint(0, 4))
            ]
            names = sorted(chart["fixes"])
            chance.shuffle(names)
            chart["fixes"] = {name: chart["fixes"][name] for name in names}
            chart["holds"] = {name: chance.choice(names) for name in names[:chance.randint(0, 5)]}
            chart["capacities"] = {name: chance.randint(0, 30) for name in names[:chance.randint(0, 5)]}
            chart["runways"] = names[:chance.randint(0, 3)]
            self.both(chart_text(chart), chart)

    def test_what_is_read_is_new(self):
        chart = read_chart(TEXT)
        for part in chart.values():
            part.clear()
        self.assertEqual(read_chart(TEXT), small_chart())
        self.assertEqual(read_chart(""), EMPTY)


def check_kinds(test, chart):
    """Check that entries are tuples, as in the form of a chart."""
    for point in chart["fixes"].values():
        test.assertIsInstance(point, tuple)
    for row in chart["legs"] + chart["hours"]:
        test.assertIsInstance(row, tuple)
    for zone in chart["zones"]:
        test.assertIsInstance(zone, tuple)
        for point in zone:
            test.assertIsInstance(point, tuple)


class WrongTest(TextCase):
    def wrong(self, at, text):
        self.wrong_text(read_chart, at, text)

    def wrong_line(self, line):
        """Check that a line is wrong, alone and where lines are before and behind it."""
        self.wrong(0, line + "\n")
        self.wrong(0, line + "\nFIX A 0 0\n")
        self.wrong(1, f"FIX A 0 0\n{line}\n")
        self.wrong(1, f"FIX A 0 0\n{line}\nFIX\n")

    def test_wrong_words(self):
        wrong = {"n": WRONG_NAMES, "#": WRONG_NUMBERS, "s": WRONG_SIGNED}
        for line, _, slots in KINDS:
            for at, slot in enumerate(slots):
                for word in wrong.get(slot, ("", "fix", "FIXES", "5", "FI X", "A", "GATE")):
                    if "\n" not in word:
                        self.wrong_line(replaced(line, at, word))

    def test_words_too_many_and_too_few(self):
        for line, _, _ in KINDS:
            self.wrong_line(line + " 5")
            self.wrong_line(line + " A")
            self.wrong_line(line + " ")
            self.wrong_line(" " + line)
            words = line.split(" ")
            for many in range(1, len(words)):
                self.wrong_line(" ".join(words[:many]))
                self.wrong_line(" ".join(words[:many]) + " ")

    def test_two_blanks(self):
        for line, _, slots in KINDS:
            words = line.split(" ")
            for at in range(1, len(slots)):
                self.wrong_line(" ".join(words[:at]) + "  " + " ".join(words[at:]))
            self.wrong_line(line.replace(" ", "\t"))

    def test_small_letters(self):
        for line, _, _ in KINDS:
            self.wrong_line(line.lower())
        self.wrong_line("FIX a 0 0")
        self.wrong_line("LEG A B s 0 1")

    def test_numbers(self):
        for word in ("-0", "01", "1000000000", "-1000000000", "+1", "00"):
            self.wrong_line(f"FIX A {word} 0")
            self.wrong_line(f"ZONE 0 0 1 0 0 {word}")
            self.wrong_line(f"LEG A B S {word} 5")
        for word in ("-1", "-600"):
            self.wrong_line(f"LEG A B S {word} 5")
            self.wrong_line(f"LEG A B S 5 {word}")
            self.wrong_line(f"HOURS A B {word} 5")
            self.wrong_line(f"HOURS A B 5 {word}")
            self.wrong_line(f"CAPACITY S {word}")
            read_chart(f"FIX A {word} {word}\n")

    def test_pairs_of_a_zone(self):
        for many in range(0, 20):
            line = " ".join(["ZONE"] + ["1"] * many)
            if many in (6, 8, 10, 12, 14, 16):
                self.assertEqual(read_chart(line + "\n")["zones"], [((1, 1),) * (many // 2)])
            else:
                self.wrong_line(line)

    def test_empty_lines(self):
        self.wrong(0, "\n")
        self.wrong(0, "\n\n")
        self.wrong(0, " \n")
        self.wrong(0, "\n" + TEXT)
        self.wrong(len(LINES), TEXT + "\n")
        for at in range(len(LINES)):
            self.wrong(at, lines_text(*LINES[:at], "", *LINES[at:]))

    def test_kinds_behind_later_kinds(self):
        for index, (line, _, _) in enumerate(KINDS):
            for later, _, _ in KINDS[index + 1:]:
                read_chart(lines_text(line, later))
                self.wrong(1, lines_text(later, line))
                self.wrong(2, lines_text(line, later, line))
        self.wrong(5, lines_text(*LINES[:4], LINES[10], "FIX Z 0 0", "FIX"))

    def test_names_that_do_not_grow(self):
        for kind, rest in (("FIX", "0 0"), ("HOLD", "Z"), ("CAPACITY", "5")):
            read_chart(lines_text(f"{kind} A {rest}", f"{kind} A0 {rest}", f"{kind} B {rest}"))
            for before, name in (("A", "A"), ("B", "A"), ("A1", "A"), ("AA", "A9"), ("Z9", "Z10")):
                self.wrong(1, lines_text(f"{kind} {before} {rest}", f"{kind} {name} {rest}"))
                self.wrong(2, lines_text(f"{kind} A {rest}", f"{kind} {before}0 {rest}", f"{kind} {name} {rest}"))
            # A lesser name counts before a later line that is wrong.
            self.wrong(1, lines_text(f"{kind} B {rest}", f"{kind} A {rest}", "FIX"))

    def test_names_of_one_kind_only(self):
        # The names of FIX, HOLD and CAPACITY are compared with those of their own kind.
        read_chart(lines_text("FIX Z 0 0", "LEG Z A S 0 0", "HOLD B A", "CAPACITY A 1"))
        read_chart(lines_text("FIX B 0 0", "HOLD A A"))
        # Other kinds may repeat and descend.
        read_chart(lines_text("LEG B B B 1 1", "LEG A A A 0 0", "LEG A A A 0 0", "ZONE 3 3 3 3 3 3", "ZONE 1 1 1 1 1 1",
                              "RUNWAY B", "RUNWAY A", "RUNWAY A", "HOURS B B 1 1", "HOURS A A 0 0"))

    def test_last_line_without_its_newline(self):
        self.wrong(len(LINES) - 1, TEXT[:-1])
        self.wrong(0, "FIX A 0 0")
        self.wrong(1, "FIX A 0 0\nFIX")
        self.wrong(1, "FIX A 0 0\n ")
        # A wrong line ahead of it counts first.
        self.wrong(0, "FIX A 0\nFIX B 0 0")

    def test_cut_anywhere(self):
        for at in range(len(TEXT)):
            text = TEXT[:at]
            if text == "" or text.endswith("\n"):
                read_chart(text)
            else:
                self.wrong(text.count("\n"), text)

    def test_other_ends_of_lines(self):
        self.wrong(0, TEXT.replace("\n", "\r\n"))
        self.wrong(0, "FIX A 0 0\r")
        self.wrong(0, "FIX A 0 0\x0bFIX B 0 0\n")
        self.wrong(0, "FIX A 0 0\u2028\n")

    def test_signs_that_are_not_ascii(self):
        for word in ("\u0661", "\uff11", "\u00b2"):
            self.wrong_line(f"FIX A {word} 0")
            self.wrong_line(f"CAPACITY S {word}")
        self.wrong_line("RUNWAY \u00c4")

    def test_first_wrong_line(self):
        for at in range(len(LINES)):
            self.wrong(at, lines_text(*LINES[:at], *["-"] * (len(LINES) - at)))

    def test_chart_without_entries_is_no_chart_to_use(self):
        with self.assertRaises(ChartError):
            check_chart(read_chart(""))
        check_chart(plain_chart({"A": (0, 0), "B": (1, 1)}, []))


if __name__ == "__main__":
    unittest.main()
