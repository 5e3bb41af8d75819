import copy
import random
import unittest

from skyapart.errors import RequestError, RouteError, SkyError, TextError
from skyapart.requests import check_requests, menu, read_request, request_text
from skyapart.routes import alternatives, with_loops
from tests.samples import plain_chart, random_chart, small_chart

GOOD = ("AB1", (1, 20, 40, 2, 5), "A", "C", 100, 120, 7, 60)
TEXT = "FLIGHT AB1 KIND 1 20 40 2 5 FROM A TO C AT 100 WANTS 120 TICK 7 LATE 60"
FIELDS = ("flight", "kind", "start", "goal", "level", "wanted", "tick", "late")
# The places of the names, the numbers and the required words among the 20 words.
NAMES = (1, 9, 11)
NUMBERS = (3, 4, 5, 6, 7, 13, 15, 17, 19)
REQUIRED = (0, 2, 8, 10, 12, 14, 16, 18)


def request(**others):
    return tuple({**dict(zip(FIELDS, GOOD)), **others}.values())


class CheckTest(unittest.TestCase):
    def right(self, *requests):
        handed = list(requests)
        self.assertIsNone(check_requests(small_chart(), handed))
        self.assertEqual(handed, list(requests))

    def wrong(self, code, index, *requests):
        with self.assertRaises(RequestError) as caught:
            check_requests(small_chart(), list(requests))
        self.assertEqual((caught.exception.code, caught.exception.index), (code, index))
        self.assertIsInstance(caught.exception, SkyError)

    def test_good_ones(self):
        self.right()
        self.right(GOOD)
        self.right(GOOD, request(flight="AB2"), request(flight="B"))

    def test_names(self):
        for name in ("", "1A", "ABCDEF", "a", "A-", "A B", "AB\u0661", "\u00c4"):
            self.wrong("name", 0, request(flight=name))
        for name in ("A", "ABCDE", "Z9999"):
            self.right(request(flight=name))

    def test_same_name(self):
        self.wrong("name", 1, GOOD, GOOD)
        self.wrong("name", 2, GOOD, request(flight="X"), request(start="D"))

    def test_kinds(self):
        for kind in ((-1, 20, 40, 2, 5), (4, 20, 40, 2, 5), (1, 0, 40, 2, 5), (1, 41, 40, 2, 5), (1, 20, 10001, 2, 5),
                     (1, 20, 40, 0, 5), (1, 20, 40, 6, 5), (1, 20, 40, 2, 101)):
            self.wrong("kind", 0, request(kind=kind))
        for kind in ((0, 1, 1, 1, 1), (3, 10000, 10000, 100, 100)):
            self.right(request(kind=kind))

    def test_fixes(self):
        self.wrong("fix", 0, request(start="X"))
        self.wrong("fix", 0, request(goal="X"))
        self.wrong("fix", 0, request(start="C"))
        self.wrong("fix", 0, request(start="S1"))
        self.right(request(start="C", goal="E5"))

    def test_levels(self):
        for field in ("level", "wanted"):
            self.wrong("level", 0, request(**{field: -1}))
            self.wrong("level", 0, request(**{field: 601}))
            self.right(request(**{field: 0}))
            self.right(request(**{field: 600}))

    def test_ticks(self):
        self.wrong("tick", 0, request(tick=-1))
        self.wrong("tick", 0, request(tick=90001))
        self.right(request(tick=0))
        self.right(request(tick=90000))

    def test_late(self):
        self.wrong("late", 0, request(late=-1))
        self.wrong("late", 0, request(late=10001))
        self.right(request(late=0))
        self.right(request(late=10000))

    def test_first_request_that_fails(self):
        good = request(flight="OK")
        self.wrong("late", 1, good, request(late=-1), request(flight="-"))
        self.wrong("tick", 2, good, request(flight="OK2"), request(tick=-1), request(flight=""))
        self.wrong("name", 0, request(flight="-"), request(late=-1))

    def test_order_of_the_codes(self):
        bad = [("name", {"flight": ""}), ("kind", {"kind": (9, 1, 1, 1, 1)}), ("fix", {"goal": "X"}),
               ("level", {"wanted": 601}), ("tick", {"tick": -1}), ("late", {"late": -1})]
        for first in range(len(bad)):
            faults = {}
            for _, fault in bad[first:]:
                faults.update(fault)
            self.wrong(bad[first][0], 1, request(flight="OK"), request(**faults))
            for later in range(first + 1, len(bad)):
                self.wrong(bad[first][0], 0, request(**bad[first][1], **bad[later][1]))

    def test_arguments_stay(self):
        chart, requests = small_chart(), [GOOD, GOOD]
        with self.assertRaises(RequestError):
            check_requests(chart, requests)
        self.assertEqual((chart, requests), (small_chart(), [GOOD, GOOD]))


class TextTest(unittest.TestCase):
    def wrong(self, at, text):
        with self.assertRaises(TextError) as caught:
            read_request(text)
        self.assertEqual(caught.exception.at, at, text)
        self.assertIsInstance(caught.exception, SkyError)

    def replaced(self, at, word):
        words = TEXT.split(" ")
        words[at] = word
        return " ".join(words)

    def test_there_and_back(self):
        self.assertEqual(request_text(GOOD), TEXT)
        self.assertEqual(read_request(TEXT), GOOD)
        self.assertEqual(len(TEXT.split(" ")), 20)

    def test_random(self):
        chance = random.Random(1)
        for _ in range(200):
            numbers = [chance.choice((0, 7, 10, 999999999, chance.randint(0, 10 ** 9 - 1))) for _ in range(9)]
            names = [chance.choice(("A", "Z9", "ABCDE", "FROM", "TO", "AT", "LATE", "B0000")) for _ in range(3)]
            made = (names[0], tuple(numbers[:5]), *names[1:], *numbers[5:])
            self.assertEqual(read_request(request_text(made)), made)

    def test_ranges_are_not_checked(self):
        self.assertEqual(read_request(self.replaced(3, "999999999"))[1][0], 999999999)
        self.assertEqual(read_request(self.replaced(13, "601"))[4], 601)
        self.assertEqual(read_request(self.replaced(11, "A"))[3], "A")
        self.assertEqual(read_request(self.replaced(17, "123456789"))[6], 123456789)

    def test_zero(self):
        for at in NUMBERS:
            self.assertIn("0", request_text(read_request(self.replaced(at, "0"))).split(" ")[at])

    def test_wrong_words(self):
        for at in REQUIRED:
            for word in ("X", "", "5", TEXT.split(" ")[at].lower(), TEXT.split(" ")[at] + "X", "/"):
                self.wrong(at, self.replaced(at, word))

    def test_wrong_names(self):
        for at in NAMES:
            for word in ("", "1", "a", "A-", "ABCDEF", "\u00c4", "A\u0661", "A\n", "A\t"):
                self.wrong(at, self.replaced(at, word))

    def test_wrong_numbers(self):
        for at in NUMBERS:
            for word in ("", "X", "-1", "+1", "00", "01", "007", "1000000000", "0000000001", "1.0", "1_0", "\u0661",
                         "\u00b2", "1\u0661", "\uff11", "1\n", " ", "0x1", "1e3"):
                if word != " ":
                    self.wrong(at, self.replaced(at, word))

    def test_nine_digits(self):
        for at in NUMBERS:
            made = read_request(self.replaced(at, "100000000"))
            self.assertEqual(request_text(made), self.replaced(at, "100000000"))

    def test_empty_words(self):
        self.wrong(0, "")
        self.wrong(0, " ")
        self.wrong(0, " " + TEXT)
        self.wrong(20, TEXT + " ")
        for at in range(20):
            words = TEXT.split(" ")
            words.insert(at, "")
            self.wrong(at, " ".join(words))

    def test_too_few_words(self):
        words = TEXT.split(" ")
        for many in range(1, 20):
            self.wrong(many, " ".join(words[:many]))

    def test_too_many_words(self):
        self.wrong(20, TEXT + " 5")
        self.wrong(20, TEXT + " " + TEXT)
        self.wrong(20, TEXT + " /")

    def test_first_wrong_word(self):
        words = TEXT.split(" ")
        for at in range(20):
            self.wrong(at, " ".join(words[:at] + ["-"] * (20 - at)))
            self.wrong(at, " ".join(words[:at] + ["-"] * (40 - at)))
        self.wrong(2, "FLIGHT AB1 X")
        self.wrong(1, "FLIGHT x")

    def test_other_blanks(self):
        self.wrong(0, TEXT.replace(" ", "\t"))
        self.wrong(0, TEXT.replace(" ", "\n", 1))
        self.wrong(19, TEXT + "\n")


def hold_chart():
    """Return a chart with two ways from A to C, the shorter one with a hold at B, and one from C to E."""
    chart = plain_chart(
        {"A": (0, 0), "B": (100, 0), "C": (200, 0), "D": (100, 70), "E": (300, 0)},
        [("A", "B", "S", 0, 600), ("B", "C", "S", 0, 600), ("A", "D", "S", 0, 600), ("D", "C", "S", 0, 600),
         ("B", "D", "S", 0, 600), ("D", "B", "S", 0, 600), ("C", "E", "S", 0, 100)],
    )
    chart["holds"] = {"B": "D"}
    return chart


class MenuTest(unittest.TestCase):
    def menu(self, chart=None, **others):
        chart = chart or hold_chart()
        before, made = copy.deepcopy(chart), request(**others)
        options = menu(chart, made)
        self.assertEqual(chart, before)
        menu(chart, made).clear()
        self.assertEqual(menu(chart, made), options)
        return options

    def test_order(self):
        short, looped, long = ("A", "B", "C"), ("A", "B", "D", "B", "C"), ("A", "D", "C")
        one_entry = [
            (route, speed, level) for route in (short, looped, long) for level in (120, 100) for speed in (40, 20)
        ]
        self.assertEqual(
            self.menu(), [(course, 7) for course in one_entry] + [(course, 15) for course in one_entry],
        )

    def test_equal_speeds(self):
        options = self.menu(kind=(1, 40, 40, 2, 5))
        self.assertEqual([course[1] for course, _ in options], [40] * 12)
        self.assertEqual(options[:2], [((("A", "B", "C"), 40, 120), 7), ((("A", "B", "C"), 40, 100), 7)])

    def test_equal_levels(self):
        options = self.menu(wanted=100)
        self.assertEqual([course[2] for course, _ in options], [100] * 12)
        self.assertEqual(options[:2], [((("A", "B", "C"), 40, 100), 7), ((("A", "B", "C"), 20, 100), 7)])

    def test_both_equal(self):
        options = self.menu(wanted=100, kind=(1, 40, 40, 2, 5))
        self.assertEqual([(course[0], tick) for course, tick in options], [
            (route, tick) for tick in (7, 15)
            for route in (("A", "B", "C"), ("A", "B", "D", "B", "C"), ("A", "D", "C"))
        ])

    def test_one_alternative_and_none(self):
        self.assertEqual(len(self.menu(start="C", goal="E", level=100)), 8)
        self.assertEqual(self.menu(start="C", goal="E", level=101), [])
        self.assertEqual(self.menu(start="E", goal="C"), [])

    def test_at_the_level_not_the_wanted_one(self):
        self.assertEqual(len(self.menu(start="C", goal="E", level=100, wanted=101)), 8)
        self.assertEqual(self.menu(start="C", goal="E", level=101, wanted=100), [])

    def test_only_two_alternatives(self):
        chart = hold_chart()
        chart["holds"] = {}
        self.assertEqual(len(alternatives(chart, "A", "C", 100, 9)), 4)
        routes = [course[0] for course, _ in self.menu(chart)]
        self.assertEqual(routes, [("A", "B", "C")] * 4 + [("A", "D", "C")] * 4 + [("A", "B", "C")] * 4
                         + [("A", "D", "C")] * 4)

    def test_loop_at_the_first_fix(self):
        chart = hold_chart()
        chart["legs"].append(("D", "A", "S", 0, 600))
        chart["holds"] = {"A": "D", "B": "D"}
        routes = [course[0] for course, _ in self.menu(chart, wanted=100, kind=(1, 40, 40, 2, 5))]
        self.assertEqual(routes[:4], [("A", "B", "C"), ("A", "D", "A", "B", "C"), ("A", "D", "C"),
                                      ("A", "D", "A", "D", "C")])

    def test_long_routes(self):
        # An alternative has at most 8 names; with a loop, 10.
        chart = plain_chart(
            {name: (100 * index, 0) for index, name in enumerate("ABCDEFGHI")},
            [(one, other, "S", 0, 600) for one, other in zip("ABCDEFGH", "BCDEFGHI")] + [("B", "A", "S", 0, 600)],
        )
        chart["holds"] = {"B": "A"}
        routes = [course[0] for course, _ in self.menu(chart, goal="H", wanted=100, kind=(1, 40, 40, 2, 5))]
        self.assertEqual(routes, [tuple("ABCDEFGH"), tuple("ABABCDEFGH")] * 2)
        self.assertEqual(self.menu(chart, goal="I"), [])
        with self.assertRaises(RouteError):
            with_loops(chart, tuple("ABCDEFGH") * 2, 1)

    def test_late_and_tick(self):
        self.assertEqual({tick for _, tick in self.menu(tick=0, late=5)}, {0, 8})
        self.assertEqual(self.menu(late=0), self.menu(late=9))

    def test_random(self):
        chance = random.Random(2)
        for seed in range(60):
            chart = random_chart(seed, levels=((0, 600), (0, 100), (90, 300)))
            ends = {(leg[0], leg[1]) for leg in chart["legs"]}
            both = sorted(pair for pair in ends if pair[::-1] in ends)
            chart["holds"] = dict(chance.sample(both, min(len(both), 2)))
            start, goal = chance.sample(sorted(chart["fixes"]), 2)
            level, wanted, slow = chance.randint(50, 150), chance.randint(50, 150), chance.randint(20, 25)
            expected = []
            for tick in (30, 38):
                for route in alternatives(chart, start, goal, level, 2):
                    for loops in (0, 1):
                        try:
                            flown = with_loops(chart, route, loops)
                        except RouteError:
                            continue
                        for aim in dict.fromkeys((wanted, level)):
                            for speed in dict.fromkeys((25, slow)):
                                expected.append(((flown, speed, aim), tick))
            found = self.menu(chart, start=start, goal=goal, level=level, wanted=wanted, tick=30,
                              kind=(1, slow, 25, 2, 5))
            self.assertEqual(found, expected)


if __name__ == "__main__":
    unittest.main()
