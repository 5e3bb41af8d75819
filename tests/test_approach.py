"""Point 59: requests in a good sequence."""
import copy
import itertools
import random
import unittest

from skyapart.approach import sequenced
from skyapart.courses import tube, window
from skyapart.errors import CourseError, SequenceError, SkyError
from skyapart.path import Path
from skyapart.requests import menu
from tests.centres import CALM, KIND, exact_rules, lanes_chart
from tests.samples import plain_chart

GAPS = ((3, 3, 3, 3), (9, 3, 3, 3), (9, 9, 3, 3), (9, 9, 9, 3))


def star_chart():
    """Return a chart with ways of 1000, 2000 and 5000 to one runway, and legs to other fixes."""
    fixes = {"R": (0, 0), "N": (0, 1000), "E": (2000, 0), "W": (-5000, 0), "Q": (0, -3000), "X": (9000, 9000)}
    legs = [("N", "R", "S", 0, 600), ("E", "R", "S", 0, 600), ("W", "R", "S", 0, 600), ("N", "Q", "S", 0, 600),
            ("W", "E", "S", 0, 600), ("Q", "N", "S", 0, 50)]
    chart = plain_chart(fixes, legs)
    chart["runways"] = ["R", "Q"]
    return chart


def asked(flight, start="N", tick=5, wake=1, goal="R", level=100, wanted=None, late=0, speeds=(100, 100)):
    return flight, (wake, *speeds, 2, 5), start, goal, level, level if wanted is None else wanted, tick, late


class Case(unittest.TestCase):
    def sequence(self, requests, shift=7, chart=None, rules=None, winds=CALM):
        """Return the names of the flights in sequence."""
        chart, rules = chart or star_chart(), rules or exact_rules(gaps=GAPS)
        before = copy.deepcopy((chart, rules, winds, requests))
        found = sequenced(chart, rules, winds, requests, shift)
        self.assertEqual((chart, rules, winds, requests), before)
        self.assertIsNot(found, requests)
        self.assertCountEqual(found, requests)
        return [request[0] for request in found]

    def wrong(self, code, requests, shift=7, **others):
        before = copy.deepcopy(requests)
        with self.assertRaises(SequenceError) as caught:
            self.sequence(requests, shift, **others)
        self.assertEqual(caught.exception.code, code)
        self.assertIsInstance(caught.exception, SkyError)
        self.assertEqual(requests, before)


class OrderTest(Case):
    def test_no_requests(self):
        self.assertEqual(sequenced(star_chart(), exact_rules(), CALM, [], 0), [])
        self.assertEqual(sequenced(star_chart(), exact_rules(), CALM, [], 7), [])

    def test_one(self):
        self.assertEqual(self.sequence([asked("F1")], 0), ["F1"])

    def test_order_of_the_ready_ticks(self):
        # N is 10 ticks away, E 20 and W 50.
        requests = [asked("W1", "W", 5), asked("E1", "E", 5), asked("N1", "N", 5), asked("N2", "N", 30)]
        self.assertEqual(self.sequence(requests), ["N1", "E1", "N2", "W1"])
        self.assertEqual(self.sequence(requests, 0), ["N1", "E1", "N2", "W1"])
        self.assertEqual(self.sequence(requests[::-1]), ["N1", "E1", "N2", "W1"])

    def test_the_requests_themselves(self):
        requests = [asked("W1", "W", 5, late=3), asked("N1", "N", 5, wanted=110)]
        found = sequenced(star_chart(), exact_rules(), CALM, requests, 7)
        self.assertEqual(found, [requests[1], requests[0]])

    def test_equal_ready_ticks(self):
        # With equal gaps the least tuple of indexes wins.
        self.assertEqual(self.sequence([asked("B", "N", 15), asked("A", "E", 5), asked("C", "N", 15)]), ["B", "A", "C"])
        # The heavy one, which the others must follow late, is better the last one.
        requests = [asked("H", "N", 15, wake=3), asked("A", "E", 5, wake=0), asked("C", "N", 15, wake=0)]
        self.assertEqual(self.sequence(requests), ["A", "C", "H"])

    def test_shifts(self):
        # In the order of (ready, index): H, A, B, C.
        requests = [asked("H", "N", 5, wake=3)] + [asked(name, "N", 6, wake=0) for name in "ABC"]
        self.assertEqual(self.sequence(requests, 0), ["H", "A", "B", "C"])
        self.assertEqual(self.sequence(requests, 2), ["H", "A", "B", "C"])
        self.assertEqual(self.sequence(requests, 3), ["A", "B", "C", "H"])
        self.assertEqual(self.sequence(requests, 7), ["A", "B", "C", "H"])
        # The order of the list does not matter for the shift.
        self.assertEqual(self.sequence(requests[::-1], 0), ["H", "C", "B", "A"])

    def test_seven(self):
        requests = [asked(f"F{index}", "N", 10 + index, wake=(3, 0)[index % 2]) for index in range(7)]
        found = self.sequence(requests, 7)
        self.assertEqual(found, ["F1", "F3", "F5", "F0", "F2", "F4", "F6"])
        self.assertEqual(self.sequence(requests, 0), [f"F{index}" for index in range(7)])
        self.assertNotEqual(self.sequence(requests, 2), found)

    def test_hundred_ticks(self):
        # One is ready 200 ticks before the others: it may wait for 100 ticks only.
        gaps = ((101, 100, 1, 1), (1, 1, 1, 1), (1, 1, 1, 1), (1, 1, 1, 1))
        rules = exact_rules(gaps=gaps)
        self.wrong("none", [asked("A", wake=0), asked("B", wake=0)], rules=rules)
        self.assertEqual(self.sequence([asked("A", wake=0), asked("B", wake=0, tick=6)], rules=rules), ["A", "B"])
        self.assertEqual(self.sequence([asked("A", wake=0), asked("B", wake=1)], 0, rules=rules), ["A", "B"])

    def test_none(self):
        gaps = tuple((200,) * 4 for _ in range(4))
        self.wrong("none", [asked("A"), asked("B")], rules=exact_rules(gaps=gaps))
        self.assertEqual(self.sequence([asked("A")], rules=exact_rules(gaps=gaps)), ["A"])
        # A good order that needs a shift.
        gaps = ((1, 1, 1, 1), (1, 1, 1, 1), (1, 1, 1, 1), (200, 1, 1, 1))
        requests = [asked("H", wake=3), asked("L", wake=0)]
        self.assertEqual(self.sequence(requests, 1, rules=exact_rules(gaps=gaps)), ["L", "H"])
        self.wrong("none", requests, 0, rules=exact_rules(gaps=gaps))

    def test_earliest_not_latest(self):
        # D may be there from its tick of entry on, as it may be late; its latest tick is behind that of N.
        requests = [asked("N", "N", 9), asked("D", "N", 8, late=1000)]
        self.assertEqual(self.sequence(requests, 0), ["D", "N"])

    def test_winds_and_slip(self):
        # The wind from the east holds up those from the west.
        requests = [asked("W", "W", 5), asked("E", "E", 36)]
        self.assertEqual(self.sequence(requests, 0), ["W", "E"])
        self.assertEqual(self.sequence(requests, 0, winds=[(0, -40, 0, 0)]), ["E", "W"])
        # A slip lets the nominal progress of the longer way get ahead.
        requests = [asked("E", "E", 34), asked("W", "W", 5)]
        self.assertEqual(self.sequence(requests, 0), ["E", "W"])
        self.assertEqual(self.sequence(requests, 0, rules=exact_rules(gaps=GAPS, slip=10)), ["W", "E"])


class FirstEntryTest(Case):
    def test_later_option(self):
        # At the fast speed the way leads over the second leg while it is shut; at the slow one it does not.
        chart = plain_chart({"A": (0, 0), "B": (1000, 0), "R": (2000, 0), "N": (2000, 1000)},
                            [("A", "B", "S", 0, 600), ("B", "R", "S", 0, 600), ("N", "R", "S", 0, 600)])
        chart["runways"] = ["R"]
        requests = [asked("F1", "A", 5, speeds=(50, 100)), asked("N", "N", 30)]
        self.assertEqual(self.options(chart, requests[0]), [25, 45, 33, 53])
        self.assertEqual(self.sequence(requests, 0, chart), ["F1", "N"])
        chart["hours"] = [("B", "R", 20, 24)]
        self.assertEqual(self.options(chart, requests[0]), ["shut", 45, "shut", 53])
        self.assertEqual(self.sequence(requests, 0, chart), ["N", "F1"])

    def test_only_with_the_later_entry(self):
        chart = star_chart()
        chart["hours"] = [("N", "R", 0, 12)]
        late = asked("LATE", "N", 5)
        self.assertEqual(self.options(chart, late), ["shut", 23])
        self.assertEqual(self.sequence([late, asked("E", "E", 2)], 0, chart), ["E", "LATE"])
        self.assertEqual(self.sequence([late, asked("E", "E", 2)], 0), ["LATE", "E"])

    def options(self, chart, request):
        """Return the earliest landings of all options, or the codes."""
        found = []
        for course, tick in menu(chart, request):
            path = Path(chart, course[0])
            try:
                boxes = tube(chart, path, course, request[1], exact_rules(), CALM, tick, (-request[7], 0, *[request[4]] * 2))
                found.append(window(path, tick, boxes)[0])
            except CourseError as error:
                found.append(error.code)
        return found

    def test_no_first_entry(self):
        chart = star_chart()
        chart["hours"] = [("N", "R", 0, 100)]
        self.wrong("entry", [asked("F1", "N", 5)], chart=chart)
        self.wrong("entry", [asked("F1", "E", 5), asked("F2", "N", 5)], chart=chart)
        self.wrong("entry", [asked("F1", "N", 5), asked("F2", "E", 5)], chart=chart)
        self.assertEqual(self.sequence([asked("F1", "E", 5)], chart=chart), ["F1"])
        # Too long for a tube.
        self.wrong("entry", [asked("F1", "W", 5, speeds=(1, 20))])
        self.assertEqual(self.sequence([asked("F1", "W", 5, speeds=(1, 21))]), ["F1"])

    def test_empty_menu(self):
        self.wrong("entry", [asked("F1", "X")])
        self.wrong("entry", [asked("F1", "Q", level=51), asked("F2")])
        self.assertEqual(self.sequence([asked("F1", "Q", level=50), asked("F2")]), ["F2", "F1"])

    def test_entry_before_none(self):
        rules = exact_rules(gaps=tuple((200,) * 4 for _ in range(4)))
        self.wrong("entry", [asked("A"), asked("B"), asked("C", "X")], rules=rules)


class RunwayTest(Case):
    def test_other_runway(self):
        self.wrong("runway", [asked("F1", goal="R"), asked("F2", goal="Q")])
        self.wrong("runway", [asked("F1", goal="R"), asked("F2", goal="R"), asked("F3", goal="Q")])
        self.assertEqual(self.sequence([asked("F1", goal="Q"), asked("F2", goal="Q", tick=1)]), ["F2", "F1"])

    def test_no_runway(self):
        self.wrong("runway", [asked("F1", goal="E", start="W")])
        self.wrong("runway", [asked("F1", goal="E", start="W"), asked("F2", goal="E", start="W")])
        self.wrong("runway", [asked("F1"), asked("F2", goal="E", start="W")])
        self.wrong("runway", [asked("F2", goal="E", start="W"), asked("F1")])

    def test_runway_before_entry(self):
        self.wrong("runway", [asked("F1", "X"), asked("F2", goal="Q")])
        self.wrong("runway", [asked("F1", "X", goal="E")])
        self.wrong("runway", [asked("F1", "X"), asked("F2"), asked("F3", "Q", goal="N")])

    def test_lanes(self):
        requests = [("F2", KIND, "A2", "C2", 100, 100, 5, 0), ("F1", KIND, "A1", "C2", 100, 100, 5, 0)]
        self.assertEqual(self.sequence(requests, chart=lanes_chart()), ["F2", "F1"])


class RandomTest(Case):
    def plain(self, gaps, arrivals, shift):
        """Return the best order by a look at all of them, or None."""
        ranked = sorted(range(len(arrivals)), key=lambda index: (arrivals[index][1], index))
        best = None
        for order in itertools.permutations(range(len(arrivals))):
            if any(abs(order.index(index) - ranked.index(index)) > shift for index in order):
                continue
            ticks = []
            for at, index in enumerate(order):
                wake, ready, _ = arrivals[index]
                ticks.append(max([ready] + [ticks[k] + gaps[arrivals[order[k]][0]][wake] for k in range(at)]))
            if all(tick <= arrivals[index][2] for index, tick in zip(order, ticks)):
                found = (max(ticks), sum(ticks), order)
                best = found if best is None else min(best, found)
        return None if best is None else best[2]

    def test_random(self):
        chance, none = random.Random(1), 0
        for _ in range(150):
            gaps = tuple(tuple(chance.randint(1, 90) for _ in range(4)) for _ in range(4))
            rules = exact_rules(gaps=gaps, slip=chance.randint(0, 3))
            requests = [
                asked(f"F{index}", chance.choice("NEW"), chance.randint(1, 30), chance.randint(0, 3),
                      late=chance.choice((0, 150)), speeds=(60, chance.choice((60, 100)))) for index in range(chance.randint(1, 5))
            ]
            arrivals = []
            for request in requests:
                (course, tick) = menu(star_chart(), request)[0]
                path = Path(star_chart(), course[0])
                boxes = tube(star_chart(), path, course, request[1], rules, CALM, tick, (-request[7], 0, 100, 100))
                ready = window(path, tick, boxes)[0]
                arrivals.append((request[1][0], ready, ready + 100))
            shift = chance.choice((0, 1, 2, 7))
            order = self.plain(gaps, arrivals, shift)
            if order is None:
                none += 1
                self.wrong("none", requests, shift, rules=rules)
            else:
                self.assertEqual(self.sequence(requests, shift, rules=rules), [requests[index][0] for index in order])
        self.assertGreater(none, 10)
        self.assertLess(none, 140)


if __name__ == "__main__":
    unittest.main()
