import copy
import unittest

from skyapart.chart import check_chart, is_name, leg_between, leg_length
from skyapart.errors import ChartError
from tests.samples import line_chart, plain_chart, small_chart


class ChartCase(unittest.TestCase):
    def good(self, chart):
        before = copy.deepcopy(chart)
        self.assertIsNone(check_chart(chart))
        self.assertEqual(chart, before)
        self.assertEqual([list(chart[part]) for part in ("fixes", "holds", "capacities")],
                         [list(before[part]) for part in ("fixes", "holds", "capacities")])

    def bad(self, chart, code, index):
        before = copy.deepcopy(chart)
        with self.assertRaises(ChartError) as caught:
            check_chart(chart)
        self.assertEqual((caught.exception.code, caught.exception.index), (code, index))
        self.assertEqual(chart, before)

    def changed(self, part, value):
        chart = small_chart()
        chart[part] = value
        return chart

    def added(self, part, *entries):
        chart = small_chart()
        chart[part] = chart[part] + list(entries)
        return chart

    def with_leg(self, index, leg):
        chart = small_chart()
        chart["legs"][index] = leg
        return chart


def many_fixes(count):
    return {f"F{index}": (10 * index, 0) for index in range(count)}


def full_legs():
    """Return 36 legs between 12 fixes, three from each."""
    return [(f"F{k}", f"F{(k + step) % 12}", "S", 0, 600) for k in range(12) for step in (1, 2, 3)]


class NameTest(unittest.TestCase):
    def test_names(self):
        for text in ("A", "Z", "AB", "ABCDE", "A1", "Z9999", "B0"):
            self.assertIs(is_name(text), True, text)
        for text in ("", "a", "Aa", "ABCDEF", "1", "1A", "A B", " A", "A ", "A-B", "A_", "\u00c4", "A\u0661", "A\n"):
            self.assertIs(is_name(text), False, text)


class SizeTest(ChartCase):
    def test_fixes(self):
        self.good(plain_chart(many_fixes(2), []))
        self.good(plain_chart(many_fixes(12), full_legs()))
        self.bad(plain_chart({}, []), "size", 0)
        self.bad(plain_chart(many_fixes(1), []), "size", 0)
        self.bad(plain_chart(many_fixes(13), []), "size", 0)

    def test_legs(self):
        self.bad(plain_chart(many_fixes(12), full_legs() + [("F0", "F5", "S", 0, 600)]), "size", 0)

    def test_zones(self):
        zones = [((x, 900), (x + 5, 900), (x, 905)) for x in range(0, 50, 10)]
        self.good(self.changed("zones", zones[:4]))
        self.bad(self.changed("zones", zones), "size", 0)

    def test_runways(self):
        self.good(self.changed("runways", ["A", "B", "C", "D"]))
        self.bad(self.changed("runways", ["A", "B", "C", "D", "E5"]), "size", 0)

    def test_hours(self):
        entry = ("A", "B", 5, 9)
        self.good(self.changed("hours", [entry] * 8))
        self.bad(self.changed("hours", [entry] * 9), "size", 0)


class FixTest(ChartCase):
    def renamed(self, name, point=(7, 7)):
        chart = small_chart()
        chart["fixes"][name] = point
        return chart

    def test_names(self):
        for name in ("Q", "QWERT", "Q9"):
            self.good(self.renamed(name))
        for name, index in (("", 0), ("QWERTY", 5), ("q", 5), ("Aa", 1), ("1A", 0), ("A B", 1), ("B_", 2)):
            self.bad(self.renamed(name), "fix", index)

    def test_coordinates(self):
        for point in ((100000, 0), (-100000, 0), (0, 100000), (0, -100000), (-100000, 100000)):
            self.good(self.renamed("Q", point))
        for point in ((100001, 0), (-100001, 0), (0, 100001), (0, -100001)):
            self.bad(self.renamed("Q", point), "fix", 5)

    def test_first_in_ascending_order(self):
        chart = plain_chart({"D": (0, 100001), "C": (0, 0), "B": (0, -100001), "A": (1, 1)}, [])
        self.bad(chart, "fix", 1)


class LegTest(ChartCase):
    def test_ends(self):
        self.bad(self.with_leg(1, ("X", "C", "S1", 0, 600)), "leg", 1)
        self.bad(self.with_leg(4, ("D", "X", "S1", 0, 600)), "leg", 4)
        self.bad(self.with_leg(0, ("A", "A", "S1", 0, 600)), "leg", 0)

    def test_same_coordinates(self):
        fixes = {"A": (5, 6), "B": (5, 6), "C": (5, 7), "D": (4, 6)}
        self.bad(plain_chart(fixes, [("A", "C", "S", 0, 1), ("A", "B", "S", 0, 1)]), "leg", 1)
        self.good(plain_chart(fixes, [("A", "C", "S", 0, 1), ("A", "D", "S", 0, 1)]))

    def test_sector(self):
        self.good(self.with_leg(1, ("B", "C", "ABCDE", 100, 300)))
        for sector in ("", "s", "ABCDEF", "1", "S 1"):
            self.bad(self.with_leg(1, ("B", "C", sector, 100, 300)), "leg", 1)

    def test_levels(self):
        for low, high in ((0, 600), (0, 0), (600, 600), (7, 7)):
            self.good(self.with_leg(1, ("B", "C", "S1", low, high)))
        for low, high in ((-1, 600), (0, 601), (8, 7), (601, 601), (-1, -1)):
            self.bad(self.with_leg(1, ("B", "C", "S1", low, high)), "leg", 1)

    def test_twice(self):
        self.bad(self.added("legs", ("B", "C", "S9", 7, 8)), "leg", 6)
        self.good(self.added("legs", ("C", "B", "S9", 7, 8)))

    def test_fourth_from_one_fix(self):
        more = (("A", "C", "S", 0, 1), ("A", "D", "S", 0, 1))
        self.good(self.added("legs", *more))
        self.bad(self.added("legs", *more, ("A", "E5", "S", 0, 1)), "leg", 8)
        self.good(self.added("legs", *more, ("E5", "A", "S", 0, 1)))

    def test_many_to_one_fix(self):
        fixes = {name: (index, index * index) for index, name in enumerate("ABCDEF")}
        self.good(plain_chart(fixes, [(name, "A", "S", 0, 1) for name in "BCDEF"]))

    def test_first_wrong_leg(self):
        legs = [("A", "B", "S", 0, 1), ("A", "B", "S", 0, 1), ("A", "B", "", 0, 1)]
        self.bad(plain_chart({"A": (0, 0), "B": (1, 1)}, legs), "leg", 1)


class ZoneTest(ChartCase):
    far = ((900, 900), (910, 900), (900, 910))

    def test_form(self):
        self.good(self.changed("zones", [self.far]))
        self.bad(self.changed("zones", [self.far, self.far[::-1]]), "zone", 1)
        self.bad(self.changed("zones", [self.far[:2]]), "zone", 0)
        self.bad(self.changed("zones", [()]), "zone", 0)

    def test_coordinates(self):
        for sign, edge in ((1, 100000), (-1, 100000)):
            for beyond in (0, 1):
                point = sign * (edge + beyond)
                wide = ((point, 900), (point + sign, 900), (point, 900 + sign))
                near = ((point, 900), (point - sign, 900), (point, 900 - sign))
                self.bad(self.changed("zones", [self.far, wide]), "zone", 1)
                if beyond:
                    self.bad(self.changed("zones", [self.far, near]), "zone", 1)
                else:
                    self.good(self.changed("zones", [self.far, near]))

    def test_upright_coordinates(self):
        for top in (100000, 100001):
            zone = ((900, top - 1), (901, top - 1), (900, top))
            low = ((900, -top), (901, -top), (900, 1 - top))
            for each in (zone, low):
                if top == 100000:
                    self.good(self.changed("zones", [each]))
                else:
                    self.bad(self.changed("zones", [each]), "zone", 0)


class ClosedTest(ChartCase):
    def test_through_and_beside(self):
        # The leg from B to C goes straight up at x = 30, from 40 to 140.
        self.bad(self.changed("zones", [((20, 50), (40, 50), (40, 60), (20, 60))]), "closed", 1)
        self.bad(self.changed("zones", [((30, 50), (40, 50), (40, 60), (30, 60))]), "closed", 1)
        self.good(self.changed("zones", [((31, 50), (40, 50), (40, 60), (31, 60))]))

    def test_corner_and_inside(self):
        self.bad(self.changed("zones", [((30, 141), (29, 140), (31, 139)), ((900, 900), (901, 900), (900, 901))]),
                 "closed", 1)
        wide = ((-99999, -99999), (99999, -99999), (99999, 99999), (-99999, 99999))
        self.bad(self.changed("zones", [wide]), "closed", 0)

    def test_index_of_the_leg(self):
        far = ((900, 900), (910, 900), (900, 910))
        self.bad(self.changed("zones", [far, ((-46, 70), (-44, 70), (-45, 80))]), "closed", 2)


class RunwayTest(ChartCase):
    def test_runways(self):
        self.good(self.changed("runways", []))
        self.bad(self.changed("runways", ["A", "X"]), "runway", 1)
        self.bad(self.changed("runways", ["A", "C", "A"]), "runway", 2)
        self.bad(self.changed("runways", ["", "X"]), "runway", 0)


class HoldTest(ChartCase):
    def test_both_directions(self):
        self.good(self.changed("holds", {"B": "D", "D": "B"}))
        self.bad(self.changed("holds", {"A": "B"}), "hold", 0)
        self.bad(self.changed("holds", {"B": "A"}), "hold", 0)
        self.bad(self.changed("holds", {"A": "D"}), "hold", 0)

    def test_names(self):
        self.bad(self.changed("holds", {"B": "D", "X": "D"}), "hold", 1)
        self.bad(self.changed("holds", {"B": "X"}), "hold", 0)
        self.bad(self.changed("holds", {"B": "B"}), "hold", 0)

    def test_ascending(self):
        self.bad(self.changed("holds", {"D": "C", "C": "D", "B": "D"}), "hold", 1)
        self.bad(self.changed("holds", {"X": "B", "B": "D", "D": "B"}), "hold", 2)


class HoursTest(ChartCase):
    def test_leg(self):
        self.good(self.changed("hours", [("C", "A", 5, 6)]))
        self.bad(self.changed("hours", [("C", "A", 5, 6), ("A", "C", 5, 6)]), "hours", 1)
        self.bad(self.changed("hours", [("X", "A", 5, 6)]), "hours", 0)

    def test_ticks(self):
        for first, last in ((0, 0), (0, 100000), (100000, 100000)):
            self.good(self.changed("hours", [("C", "A", first, last)]))
        for first, last in ((-1, 0), (0, 100001), (6, 5), (100001, 100001)):
            self.bad(self.changed("hours", [("C", "A", 1, 2), ("C", "A", first, last)]), "hours", 1)


class CapacityTest(ChartCase):
    def test_numbers(self):
        for number in (1, 20):
            self.good(self.changed("capacities", {"S1": number}))
        for number in (0, 21, -1):
            self.bad(self.changed("capacities", {"S1": number}), "capacity", 0)

    def test_sector(self):
        self.bad(self.changed("capacities", {"S9": 5}), "capacity", 0)
        self.bad(self.changed("capacities", {"": 5}), "capacity", 0)

    def test_ascending(self):
        self.bad(self.changed("capacities", {"S3": 0, "S2": 21, "S1": 1}), "capacity", 1)
        self.bad(self.changed("capacities", {"S4": 1, "S1": 1}), "capacity", 1)


class OrderTest(ChartCase):
    """Each code is raised before the codes behind it, even at a later index."""

    def test_order_of_codes(self):
        faults = [
            ("fix", 5, lambda chart: chart["fixes"].update({"z": (0, 0)})),
            ("leg", 5, lambda chart: chart["legs"].__setitem__(5, ("C", "C", "S", 0, 1))),
            ("zone", 1, lambda chart: chart["zones"].append(((0, 0), (1, 1)))),
            ("closed", 0, lambda chart: chart["zones"].insert(0, ((0, 0), (1, 0), (0, 1)))),
            ("runway", 2, lambda chart: chart["runways"].append("A")),
            ("hold", 1, lambda chart: chart["holds"].update({"C": "A"})),
            ("hours", 2, lambda chart: chart["hours"].append(("A", "B", 2, 1))),
            ("capacity", 2, lambda chart: chart["capacities"].update({"S3": 0})),
        ]
        for count in range(len(faults)):
            chart = small_chart()
            for _, _, spoil in faults[count:]:
                spoil(chart)
            code, index, _ = faults[count]
            if code == "zone":
                index += 1
            self.bad(chart, code, index)
        chart = small_chart()
        for _, _, spoil in faults:
            spoil(chart)
        chart["runways"].extend(["B", "D"])
        self.bad(chart, "size", 0)

    def test_sample_is_good(self):
        self.good(small_chart())


class LookUpTest(ChartCase):
    def test_leg_length(self):
        chart = small_chart()
        self.assertEqual(leg_length(chart, "A", "B"), 50)
        self.assertEqual(leg_length(chart, "B", "A"), 50)
        self.assertEqual(leg_length(chart, "B", "C"), 100)
        # 90 * 90 + 40 * 40 = 9700 lies between 98 * 98 and 99 * 99.
        self.assertEqual(leg_length(chart, "B", "D"), 99)
        self.assertEqual(leg_length(line_chart(0, 1), "A", "B"), 1)

    def test_leg_between(self):
        chart = small_chart()
        self.assertEqual(leg_between(chart, "B", "C"), ("B", "C", "S1", 100, 300))
        self.assertEqual(leg_between(chart, "C", "A"), ("C", "A", "S3", 0, 600))
        self.assertIsNone(leg_between(chart, "C", "B"))
        self.assertIsNone(leg_between(chart, "A", "E5"))
        self.assertIsNone(leg_between(chart, "A", "A"))
        self.assertIsNone(leg_between(chart, "X", "A"))


if __name__ == "__main__":
    unittest.main()
