import copy
import unittest

from skyapart.craft import check_rules, is_kind
from skyapart.errors import RuleError
from tests.samples import small_rules

RANGES = (
    ("lateral", 1, 100000), ("vertical", 1, 600), ("radius", 0, 10000), ("band", 0, 100), ("slip", 0, 1000),
    ("radar", 0, 10000), ("height", 0, 300), ("foreign", 0, 10000), ("climb", 0, 600), ("memory", 1, 60),
    ("ahead", 0, 60),
)


class KindTest(unittest.TestCase):
    def test_good(self):
        for kind in (
            (0, 1, 1, 1, 1), (3, 10000, 10000, 100, 100), (0, 1, 10000, 1, 100), (2, 200, 300, 5, 20),
            (1, 7, 7, 9, 9),
        ):
            self.assertIs(is_kind(kind), True, kind)

    def test_bad(self):
        for kind in (
            (-1, 1, 1, 1, 1), (4, 1, 1, 1, 1), (0, 0, 1, 1, 1), (0, -5, 1, 1, 1), (0, 2, 1, 1, 1),
            (0, 1, 10001, 1, 1), (0, 10001, 10001, 1, 1), (0, 1, 1, 0, 1), (0, 1, 1, 2, 1), (0, 1, 1, 1, 101),
            (0, 1, 1, 101, 101), (0, 1, 1, 0, 0),
        ):
            self.assertIs(is_kind(kind), False, kind)


class RulesTest(unittest.TestCase):
    # The other bounds stay apart from the two that compare: twice 3 is less than 601, and so on.
    wide = {"lateral": 100000, "vertical": 600, "radar": 1, "height": 1}

    def good(self, rules):
        before = copy.deepcopy(rules)
        self.assertIsNone(check_rules(rules))
        self.assertEqual(rules, before)

    def bad(self, rules, code):
        before = copy.deepcopy(rules)
        with self.assertRaises(RuleError) as caught:
            check_rules(rules)
        self.assertEqual(caught.exception.code, code)
        self.assertEqual(rules, before)

    def test_sample(self):
        self.good(small_rules())

    def test_ranges(self):
        for name, low, high in RANGES:
            base = dict(self.wide)
            if name in ("lateral", "vertical"):
                base.update({"radar": 0, "height": 0})
            for value in (low, high):
                if name == "height" and value == 300:
                    continue
                self.good(small_rules(**{**base, name: value}))
            for value in (low - 1, high + 1, -1):
                self.bad(small_rules(**{**base, name: value}), name)

    def test_the_greatest_height_is_too_great_for_any_vertical(self):
        self.bad(small_rules(vertical=600, height=300), "height")
        self.bad(small_rules(vertical=600, height=301), "height")
        self.good(small_rules(vertical=600, height=299))

    def test_order_of_codes(self):
        rules = {name: -1 for name, _, _ in RANGES}
        rules["gaps"] = ((0,) * 4,) * 4
        for name, low, _ in RANGES:
            self.bad(rules, name)
            rules[name] = low
        self.bad(rules, "gaps")
        rules["gaps"] = ((1,) * 4,) * 4
        self.good(rules)

    def test_gaps_come_ahead_of_the_comparisons(self):
        wrong = ((1, 1, 1, 1), (1, 1, 1, 1), (1, 1, 1, 1), (1, 1, 1, 201))
        rules = small_rules(gaps=wrong, lateral=20, radar=10, vertical=6, height=3)
        self.bad(rules, "gaps")
        rules["gaps"] = ((1,) * 4,) * 4
        self.bad(rules, "radar")
        rules["radar"] = 9
        self.bad(rules, "height")
        rules["height"] = 2
        self.good(rules)

    def test_gaps(self):
        for value in (1, 200, 0, 201, -1):
            for row in range(4):
                for column in range(4):
                    rows = [[5] * 4 for _ in range(4)]
                    rows[row][column] = value
                    rules = small_rules(gaps=tuple(tuple(each) for each in rows))
                    if value in (1, 200):
                        self.good(rules)
                    else:
                        self.bad(rules, "gaps")

    def test_radar(self):
        self.good(small_rules(lateral=21, radar=10))
        self.bad(small_rules(lateral=20, radar=10), "radar")
        self.bad(small_rules(lateral=19, radar=10), "radar")
        self.good(small_rules(lateral=1, radar=0))
        self.bad(small_rules(lateral=1, radar=1), "radar")

    def test_height(self):
        self.good(small_rules(vertical=7, height=3))
        self.bad(small_rules(vertical=6, height=3), "height")
        self.bad(small_rules(vertical=5, height=3), "height")
        self.good(small_rules(vertical=1, height=0))


if __name__ == "__main__":
    unittest.main()
