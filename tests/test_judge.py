import random
import unittest

from skyapart.joint import choose
from skyapart.judge import takes
from tests.offers import RULES, far_path, lane, offer, random_case
from tests.plain import plain_takes

SLOW = ("bad", "slow")


class Case(unittest.TestCase):
    def check(self, expected, held, menus, refutation, capacities=None):
        capacities = capacities or {}
        handed = ([(name, list(offers)) for name, offers in held], [list(menu) for menu in menus], list(refutation))
        self.assertIs(takes(RULES, capacities, held, menus, refutation), expected)
        self.assertEqual((held, menus, refutation), handed)
        self.assertIs(plain_takes(RULES, capacities, held, menus, refutation), expected)


class PrefixTest(Case):
    def setUp(self):
        self.menus = [["slow", lane(0)], ["slow", "slow", "slow"]]
        self.good = [((0,), SLOW), ((1, 0), SLOW), ((1, 1), SLOW), ((1, 2), SLOW)]

    def test_what_choosing_gives(self):
        self.assertEqual(choose(RULES, {}, [], self.menus), (None, self.good))
        self.check(True, [], self.menus, self.good)

    def test_longer_prefixes_than_needed(self):
        self.check(True, [], self.menus, [((0, index), SLOW) for index in range(3)] + self.good[1:])

    def test_left_out(self):
        for index in range(4):
            self.check(False, [], self.menus, self.good[:index] + self.good[index + 1:])
        self.check(False, [], self.menus, [])

    def test_doubled(self):
        for index in range(4):
            self.check(False, [], self.menus, self.good[:index + 1] + self.good[index:])

    def test_exchanged(self):
        for index in range(3):
            rows = list(self.good)
            rows[index], rows[index + 1] = rows[index + 1], rows[index]
            self.check(False, [], self.menus, rows)

    def test_index_that_its_menu_does_not_have(self):
        self.check(False, [], self.menus, [*self.good, ((1, 3), SLOW)])
        self.check(False, [], self.menus, [*self.good, ((2,), SLOW)])
        self.check(False, [], self.menus, [((-2,), SLOW), *self.good])
        self.check(False, [], self.menus, [((-2,), SLOW), *self.good[1:]])
        self.check(False, [], self.menus, [self.good[0], ((1, -1), SLOW), *self.good[1:]])
        self.check(False, [], self.menus, [self.good[0], ((1, -1), SLOW), *self.good[1:3]])
        self.check(False, [], [["slow"] * 3], [((-1,), SLOW), ((0,), SLOW), ((1,), SLOW)])

    def test_too_long(self):
        self.check(False, [], self.menus, [*self.good[:3], ((1, 2, 0), SLOW)])
        self.check(False, [], self.menus, [*self.good, ((1, 2, 0), SLOW)])
        self.check(False, [], [["slow"]], [((0, 0), SLOW)])

    def test_empty_prefix(self):
        self.check(False, [], self.menus, [((), SLOW)])
        self.check(False, [], self.menus, [((), SLOW), *self.good])
        self.check(False, [], [["slow"]], [((), SLOW)])

    def test_one_is_a_prefix_of_another_one(self):
        self.check(False, [], self.menus, [self.good[0], ((0, 1), SLOW), *self.good[1:]])
        self.check(False, [], self.menus, [self.good[0], ((0, 0), SLOW), ((0, 1), SLOW), ((0, 2), SLOW), *self.good[1:]])
        menus = [["slow"], [lane(0), "slow"], ["slow", "slow"]]
        rows = [((0,), SLOW), ((0, 0, 0), SLOW), ((0, 1), SLOW)]
        self.check(False, [], menus, rows)
        self.check(True, [], menus, rows[:1])
        # Neighbours in a list are not enough if those between them are wrong, too.
        self.check(False, [], menus, [((0, 0, 0), SLOW), ((0, 0, 1), SLOW), ((0, 1), SLOW), ((0, 1, 1), SLOW)])
        self.check(True, [], menus, [((0, 0, 0), SLOW), ((0, 0, 1), SLOW), ((0, 1), SLOW)])

    def test_choice_that_is_missed(self):
        menus = [["slow", "slow"], ["slow", "slow"], ["slow", "slow"]]
        rows = [((a, b, c), SLOW) for a in range(2) for b in range(2) for c in range(2)]
        self.check(True, [], menus, rows)
        for index in range(8):
            self.check(False, [], menus, rows[:index] + rows[index + 1:])

    def test_no_menus(self):
        self.check(False, [], [], [])
        self.check(False, [], [], [((), SLOW)])
        self.check(False, [], [], [((0,), SLOW)])

    def test_menu_without_entries(self):
        self.check(True, [], [[]], [])
        self.check(True, [], [["slow", lane(0)], []], [])
        self.check(True, [], [["slow", lane(0)], []], [((0,), SLOW)])
        self.check(False, [], [["slow", lane(0)], []], [((0, 0), SLOW)])
        self.check(False, [], [["slow", lane(0)], []], [((1,), SLOW)])
        self.check(True, [], [["slow", lane(0)], [], ["slow"]], [((0,), SLOW)])

    def test_words_in_a_prefix(self):
        self.check_words_only([(("0",), SLOW)])

    def check_words_only(self, rows):
        self.assertIs(takes(RULES, {}, [], [["slow"]], rows), False)


class ReasonTest(Case):
    def reason(self, expected, held, menus, reason, capacities=None):
        """Check a refutation with one row, whose prefix has the index 0 of each menu."""
        self.check(expected, held, menus, [((0,) * len(menus), reason)], capacities)

    def test_bad(self):
        self.reason(True, [], [["slow"]], SLOW)
        self.reason(False, [], [["slow"]], ("bad", "long"))
        self.reason(False, [], [["long"]], SLOW)
        self.reason(False, [], [[lane(0)]], SLOW)
        self.reason(False, [], [["slow"], [lane(0)]], SLOW)
        self.reason(True, [], [[lane(0)], ["slow"]], SLOW)
        self.reason(True, [], [["no code"]], ("bad", "no code"))
        self.reason(False, [], [["slow"]], ("bad", ""))

    def test_held(self):
        held = [("F1", [lane(5), lane(0)]), ("F2", [])]
        self.reason(True, held, [[lane(0)]], ("held", "F1", "near", 0))
        self.reason(False, held, [[lane(0)]], ("held", "F2", "near", 0))
        self.reason(False, held, [[lane(0)]], ("held", "X", "near", 0))
        self.reason(False, held, [[lane(0)]], ("held", "F1", "wake", 0))
        self.reason(False, held, [[lane(0)]], ("held", "F1", "", 0))
        self.reason(False, held, [[lane(0)]], ("held", "F1", "far", 0))
        self.reason(False, held, [[lane(1)]], ("held", "F1", "near", 0))
        self.reason(False, held, [["slow"]], ("held", "F1", "near", 0))

    def test_held_at_its_ticks(self):
        held = [("F1", [lane(0)])]
        for tick in range(-1, 12):
            self.reason(0 <= tick <= 9, held, [[lane(0)]], ("held", "F1", "near", tick))
        for tick in range(-1, 20):
            self.reason(tick in (4, 5), held, [[offer(far_path(0), 3, [(900, 900), (400, 400), (500, 500), (0, 0)])]],
                        ("held", "F1", "near", tick))

    def test_held_of_any_offer_and_any_flight(self):
        held = [("F0", [lane(0)]), ("F1", [lane(7), offer(far_path(0), 4, [(400, 400)])])]
        self.reason(True, held, [[lane(0)]], ("held", "F1", "near", 4))
        self.reason(False, held, [[lane(0)]], ("held", "F1", "near", 3))
        self.reason(True, held, [[lane(0)]], ("held", "F0", "near", 7))

    def test_wake(self):
        one, other = lane(0, 5, runway="B"), lane(1, 6, runway="B")
        self.reason(True, [("F", [one])], [[other]], ("held", "F", "wake", 16))
        self.reason(True, [], [[one], [other]], ("chosen", 0, "wake", 16))
        for tick in (14, 15, 17):
            self.reason(False, [("F", [one])], [[other]], ("held", "F", "wake", tick))
        self.reason(False, [("F", [lane(0, 5, runway="A")])], [[other]], ("held", "F", "wake", 16))
        self.reason(False, [("F", [lane(0, 5)])], [[lane(1, 6)]], ("held", "F", "wake", 16))
        self.reason(False, [("F", [lane(0, 2, runway="B")])], [[other]], ("held", "F", "wake", 16))

    def test_wake_though_they_are_near_before(self):
        one, other = lane(0, 5, runway="B"), lane(0, 5, runway="B")
        self.assertEqual(choose(RULES, {}, [("F", [one])], [[other]])[1], [((0,), ("held", "F", "near", 5))])
        self.reason(True, [("F", [one])], [[other]], ("held", "F", "wake", 15))

    def test_chosen(self):
        menus = [[lane(0)], [lane(1)], [lane(0)]]
        self.reason(True, [], menus, ("chosen", 0, "near", 0))
        self.reason(True, [], menus, ("chosen", 0, "near", 9))
        self.reason(False, [], menus, ("chosen", 0, "near", 10))
        self.reason(False, [], menus, ("chosen", 1, "near", 0))
        self.reason(False, [], menus, ("chosen", 2, "near", 0))
        self.reason(False, [], menus, ("chosen", 3, "near", 0))
        self.reason(False, [], menus, ("chosen", -1, "near", 0))
        self.reason(False, [], menus, ("chosen", -3, "near", 0))
        self.reason(False, [], [["slow"], [lane(0)]], ("chosen", 0, "near", 0))
        self.reason(False, [], [[lane(0)], ["slow"]], ("chosen", 0, "near", 0))
        self.reason(False, [], [[lane(0)]], ("chosen", 0, "near", 0))

    def test_full(self):
        held = [("F1", [lane(0), lane(1)]), ("F2", [lane(2)])]
        self.reason(True, held, [[lane(3)]], ("full", "S", 0), {"S": 2})
        self.reason(True, held, [[lane(3)]], ("full", "S", 9), {"S": 2})
        self.reason(False, held, [[lane(3)]], ("full", "S", 10), {"S": 2})
        self.reason(False, held, [[lane(3)]], ("full", "S", -1), {"S": 2})
        self.reason(False, held, [[lane(3)]], ("full", "S", 0), {"S": 3})
        self.reason(False, held, [[lane(3)]], ("full", "S", 0), {"T": 2})
        self.reason(False, held, [[lane(3)]], ("full", "T", 0), {"S": 2})
        self.reason(False, held, [[lane(3)]], ("full", "", 0), {"S": 2})
        self.reason(False, held, [["slow"]], ("full", "S", 0), {"S": 1})

    def test_full_of_others(self):
        # The last entry need not be in the sector, and all entries of the prefix count.
        held = [("F1", [lane(0)])]
        self.reason(True, held, [[lane(1)], [lane(2, sector="T")]], ("full", "S", 0), {"S": 1})
        self.reason(False, held, [[lane(1)], [lane(2, sector="T")]], ("full", "S", 0), {"S": 2})
        self.reason(True, held, [[lane(1)], [lane(2)]], ("full", "S", 0), {"S": 2})
        self.reason(True, [], [[lane(1)], [lane(2)]], ("full", "S", 0), {"S": 1})
        self.reason(False, held, [["slow"], [lane(2)]], ("full", "S", 0), {"S": 1})

    def test_reasons_that_are_not_the_first_ones(self):
        held = [("F1", [lane(0)]), ("F2", [lane(0, 2)])]
        menus = [[lane(4)], [lane(0)]]
        for reason in (("held", "F1", "near", 0), ("held", "F1", "near", 7), ("held", "F2", "near", 5),
                       ("full", "S", 3)):
            self.reason(reason != ("held", "F2", "near", 5), held, menus, reason, {"S": 1})
        held.append(("F3", [lane(4)]))
        self.check(True, held, [[lane(4)], [lane(0)]], [((0,), ("held", "F3", "near", 8))])
        self.check(True, held, [[lane(4)], [lane(0)]], [((0, 0), ("held", "F1", "near", 8))])

    def test_no_such_reason(self):
        for reason in (("odd", "slow"), ("", "slow"), ("held", "slow"), ("full", "S"), ("near", 0, "near", 0),
                       ("chosen", "F1", "near", 0), ("held", 0, "near", 0), ("full", 0, 0), ("held", "F1", "near", "x"),
                       ("full", "S", "x"), ("bad", 0), ("held", "F1", 0, 0)):
            self.assertIs(takes(RULES, {"S": 1}, [("F1", [lane(0)])], [[lane(0)]], [((0,), reason)]), False)
            self.assertIs(takes(RULES, {"S": 1}, [("F1", [lane(0)])], [["slow"]], [((0,), reason)]), False)


class RandomTest(unittest.TestCase):
    def changed(self, chance, rows):
        """Return a refutation with one thing changed."""
        rows = list(rows)
        at = chance.randrange(len(rows))
        prefix, reason = rows[at]
        what = chance.choice(("leave", "double", "exchange", "prefix", "longer", "shorter", "part", "reason"))
        if what == "leave":
            del rows[at]
        elif what == "double":
            rows.insert(at, rows[at])
        elif what == "exchange":
            other = chance.randrange(len(rows))
            rows[at], rows[other] = rows[other], rows[at]
        elif what == "prefix":
            place = chance.randrange(len(prefix) or 1)
            moved = sum(prefix[place:place + 1]) + chance.choice((-1, 1, 2))
            rows[at] = (prefix[:place] + (moved,) + prefix[place + 1:], reason)
        elif what == "longer":
            rows[at] = (prefix + (chance.randint(0, 2),), reason)
        elif what == "shorter":
            rows[at] = (prefix[:-1], reason)
        elif what == "part":
            place = chance.randrange(1, len(reason))
            new = reason[place] + chance.choice((-1, 1)) if isinstance(reason[place], int) else chance.choice("STX")
            rows[at] = (prefix, reason[:place] + (new,) + reason[place + 1:])
        else:
            rows[at] = (prefix, chance.choice(rows)[1])
        return rows

    def test_random(self):
        chance = random.Random(8)
        seen = {True: 0, False: 0}
        for _ in range(400):
            rules, capacities, held, menus = random_case(chance)
            choice, rows = choose(rules, capacities, held, menus)
            if choice is not None:
                self.assertIs(takes(rules, capacities, held, menus, rows), False)
                continue
            self.assertIs(takes(rules, capacities, held, menus, rows), True)
            for _ in range(10 if rows else 0):
                new = self.changed(chance, rows)
                expected = plain_takes(rules, capacities, held, menus, new)
                seen[expected] += 1
                self.assertIs(takes(rules, capacities, held, menus, new), expected)
        self.assertGreater(min(seen.values()), 100, seen)

    def test_nothing_is_taken_where_there_is_a_free_choice(self):
        chance = random.Random(9)
        tried = 0
        for _ in range(300):
            rules, capacities, held, menus = random_case(chance)
            if choose(rules, capacities, held, menus)[0] is None or not menus:
                continue
            rows = [((index,), ("bad", "slow")) for index in range(len(menus[0]))]
            for _ in range(5):
                tried += 1
                self.assertIs(takes(rules, capacities, held, menus, rows), False)
                rows = self.changed(chance, rows) or rows
        self.assertGreater(tried, 300)


if __name__ == "__main__":
    unittest.main()
