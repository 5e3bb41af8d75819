import copy
import itertools
import random
import time
import unittest

from skyapart.joint import choose, clash
from skyapart.judge import takes
from skyapart.occupancy import occupies
from skyapart.path import Path
from tests.offers import RULES, far_path, lane, offer, random_case, sector_path, steady
from tests.plain import plain_choose, plain_clash, plain_occupies
from tests.samples import line_chart, random_chart, random_track, small_rules

class OccupiesTest(unittest.TestCase):
    def check(self, one, expected, ticks=range(-3, 12), sectors=("S", "T", "U", "X")):
        for tick in ticks:
            for sector in sectors:
                found = occupies(one, sector, tick)
                self.assertIs(found, plain_occupies(one, sector, tick))
                self.assertIs(found, sector in expected.get(tick, ""), (sector, tick))

    def test_ends_of_a_leg(self):
        path = sector_path("S", "T")
        self.check(offer(path, 2, [(0, 0), (99, 99), (100, 100), (199, 199)]), {2: "S", 3: "S", 4: "T", 5: "T"})
        self.check(offer(path, 2, [(0, 99), (0, 100), (99, 100), (100, 199)]), {2: "S", 3: "ST", 4: "ST", 5: "T"})

    def test_low_below_0(self):
        path = sector_path("S", "T")
        self.check(offer(path, 2, [(-50, 0), (-9, 99), (-9, 100)]), {2: "S", 3: "S", 4: "ST"})

    def test_high_beyond_the_total(self):
        path = sector_path("S", "T")
        self.check(offer(path, 2, [(50, 500), (100, 200), (199, 900)]), {2: "ST", 3: "T", 4: "T"})

    def test_empty_pieces(self):
        path = sector_path("S", "T")
        self.check(offer(path, 2, [(-50, -1), (200, 210), (500, 900)]), {})
        self.check(offer(path, 2, [(-50, -1), (-1, 0), (199, 200), (200, 200)]), {3: "S", 4: "T"})

    def test_ticks_without_boxes(self):
        path = sector_path("S")
        self.check(offer(path, 5, [(3, 3)]), {5: "S"})
        self.check(offer(path, 5, []), {})

    def test_sectors_come_again(self):
        path = sector_path("S", "T", "S", "U")
        self.check(offer(path, 0, [(0, 399), (100, 250), (120, 199), (200, 300)]),
                   {0: "STU", 1: "ST", 2: "T", 3: "SU"})

    def test_random(self):
        chance = random.Random(1)
        for seed in range(60):
            chart = random_chart(seed, spread=20)
            chart["legs"] = [(*leg[:2], chance.choice("STU"), *leg[3:]) for leg in chart["legs"]]
            track = random_track(chance, chart, RULES, 15)
            if track is not None:
                for tick in range(track[1] - 1, track[1] + len(track[2]) + 1):
                    for sector in "STUX":
                        one = (0, "", track)
                        self.assertIs(occupies(one, sector, tick), plain_occupies(one, sector, tick))


class ClashTest(unittest.TestCase):
    def check(self, expected, one, other, rules=RULES):
        self.assertEqual(clash(rules, one, other), expected)
        self.assertEqual(clash(rules, other, one), expected)
        self.assertEqual(plain_clash(rules, one, other), expected)

    def test_near(self):
        there, back = far_path(0), Path(line_chart(1000, 0), ("A", "B"))
        self.check(("near", 48), steady(there, 0, 10), steady(back, 0, 10))
        self.check(None, steady(there, 0, 10), steady(back, 0, 10, level=44))

    def test_near_before_wake(self):
        there, back = far_path(0), Path(line_chart(1000, 0), ("A", "B"))
        self.check(("near", 48), steady(there, 0, 10, runway="B"), steady(back, 0, 10, runway="B"))
        # At other levels they are not near, but they land at one tick.
        self.check(("wake", 100), steady(there, 0, 10, runway="B"), steady(back, 0, 10, runway="B", level=44))

    def wakes(self, first, second, runway="R", other_runway="R"):
        """Return offers far from each other with these (wake, earliest, latest)."""
        made = []
        for (wake, earliest, latest), y, where in ((first, 0, runway), (second, 5000, other_runway)):
            path = far_path(y, 1000)
            # The high reaches the total at the earliest tick, the low behind the last box.
            bounds = [(0, 1000 if tick >= earliest else 999) for tick in range(10, latest)]
            made.append(offer(path, 10, bounds, wake=wake, runway=where))
        return made

    def test_windows(self):
        self.check(None, *self.wakes((0, 20, 30), (0, 33, 40)))
        self.check(("wake", 32), *self.wakes((0, 20, 30), (0, 32, 40)))
        self.check(None, *self.wakes((0, 30, 30), (0, 33, 33)))
        self.check(("wake", 32), *self.wakes((0, 30, 30), (0, 32, 32)))
        self.check(("wake", 25), *self.wakes((0, 20, 30), (0, 25, 26)))

    def test_gaps_of_the_wakes(self):
        self.check(None, *self.wakes((2, 20, 30), (0, 39, 40)))
        self.check(("wake", 38), *self.wakes((2, 20, 30), (0, 38, 40)))
        self.check(None, *self.wakes((0, 20, 30), (2, 33, 40)))
        self.check(("wake", 32), *self.wakes((0, 20, 30), (2, 32, 40)))

    def test_runways(self):
        landings = (0, 20, 30), (0, 25, 30)
        self.check(("wake", 25), *self.wakes(*landings))
        self.check(None, *self.wakes(*landings, "R", "Q"))
        self.check(None, *self.wakes(*landings, "", "R"))
        self.check(None, *self.wakes(*landings, "", ""))

    def test_empty_tubes(self):
        gone = offer(far_path(0), 50, [], wake=2, runway="R")
        self.check(("wake", 58), gone, self.wakes((0, 58, 60), (0, 9, 9))[0])
        self.check(None, gone, self.wakes((0, 59, 60), (0, 9, 9))[0])
        self.check(None, gone, self.wakes((0, 40, 47), (0, 9, 9))[0])
        self.check(("wake", 50), gone, self.wakes((0, 40, 48), (0, 9, 9))[0])
        self.check(("wake", 50), gone, offer(far_path(0), 50, [], runway="R"))
        self.check(("wake", 58), gone, offer(far_path(0), 58, [], runway="R"))
        self.check(None, gone, offer(far_path(0), 59, [], runway="R"))

    def test_arguments_stay(self):
        one, other = self.wakes((0, 20, 30), (0, 25, 30))
        before = copy.deepcopy((one[2][2], other[2][2]))
        clash(RULES, one, other)
        self.assertEqual((one[2][2], other[2][2]), before)


class ChooseTest(unittest.TestCase):
    def check(self, expected, held, menus, capacities=None, rules=RULES):
        capacities = capacities or {}
        handed = ([(name, list(offers)) for name, offers in held], [list(menu) for menu in menus], dict(capacities))
        found = choose(rules, capacities, held, menus)
        self.assertEqual((held, menus, capacities), handed)
        self.assertEqual(found, plain_choose(rules, capacities, held, menus))
        self.assertEqual(found, expected)
        found[1].append("more")
        self.assertEqual(choose(rules, capacities, held, menus), expected)

    def test_no_menus(self):
        self.check(((), []), [], [])
        self.check(((), []), [("F", [lane(0)])], [], {"S": 1})

    def test_one_menu(self):
        self.check(((0,), []), [], [[lane(0)]])
        self.check(((2,), []), [], [["slow", "long", lane(0), lane(1)]])
        self.check((None, [((0,), ("bad", "slow")), ((1,), ("bad", "long"))]), [], [["slow", "long"]])

    def test_held(self):
        held = [("F1", [lane(0)])]
        self.check(((1,), []), held, [[lane(0), lane(1)]])
        self.check((None, [((0,), ("held", "F1", "near", 0))]), held, [[lane(0)]])
        self.check(((0,), []), held, [[lane(0, level=44)]])

    def test_first_flight_and_its_first_offer(self):
        early, late = lane(0, 0), offer(far_path(0), 3, [(300, 300), (310, 310)])
        entry = lane(0)
        self.check((None, [((0,), ("held", "B", "near", 3))]), [("B", [late]), ("A", [early])], [[entry]])
        self.check((None, [((0,), ("held", "A", "near", 0))]), [("A", [early]), ("B", [late])], [[entry]])
        self.check((None, [((0,), ("held", "A", "near", 3))]), [("A", [lane(5), late, early])], [[entry]])
        self.check((None, [((0,), ("held", "A", "near", 0))]), [("Z", [lane(4)]), ("A", [early, late])], [[entry]])

    def test_flight_without_offers(self):
        self.check(((0,), []), [("F1", [])], [[lane(0)]])

    def test_chosen(self):
        self.check(((0, 1), []), [], [[lane(0)], [lane(0), lane(1)]])
        self.check((None, [((0, 0), ("chosen", 0, "near", 0))]), [], [[lane(0)], [lane(0)]])
        self.check(((1, 0), []), [], [[lane(0), lane(1)], [lane(0)]])

    def test_least_menu_before(self):
        # The third one would be near both others; at another level they are apart from each other.
        both = offer(far_path(0), 0, [(at, at) for at in range(0, 1000, 100)])
        low, high = lane(0, level=20), lane(0, level=40)
        self.check((None, [((0, 0, 0), ("chosen", 0, "near", 0))]), [], [[low], [high], [both]])
        self.check((None, [((0, 0, 0), ("chosen", 1, "near", 0))]), [], [[lane(1)], [high], [both]])

    def test_wake_reasons(self):
        one, other = lane(0, 5, runway="B"), lane(1, 6, runway="B")
        self.check((None, [((0,), ("held", "F", "wake", 16))]), [("F", [one])], [[other]])
        self.check((None, [((0, 0), ("chosen", 0, "wake", 16))]), [], [[one], [other]])

    def test_full(self):
        held = [("F1", [lane(0)]), ("F2", [lane(1)])]
        self.check(((0,), []), held, [[lane(2)]], {"S": 3})
        self.check((None, [((0,), ("full", "S", 0))]), held, [[lane(2)]], {"S": 2})
        self.check((None, [((0, 0), ("full", "S", 0))]), held, [[lane(2)], [lane(3)]], {"S": 3})
        self.check(((0, 0), []), held, [[lane(2)], [lane(3, sector="T")]], {"S": 3})

    def test_full_least_tick(self):
        held = [("F1", [lane(0, 7)]), ("F2", [lane(1, 5)])]
        self.check((None, [((0,), ("full", "S", 7))]), held, [[lane(2, 3)]], {"S": 2})
        self.check((None, [((0,), ("full", "S", 5))]), held, [[lane(2, 3)]], {"S": 1})
        # F1 is there up to the tick 16, F2 up to 14.
        self.check(((0,), []), held, [[lane(2, 15)]], {"S": 2})
        self.check((None, [((0,), ("full", "S", 14))]), held, [[lane(2, 14)]], {"S": 2})
        self.check((None, [((0,), ("full", "S", 15))]), held, [[lane(2, 15)]], {"S": 1, "T": 1})
        self.check(((0,), []), held, [[lane(2, 17)]], {"S": 1, "T": 1})

    def test_full_first_sector(self):
        path = sector_path("T", "S")
        held = [("F1", [offer(far_path(900, sector="T"), 0, [(5, 5)] * 9)]),
                ("F2", [offer(far_path(990, sector="S"), 0, [(5, 5)] * 9, level=99)])]
        entry = offer(path, 0, [(0, 0), (50, 50), (100, 100), (150, 150)])
        self.check((None, [((0,), ("full", "S", 2))]), held, [[entry]], {"T": 1, "S": 1})
        self.check((None, [((0,), ("full", "T", 0))]), held, [[entry]], {"T": 1, "S": 2})
        self.check((None, [((0,), ("full", "T", 0))]), held, [[entry]], {"T": 1})
        self.check(((0,), []), held, [[entry]], {"T": 2, "S": 2, "X": 1})

    def test_flight_counts_once(self):
        held = [("F1", [lane(0), lane(1), lane(2)]), ("F2", [lane(3)])]
        self.check(((0,), []), held, [[lane(4)]], {"S": 3})
        self.check((None, [((0,), ("full", "S", 0))]), held, [[lane(4)]], {"S": 2})
        # At one tick one offer occupies it, at another tick another one.
        held = [("F1", [offer(far_path(0), 0, [(5, 5)]), offer(far_path(0), 1, [(5, 5)])])]
        self.check((None, [((0,), ("full", "S", 1))]), held, [[offer(far_path(900), 1, [(5, 5)])]], {"S": 1})

    def test_last_entry_must_be_there(self):
        # The sector is over its capacity without the entry; that is no reason against it.
        held = [("F1", [lane(0)]), ("F2", [lane(1)])]
        self.check(((0,), []), held, [[lane(2, sector="T")]], {"S": 1})
        self.check(((0,), []), held, [[lane(2, 10)]], {"S": 1})
        self.check((None, [((0,), ("full", "S", 9))]), held, [[lane(2, 9)]], {"S": 1})

    def test_order_of_the_reasons(self):
        held = [("F1", [lane(0)])]
        first = lane(1)
        self.check((None, [((0,), ("held", "F1", "near", 0))]), held, [[lane(0)]], {"S": 1})
        self.check((None, [((0, 0), ("held", "F1", "near", 0))]), held, [[first], [lane(0)]], {"S": 2})
        self.check((None, [((0, 0), ("chosen", 0, "near", 0))]), held, [[first], [lane(1)]], {"S": 2})
        self.check((None, [((0, 0), ("full", "S", 0))]), held, [[first], [lane(2)]], {"S": 2})

    def test_held_before_chosen(self):
        middle = offer(far_path(500), 0, [(0, 0)])
        rules = small_rules(lateral=600, radius=3)
        self.check((None, [((0, 0), ("held", "F1", "near", 0))]), [("F1", [lane(0)])], [[lane(1)], [middle]], None, rules)
        self.check((None, [((0, 0), ("chosen", 0, "near", 0))]), [("F1", [lane(3)])], [[lane(1)], [middle]], None, rules)

    def test_menu_without_entries(self):
        self.check((None, []), [], [[]])
        self.check((None, []), [], [[], [lane(0)]])
        self.check((None, []), [], [[lane(0)], []])
        self.check((None, [((0,), ("bad", "slow"))]), [], [["slow", lane(0)], []])
        self.check((None, [((0,), ("bad", "slow")), ((1, 0), ("bad", "long"))]), [],
                   [["slow", lane(0)], ["long", lane(1)], [], ["level"]])

    def test_ascending_and_no_shorter_prefix(self):
        menus = [["slow", lane(0), lane(1)], [lane(0), "long"], [lane(1), lane(0)]]
        self.check((None, [
            ((0,), ("bad", "slow")), ((1, 0), ("chosen", 0, "near", 0)), ((1, 1), ("bad", "long")),
            ((2, 0, 0), ("chosen", 0, "near", 0)), ((2, 0, 1), ("chosen", 1, "near", 0)), ((2, 1), ("bad", "long")),
        ]), [], menus)

    def test_more_than_ten_entries(self):
        menus = [["slow"] * 11, [lane(0)]]
        self.check((None, [((index,), ("bad", "slow")) for index in range(11)]), [], menus)

    def test_least_choice(self):
        menus = [[lane(0), lane(1)], [lane(0), lane(1)], [lane(1), lane(2)]]
        self.check(((0, 1, 1), []), [], menus)
        self.check(((1, 0, 0), []), [], [[lane(0), lane(1)], [lane(0)], [lane(2)]])

    def test_random(self):
        chance = random.Random(7)
        kinds = {}
        for _ in range(900):
            rules, capacities, held, menus = random_case(chance)
            found = choose(rules, capacities, held, menus)
            self.assertEqual(found, plain_choose(rules, capacities, held, menus))
            for _, reason in found[1]:
                kinds[reason[0]] = kinds.get(reason[0], 0) + 1
            kinds["free"] = kinds.get("free", 0) + (found[0] is not None)
        self.assertEqual(sorted(kinds), ["bad", "chosen", "free", "full", "held"])
        self.assertGreater(min(kinds.values()), 40, kinds)

    def test_sixteen_entries_for_three(self):
        def wide(number):
            boxes = [(at, at + 30, 30, 30) for at in range(-30, 40000, 170)]
            return 1, "", (far_path(57 * number, 40000), number % 7, boxes)

        menus = [[wide(16 * menu + index) for index in range(16)] for menu in range(3)]
        held = [(f"F{number}", [wide(100 + number)]) for number in range(3)]
        started = time.process_time()
        choice, refutation = choose(RULES, {"S": 5}, held, menus)
        self.assertIsNone(choice)
        self.assertEqual([prefix for prefix, _ in refutation], list(itertools.product(range(16), repeat=3)))
        self.assertEqual({reason[:2] for _, reason in refutation}, {("full", "S")})
        self.assertTrue(takes(RULES, {"S": 5}, held, menus, refutation))
        self.assertLess(time.process_time() - started, 10)
        self.assertEqual(choose(RULES, {"S": 6}, held, menus), ((0, 0, 0), []))


if __name__ == "__main__":
    unittest.main()
