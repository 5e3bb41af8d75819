import copy
import itertools
import random
import unittest

from skyapart.errors import SequenceError, SkyError
from skyapart.landing import apart, best_order, landing_ticks

GAPS = ((3, 3, 3, 3), (9, 3, 3, 3), (9, 9, 3, 3), (9, 9, 9, 3))
# Behind a 3 a 0 must wait for 200, a 1 for 1 only; a 0 behind a 1 must wait for 1.
BROKEN_GAPS = ((1, 1, 1, 1), (1, 1, 1, 1), (50, 2, 1, 1), (200, 1, 1, 1))


def plain_ticks(gaps, arrivals, order):
    """Return the landing ticks by a look at each tick."""
    ticks = {}
    for place, index in enumerate(order):
        wake, tick, _ = arrivals[index]
        while any(tick - ticks[other] < gaps[arrivals[other][0]][wake] for other in order[:place]):
            tick += 1
        ticks[index] = tick
    return tuple(ticks[index] for index in order)


def plain_best(gaps, arrivals, shift):
    """Return the best order by a look at all orders, or None."""
    queue = sorted(range(len(arrivals)), key=lambda index: (arrivals[index][1], index))
    good = []
    for order in itertools.permutations(range(len(arrivals))):
        ticks = plain_ticks(gaps, arrivals, order)
        if any(tick > arrivals[index][2] for index, tick in zip(order, ticks)):
            continue
        if any(abs(order.index(index) - queue.index(index)) > shift for index in order):
            continue
        good.append((ticks[-1] if ticks else 0, sum(ticks), order, ticks))
    return min(good)[2:] if good else None


class ApartTest(unittest.TestCase):
    def check(self, expected, first, second, gaps=GAPS):
        self.assertIs(apart(gaps, first, second), expected)
        self.assertIs(apart(gaps, second, first), expected)

    def test_gap_and_one_less(self):
        self.check(True, (0, 10, 20), (0, 23, 30))
        self.check(False, (0, 10, 20), (0, 22, 30))

    def test_gap_of_the_classes(self):
        self.check(True, (2, 10, 20), (1, 29, 30))
        self.check(False, (2, 10, 20), (1, 28, 30))
        self.check(True, (1, 10, 20), (2, 23, 30))
        self.check(False, (1, 10, 20), (2, 22, 30))

    def test_earliest_and_latest_count(self):
        self.check(False, (0, 10, 27), (0, 29, 90))
        self.check(True, (0, 10, 26), (0, 29, 90))
        self.check(False, (0, 10, 100), (0, 50, 60))
        self.check(False, (0, 10, 10), (0, 10, 10))

    def test_each_pair_of_classes(self):
        gaps = tuple(tuple(1 + 10 * one + other for other in range(4)) for one in range(4))
        for one in range(4):
            for other in range(4):
                gap = gaps[one][other]
                self.check(True, (one, 0, 100), (other, 100 + gap, 300), gaps)
                self.check(False, (one, 0, 100), (other, 99 + gap, 300), gaps)

    def test_random(self):
        chance = random.Random(1)
        for _ in range(500):
            gaps = tuple(tuple(chance.randint(1, 9) for _ in range(4)) for _ in range(4))
            one, other = (
                (chance.randint(0, 3), tick, tick + chance.randint(0, 4)) for tick in (10, 10 + chance.randint(-12, 12))
            )
            expected = all(
                b - a >= gaps[one[0]][other[0]] for a in range(one[1], one[2] + 1) for b in range(other[1], other[2] + 1)
            ) or all(
                a - b >= gaps[other[0]][one[0]] for a in range(one[1], one[2] + 1) for b in range(other[1], other[2] + 1)
            )
            self.check(expected, one, other, gaps)


class LandingTicksTest(unittest.TestCase):
    def test_in_the_sequence_of_the_order(self):
        arrivals = [(2, 10, 60), (0, 11, 60), (1, 12, 60)]
        self.assertEqual(landing_ticks(GAPS, arrivals, (1, 2, 0)), (11, 14, 17))
        self.assertEqual(landing_ticks(GAPS, arrivals, (0, 1, 2)), (10, 19, 22))
        self.assertEqual(landing_ticks(GAPS, arrivals, (2, 1, 0)), (12, 21, 24))

    def test_ready_counts(self):
        self.assertEqual(landing_ticks(GAPS, [(0, 5, 5), (0, 50, 60), (0, 7, 9)], (0, 1, 2)), (5, 50, 53))
        self.assertEqual(landing_ticks(GAPS, [(0, 5, 5), (0, 8, 60)], (0, 1)), (5, 8))
        self.assertEqual(landing_ticks(GAPS, [(0, 5, 5), (0, 7, 60)], (0, 1)), (5, 8))

    def test_last_does_not_matter(self):
        self.assertEqual(landing_ticks(GAPS, [(0, 5, 5), (0, 5, 5)], (1, 0)), (5, 8))

    def test_none_and_one(self):
        self.assertEqual(landing_ticks(GAPS, [], ()), ())
        self.assertEqual(landing_ticks(GAPS, [(3, 7, 9)], (0,)), (7,))

    def test_all_before_count(self):
        arrivals = [(3, 0, 900), (1, 0, 900), (0, 0, 900)]
        self.assertEqual(landing_ticks(BROKEN_GAPS, arrivals, (0, 1, 2)), (0, 1, 200))
        arrivals = [(3, 0, 900), (1, 0, 900), (1, 0, 900), (0, 0, 900)]
        self.assertEqual(landing_ticks(BROKEN_GAPS, arrivals, (0, 1, 2, 3)), (0, 1, 2, 200))


class BestOrderTest(unittest.TestCase):
    def none(self, gaps, arrivals, shift):
        with self.assertRaises(SequenceError) as caught:
            best_order(gaps, arrivals, shift)
        self.assertEqual(caught.exception.code, "none")
        self.assertIsInstance(caught.exception, SkyError)

    def test_example(self):
        self.assertEqual(best_order(GAPS, [(2, 10, 60), (0, 11, 60), (1, 12, 60)], 2), ((1, 2, 0), (11, 14, 17)))

    def test_no_arrivals(self):
        for shift in (0, 3, 7):
            self.assertEqual(best_order(GAPS, [], shift), ((), ()))

    def test_one(self):
        self.assertEqual(best_order(GAPS, [(3, 5, 9)], 0), ((0,), (5,)))
        self.assertEqual(best_order(GAPS, [(3, 5, 5)], 7), ((0,), (5,)))

    def test_last_tick(self):
        # The second one lands at 3, behind the first one.
        self.assertEqual(best_order(GAPS, [(0, 0, 0), (0, 0, 3)], 7), ((0, 1), (0, 3)))
        self.none(GAPS, [(0, 0, 0), (0, 0, 2)], 7)
        self.assertEqual(best_order(GAPS, [(0, 0, 3), (0, 0, 0)], 7), ((1, 0), (0, 3)))
        self.none(GAPS, [(0, 0, 3), (0, 0, 0)], 0)

    def test_shift(self):
        # A light one is best ahead of the heavy ones.
        arrivals = [(3, 0, 900), (3, 1, 900), (3, 2, 900), (0, 3, 900)]
        self.assertEqual(best_order(GAPS, arrivals, 0), ((0, 1, 2, 3), (0, 3, 6, 15)))
        self.assertEqual(best_order(GAPS, arrivals, 1), ((0, 1, 2, 3), (0, 3, 6, 15)))
        self.assertEqual(best_order(GAPS, arrivals, 2), ((0, 1, 2, 3), (0, 3, 6, 15)))
        self.assertEqual(best_order(GAPS, arrivals, 3), ((3, 0, 1, 2), (3, 6, 9, 12)))
        self.assertEqual(best_order(GAPS, arrivals, 7), ((3, 0, 1, 2), (3, 6, 9, 12)))

    def test_shift_of_those_that_are_passed(self):
        arrivals = [(3, 0, 900), (0, 1, 900), (0, 2, 900)]
        # Both light ones go ahead by one place only, but the heavy one is put back by two.
        self.assertEqual(best_order(GAPS, arrivals, 1), ((0, 1, 2), (0, 9, 12)))
        self.assertEqual(best_order(GAPS, arrivals, 2), ((1, 2, 0), (1, 4, 7)))

    def test_shift_is_measured_from_ready_and_index(self):
        arrivals = [(0, 20, 900), (0, 0, 900), (0, 10, 900)]
        self.assertEqual(best_order(GAPS, arrivals, 0), ((1, 2, 0), (0, 10, 20)))
        arrivals = [(0, 5, 900), (0, 5, 900), (0, 4, 900)]
        self.assertEqual(best_order(GAPS, arrivals, 0), ((2, 0, 1), (4, 7, 10)))
        self.none(GAPS, [(0, 20, 20), (0, 0, 23), (0, 22, 900)][:2] + [(0, 0, 0)], 0)

    def test_least_last_landing(self):
        arrivals = [(2, 0, 900), (0, 4, 900)]
        # In order 0 and 9, the other way 4 and 7.
        self.assertEqual(best_order(GAPS, arrivals, 7), ((1, 0), (4, 7)))

    def test_least_sum(self):
        # The last one lands at 50 in any case.
        arrivals = [(2, 0, 900), (0, 4, 900), (0, 50, 900)]
        self.assertEqual(best_order(GAPS, arrivals, 7), ((0, 1, 2), (0, 9, 50)))
        arrivals = [(2, 0, 900), (0, 2, 900), (0, 50, 900)]
        self.assertEqual(best_order(GAPS, arrivals, 7), ((1, 0, 2), (2, 5, 50)))

    def test_least_tuple(self):
        arrivals = [(0, 5, 900), (0, 5, 900), (0, 5, 900)]
        self.assertEqual(best_order(GAPS, arrivals, 7), ((0, 1, 2), (5, 8, 11)))
        # Both ways the ticks are 2 and 5, or 5 and 2 at most: the sums are equal.
        arrivals = [(1, 5, 900), (0, 2, 900), (1, 5, 900)]
        self.assertEqual(best_order(GAPS, arrivals, 7), ((1, 0, 2), (2, 5, 8)))

    def test_each_before_counts(self):
        arrivals = [(3, 0, 900), (1, 1, 900), (0, 2, 199)]
        self.assertEqual(best_order(BROKEN_GAPS, arrivals, 7), ((1, 2, 0), (1, 2, 3)))
        self.none(BROKEN_GAPS, arrivals, 0)
        self.assertEqual(best_order(BROKEN_GAPS, [*arrivals[:2], (0, 2, 200)], 0), ((0, 1, 2), (0, 1, 200)))

    def test_arguments_stay(self):
        arrivals = [(2, 10, 60), (0, 11, 60), (1, 12, 60)]
        before = copy.deepcopy(arrivals)
        best_order(GAPS, arrivals, 2)
        self.assertEqual(arrivals, before)

    def test_random(self):
        chance = random.Random(2)
        none = 0
        for _ in range(250):
            gaps = tuple(tuple(chance.choice((1, 2, 3, 9, 30)) for _ in range(4)) for _ in range(4))
            arrivals = []
            for _ in range(chance.randint(0, 5)):
                ready = chance.randint(0, 15)
                arrivals.append((chance.randint(0, 3), ready, ready + chance.choice((0, 5, 20, 60))))
            shift = chance.randint(0, 7)
            expected = plain_best(gaps, arrivals, shift)
            if expected is None:
                none += 1
                self.none(gaps, arrivals, shift)
            else:
                self.assertEqual(best_order(gaps, arrivals, shift), expected)
        self.assertTrue(30 < none < 220, none)

    def test_seven(self):
        chance = random.Random(3)
        for shift in (2, 7):
            arrivals = [(chance.randint(0, 3), tick, tick + 60) for tick in (9, 3, 12, 0, 5, 5, 20)]
            self.assertEqual(best_order(GAPS, arrivals, shift), plain_best(GAPS, arrivals, shift))


if __name__ == "__main__":
    unittest.main()
