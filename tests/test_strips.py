import random
import unittest

from skyapart.path import Path
from skyapart.strips import strip
from tests.samples import line_chart, random_chart, random_track, small_rules


def plain_strip(track):
    """Return the strip by a look at each fix and each tick."""
    path, begin, boxes = track
    rows, at = [], 0
    for index, name in enumerate(path.route()):
        ticks = {0: begin + len(boxes), 1: begin + len(boxes)}
        for end in (0, 1):
            for tick in range(begin + len(boxes) - 1, begin - 1, -1):
                if boxes[tick - begin][end] >= at:
                    ticks[end] = tick
        rows.append((name, ticks[1], ticks[0]))
        if index + 1 < len(path.route()):
            at += path.vector(index)[2]
    return rows


class StripTest(unittest.TestCase):
    def check(self, expected, bounds, tick=10, *xs):
        chart = line_chart(*(xs or (0, 100, 200)))
        path = Path(chart, tuple(sorted(chart["fixes"])))
        boxes = [(low, high, 30, 30) for low, high in bounds]
        self.assertEqual(strip((path, tick, boxes)), expected)
        self.assertEqual(boxes, [(low, high, 30, 30) for low, high in bounds])
        strip((path, tick, boxes)).clear()
        self.assertEqual(strip((path, tick, boxes)), expected)
        self.assertEqual(plain_strip((path, tick, boxes)), expected)

    def test_reached_in_the_first_box(self):
        self.check([("A", 10, 10), ("B", 11, 12), ("C", 13, 14)],
                   [(0, 0), (60, 100), (100, 140), (160, 200)])
        self.check([("A", 10, 10), ("B", 10, 10), ("C", 10, 12)], [(100, 200), (150, 240)])

    def test_before_the_first_fix(self):
        self.check([("A", 11, 12), ("B", 13, 14), ("C", 14, 14)], [(-50, -1), (-9, 0), (0, 60), (60, 110)])

    def test_exactly_at_the_begin(self):
        self.check([("A", 10, 10), ("B", 12, 12), ("C", 14, 14)],
                   [(0, 0), (99, 99), (100, 100), (199, 199)])
        self.check([("A", 10, 10), ("B", 11, 11), ("C", 12, 12)], [(0, 0), (100, 100), (200, 200)])

    def test_reached_in_no_box(self):
        self.check([("A", 12, 12), ("B", 12, 12), ("C", 12, 12)], [(-50, -20), (-30, -1)])
        self.check([("A", 10, 11), ("B", 11, 12), ("C", 12, 12)], [(-3, 5), (40, 120)])

    def test_last_fix(self):
        self.check([("A", 10, 10), ("B", 10, 11), ("C", 11, 12)], [(0, 100), (100, 200)])
        self.check([("A", 10, 10), ("B", 10, 11), ("C", 12, 12)], [(0, 100), (100, 199)])

    def test_empty_tube(self):
        self.check([("A", 7, 7), ("B", 7, 7), ("C", 7, 7)], [], 7)

    def test_fix_that_comes_again(self):
        chart = line_chart(0, 100)
        chart["legs"].append(("B", "A", "S", 0, 600))
        path = Path(chart, ("A", "B", "A", "B"))
        boxes = [(at, at + 40, 30, 30) for at in range(0, 300, 40)]
        self.assertEqual(strip((path, 0, boxes)), [("A", 0, 0), ("B", 2, 3), ("A", 4, 5), ("B", 7, 8)])

    def test_random(self):
        chance = random.Random(1)
        seen = 0
        for seed in range(100):
            track = random_track(chance, random_chart(seed), small_rules())
            if track is not None:
                seen += 1
                self.assertEqual(strip(track), plain_strip(track))
        self.assertGreater(seen, 40)


if __name__ == "__main__":
    unittest.main()
