import copy
import random
import unittest

from skyapart.path import Path
from tests.samples import line_chart, random_chart, random_route, small_chart


def plain_piece(chart, route, path, low, high):
    """Return the piece as point 16 tells it, with the begins and lengths of the path."""
    count = len(route) - 1
    total = path.begin(count)
    if high < 0 or low >= total:
        return []
    u, v = max(low, 0), min(high, total)

    def point(index, progress):
        (ax, ay), (bx, by) = chart["fixes"][route[index]], chart["fixes"][route[index + 1]]
        n, b = path.begin(index + 1) - path.begin(index), path.begin(index)
        return ax * n + (bx - ax) * (progress - b), ay * n + (by - ay) * (progress - b), n
    if u == v:
        index = [k for k in range(count) if path.begin(k) <= u][-1]
        x, y, n = point(index, u)
        return [(x, y, x, y, n)]
    line = []
    for index in range(count):
        start, end = max(u, path.begin(index)), min(v, path.begin(index + 1))
        if end - start >= 1:
            line.append(point(index, start)[:2] + point(index, end))
    return line


class PathTest(unittest.TestCase):
    def setUp(self):
        # The legs begin at 0, 50, 149 and 248, and the path ends at 348.
        self.path = Path(small_chart(), ("A", "B", "D", "B", "C"))

    def test_numbers_of_legs(self):
        path = self.path
        self.assertEqual(path.route(), ("A", "B", "D", "B", "C"))
        self.assertEqual([path.begin(index) for index in range(5)], [0, 50, 149, 248, 348])
        self.assertEqual(path.total(), 348)
        self.assertEqual([path.leg(index) for index in range(4)], [
            ("A", "B", "S1", 0, 600), ("B", "D", "S2", 50, 400), ("D", "B", "S2", 50, 400), ("B", "C", "S1", 100, 300),
        ])
        self.assertEqual([path.vector(index) for index in range(4)],
                         [(30, 40, 50), (-90, 40, 99), (90, -40, 99), (0, 100, 100)])

    def test_leg_at(self):
        for progress, index in (
            (-1000, 0), (-1, 0), (0, 0), (1, 0), (49, 0), (50, 1), (51, 1), (148, 1), (149, 2), (247, 2),
            (248, 3), (347, 3), (348, 3), (349, 3), (100000, 3),
        ):
            self.assertEqual(self.path.leg_at(progress), index, progress)

    def test_one_leg(self):
        path = Path(small_chart(), ("A", "B"))
        self.assertEqual((path.total(), path.begin(0), path.begin(1)), (50, 0, 50))
        self.assertEqual([path.leg_at(progress) for progress in (-1, 0, 49, 50, 51)], [0] * 5)

    def test_places(self):
        path = self.path
        self.assertEqual(path.place(0), (0, 0, 50))
        self.assertEqual(path.place(1), (30, 40, 50))
        self.assertEqual(path.place(25), (750, 1000, 50))
        self.assertEqual(path.place(49), (30 * 49, 40 * 49, 50))
        # An end of a leg is told as the begin of the next one.
        self.assertEqual(path.place(50), (30 * 99, 40 * 99, 99))
        self.assertEqual(path.place(149), (-60 * 99, 80 * 99, 99))
        self.assertEqual(path.place(150), (-60 * 99 + 90, 80 * 99 - 40, 99))
        self.assertEqual(path.place(248), (3000, 4000, 100))
        self.assertEqual(path.place(348), (3000, 14000, 100))

    def test_empty_pieces(self):
        self.assertEqual(self.path.piece(-5, -1), [])
        self.assertEqual(self.path.piece(-1, -1), [])
        self.assertEqual(self.path.piece(348, 348), [])
        self.assertEqual(self.path.piece(348, 400), [])
        self.assertEqual(self.path.piece(349, 350), [])

    def test_single_places(self):
        self.assertEqual(self.path.piece(-5, 0), [(0, 0, 0, 0, 50)])
        self.assertEqual(self.path.piece(0, 0), [(0, 0, 0, 0, 50)])
        self.assertEqual(self.path.piece(25, 25), [(750, 1000, 750, 1000, 50)])
        self.assertEqual(self.path.piece(50, 50), [(2970, 3960, 2970, 3960, 99)])
        self.assertEqual(self.path.piece(347, 347), [(3000, 13900, 3000, 13900, 100)])

    def test_pieces_at_the_ends(self):
        self.assertEqual(self.path.piece(-9, 1), [(0, 0, 30, 40, 50)])
        self.assertEqual(self.path.piece(347, 348), [(3000, 13900, 3000, 14000, 100)])
        self.assertEqual(self.path.piece(347, 999), [(3000, 13900, 3000, 14000, 100)])
        whole = [(0, 0, 1500, 2000, 50), (2970, 3960, -5940, 7920, 99), (-5940, 7920, 2970, 3960, 99),
                 (3000, 4000, 3000, 14000, 100)]
        self.assertEqual(self.path.piece(0, 348), whole)
        self.assertEqual(self.path.piece(-9, 999), whole)

    def test_pieces_where_legs_begin_and_end(self):
        self.assertEqual(self.path.piece(40, 50), [(1200, 1600, 1500, 2000, 50)])
        self.assertEqual(self.path.piece(50, 60), [(2970, 3960, 2970 - 900, 3960 + 400, 99)])
        self.assertEqual(self.path.piece(50, 149), [(2970, 3960, -5940, 7920, 99)])
        self.assertEqual(self.path.piece(49, 51), [(1470, 1960, 1500, 2000, 50), (2970, 3960, 2880, 4000, 99)])
        self.assertEqual(self.path.piece(148, 249), [
            (-5940 + 90, 7920 - 40, -5940, 7920, 99), (-5940, 7920, 2970, 3960, 99), (3000, 4000, 3000, 4100, 100),
        ])

    def test_random(self):
        chance = random.Random(6)
        for seed in range(120):
            chart = random_chart(seed, spread=chance.choice((3, 20)))
            route = random_route(chance, chart)
            path = Path(chart, route)
            for _ in range(60):
                low = chance.randint(-5, path.total() + 5)
                high = low + chance.choice((0, 1, 2, chance.randint(0, 60)))
                self.assertEqual(path.piece(low, high), plain_piece(chart, route, path, low, high))
            marks = [path.begin(index) for index in range(len(route))]
            for low in marks:
                for high in marks:
                    if low <= high:
                        self.assertEqual(path.piece(low, high), plain_piece(chart, route, path, low, high))

    def test_answers_are_new(self):
        first = self.path.piece(49, 51)
        kept = list(first)
        first.clear()
        self.assertEqual(self.path.piece(49, 51), kept)
        self.path.piece(49, 51).append((0, 0, 0, 0, 1))
        self.assertEqual(self.path.piece(49, 51), kept)
        empty = self.path.piece(-2, -1)
        empty.append((0, 0, 0, 0, 1))
        self.assertEqual(self.path.piece(-2, -1), [])

    def test_two_paths_in_turn(self):
        chart = small_chart()
        one, other = Path(chart, ("A", "B", "D")), Path(chart, ("D", "C"))
        alone = Path(chart, ("A", "B", "D")).piece(10, 70), Path(chart, ("D", "C")).piece(10, 70)
        for _ in range(3):
            self.assertEqual((one.piece(10, 70), other.piece(10, 70)), alone)
            self.assertEqual((one.total(), other.total()), (149, 109))
            self.assertEqual((one.place(10), other.place(10)), ((300, 400, 50), (-60 * 109 + 900, 80 * 109 + 600, 109)))

    def test_chart_is_not_kept(self):
        chart = small_chart()
        before = copy.deepcopy(chart)
        path = Path(chart, ("A", "B", "C"))
        piece = path.piece(10, 90)
        self.assertEqual(chart, before)
        chart["fixes"]["B"] = (7, 7)
        chart["fixes"].clear()
        chart["legs"].clear()
        self.assertEqual(path.piece(10, 90), piece)
        self.assertEqual((path.total(), path.leg(1)), (150, ("B", "C", "S1", 100, 300)))

    def test_all_is_defined_in_the_class(self):
        for name in ("total", "leg_at", "begin", "leg", "vector", "place", "piece", "route"):
            self.assertIn(name, vars(Path))

    def test_sixteen_names(self):
        chart = line_chart(0, 10, 30)
        chart["legs"].append(("C", "B", "S", 0, 600))
        path = Path(chart, ("B", "C") * 8)
        self.assertEqual(path.total(), 15 * 20)
        self.assertEqual(path.leg_at(299), 14)
        self.assertEqual(len(path.piece(0, 300)), 15)


if __name__ == "__main__":
    unittest.main()
