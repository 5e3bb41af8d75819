import random
import unittest
from fractions import Fraction

from skyapart.plane import closer, distance_down, lines_closer, lines_distance_down, meet


def points(segment):
    ax, ay, bx, by, d = segment
    return (Fraction(ax, d), Fraction(ay, d)), (Fraction(bx, d), Fraction(by, d))


def point_square(p, a, b):
    """Return the squared distance of the point p and the segment from a to b."""
    dx, dy = b[0] - a[0], b[1] - a[1]
    length = dx * dx + dy * dy
    t = Fraction(0)
    if length:
        t = min(max(((p[0] - a[0]) * dx + (p[1] - a[1]) * dy) / length, Fraction(0)), Fraction(1))
    x, y = a[0] + t * dx - p[0], a[1] + t * dy - p[1]
    return x * x + y * y


def exact_square(first, second):
    """Return the squared distance of two segments, found by solving for their crossing."""
    (a, b), (c, d) = points(first), points(second)
    ux, uy, vx, vy = b[0] - a[0], b[1] - a[1], d[0] - c[0], d[1] - c[1]
    wx, wy = c[0] - a[0], c[1] - a[1]
    base = ux * vy - uy * vx
    if base:
        s, t = (wx * vy - wy * vx) / base, (wx * uy - wy * ux) / base
        if 0 <= s <= 1 and 0 <= t <= 1:
            return Fraction(0)
    return min(point_square(a, c, d), point_square(b, c, d), point_square(c, a, b), point_square(d, a, b))


def turns(first, second):
    """Return the pairs in both orders of the segments and of their ends."""
    def back(segment):
        ax, ay, bx, by, d = segment
        return bx, by, ax, ay, d
    return [
        (one, other)
        for left, right in ((first, second), (second, first))
        for one in (left, back(left))
        for other in (right, back(right))
    ]


class PlaneTest(unittest.TestCase):
    def check(self, first, second, square):
        """Check all functions for two segments with a squared distance."""
        square = Fraction(square)
        self.assertEqual(exact_square(first, second), square)
        for one, other in turns(first, second):
            down = distance_down(one, other)
            self.assertLessEqual(down * down, square, (one, other))
            self.assertGreater((down + 1) * (down + 1), square, (one, other))
            for limit in {0, 1, 2, max(down - 1, 0), down, down + 1, down + 2}:
                self.assertIs(closer(one, other, limit), square < limit * limit, (one, other, limit))
            self.assertIs(meet(one, other), square == 0)

    def test_crossing(self):
        self.check((0, 0, 10, 10, 1), (0, 10, 10, 0, 1), 0)
        self.check((0, 0, 3, 3, 1), (0, 3, 3, 1, 7), 0)
        self.check((0, 0, 1, 1, 1), (0, 1, 1, 0, 1), 0)
        self.check((-5, 0, 5, 0, 1), (0, -5, 0, 5, 1), 0)
        self.check((-5, 0, 5, 0, 3), (1, -5, 1, 5, 2), 0)

    def test_touching(self):
        self.check((0, 0, 10, 0, 1), (10, 0, 20, 5, 1), 0)
        self.check((0, 0, 10, 0, 1), (5, 0, 5, 9, 1), 0)
        self.check((0, 0, 10, 0, 1), (10, 0, 10, 9, 1), 0)
        self.check((0, 0, 2, 2, 3), (1, 1, 5, 0, 3), 0)

    def test_on_one_line(self):
        self.check((0, 0, 10, 0, 1), (5, 0, 20, 0, 1), 0)
        self.check((0, 0, 10, 0, 1), (2, 0, 5, 0, 1), 0)
        self.check((0, 0, 4, 2, 1), (4, 2, 8, 4, 1), 0)
        self.check((0, 0, 4, 2, 1), (8, 4, 12, 6, 1), 20)
        self.check((0, 0, 0, 5, 1), (0, 9, 0, 12, 1), 16)

    def test_single_points(self):
        self.check((3, 4, 3, 4, 1), (0, 0, 0, 0, 1), 25)
        self.check((3, 4, 3, 4, 1), (3, 4, 3, 4, 1), 0)
        self.check((3, 4, 3, 4, 1), (6, 8, 6, 8, 2), 0)
        self.check((5, 3, 5, 3, 1), (0, 0, 10, 0, 1), 9)
        self.check((5, 0, 5, 0, 1), (0, 0, 10, 0, 1), 0)
        self.check((13, 4, 13, 4, 1), (0, 0, 10, 0, 1), 25)
        self.check((20, 0, 20, 0, 1), (0, 0, 10, 0, 1), 100)

    def test_parallel_and_upright(self):
        self.check((0, 0, 10, 0, 1), (3, 7, 30, 7, 1), 49)
        self.check((0, 0, 0, 10, 1), (7, 3, 7, 30, 1), 49)
        self.check((0, 0, 10, 0, 1), (13, 4, 30, 4, 1), 25)
        self.check((0, 0, 10, 0, 1), (5, 2, 5, 9, 1), 4)
        self.check((0, 0, 10, 10, 1), (1, 0, 11, 10, 1), Fraction(1, 2))

    def test_line_would_cross_but_segment_does_not(self):
        self.check((0, 0, 10, 0, 1), (5, 1, 5, 8, 1), 1)
        self.check((0, 0, 10, 0, 1), (11, -5, 11, 5, 1), 1)

    def test_denominators(self):
        self.check((0, 0, 9, 0, 2), (3, 4, 8, 4, 1), 16)
        self.check((1, 1, 1, 1, 3), (1, 1, 1, 1, 2), Fraction(1, 18))
        self.check((1, 0, 2, 0, 3), (3, 0, 4, 0, 4), Fraction(1, 144))
        self.check((0, 0, 10, 0, 10), (0, 70, 5, 70, 7), 100)
        self.check((6, 8, 6, 8, 2), (0, 0, 0, 0, 5), 25)

    def test_random(self):
        chance = random.Random(1)
        zero = 0
        for _ in range(4000):
            wide = chance.choice((2, 5, 30))
            first, second = (
                (*(chance.randint(-wide, wide) for _ in range(4)), chance.randint(1, 4)) for _ in range(2)
            )
            square = exact_square(first, second)
            zero += square == 0
            self.check(first, second, square)
        self.assertGreater(zero, 300)
        self.assertLess(zero, 3700)

    def test_limit_equal_to_the_distance(self):
        first, second = (0, 0, 9, 0, 1), (3, 4, 8, 4, 1)
        self.assertIs(closer(first, second, 4), False)
        self.assertIs(closer(first, second, 5), True)
        self.assertIs(closer(first, second, 3), False)
        self.assertIs(closer((0, 0, 1, 1, 1), (0, 1, 1, 0, 1), 0), False)
        self.assertIs(closer((0, 0, 1, 1, 1), (0, 1, 1, 0, 1), 1), True)
        self.assertIs(closer(first, second, -5), False)

    def test_large(self):
        far = 10 ** 20
        origin = (0, 0, 0, 0, 1)
        for shift, near in ((0, False), (1, False), (-1, True)):
            other = (3 * far, 4 * far + shift, 3 * far, 4 * far + shift, 1)
            self.assertIs(closer(origin, other, 5 * far), near)
            self.assertIs(closer(other, origin, 5 * far), near)
            self.assertEqual(distance_down(origin, other), 5 * far - 1 if near else 5 * far)
        # The point lies less than a billionth beside a line at the distance 5 * 10 ** 8.
        wide = 10 ** 9
        slanted = (-4 * wide, 3 * wide, 4 * wide, -3 * wide, 1)
        for shift, near in ((0, False), (1, False), (-1, True)):
            other = (3 * wide * 5 + shift, 4 * wide * 5, 3 * wide * 5 + shift, 4 * wide * 5, 50)
            self.assertIs(closer(slanted, other, wide // 2), near)
            self.assertEqual(distance_down(slanted, other), wide // 2 - 1 if near else wide // 2)

    def test_large_denominators_of_legs(self):
        first = (1, 0, 282843 * 10 ** 5, 1, 282843)
        second = (0, 2, 282841 * 10 ** 5, 3, 282841)
        self.check(first, second, exact_square(first, second))

    def test_distance_down_exact_and_irrational(self):
        self.assertEqual(distance_down((0, 0, 0, 0, 1), (3, 4, 3, 4, 1)), 5)
        self.assertEqual(distance_down((0, 0, 0, 0, 1), (1, 1, 1, 1, 1)), 1)
        self.assertEqual(distance_down((0, 0, 0, 0, 1), (7, 7, 7, 7, 1)), 9)
        self.assertEqual(distance_down((0, 0, 0, 0, 1), (1, 1, 1, 1, 2)), 0)
        self.assertEqual(distance_down((0, 0, 9, 0, 2), (3, 4, 8, 4, 1)), 4)

    def test_lines(self):
        near, far = (0, 0, 9, 0, 1), (0, 100, 9, 100, 1)
        other = (0, 4, 9, 4, 1)
        self.assertIs(lines_closer([far, near], [far, other], 1), True)
        self.assertIs(lines_closer([far, near], [other], 5), True)
        self.assertIs(lines_closer([far, near], [other], 4), False)
        self.assertIs(lines_closer([far], [other, near], 96), False)
        self.assertIs(lines_closer([far], [other, near], 97), True)
        self.assertIs(lines_closer([near, far], [other, (0, 98, 0, 98, 1)], 3), True)
        self.assertEqual(lines_distance_down([far, near], [other]), 4)
        self.assertEqual(lines_distance_down([far], [near, other]), 96)

    def test_lines_against_segments(self):
        chance = random.Random(5)
        for _ in range(400):
            first, second = (
                [(*(chance.randint(-20, 20) for _ in range(4)), chance.randint(1, 3))
                 for _ in range(chance.randint(1, 4))]
                for _ in range(2)
            )
            square = min(exact_square(one, other) for one in first for other in second)
            for limit in range(0, 20, 3):
                self.assertIs(lines_closer(first, second, limit), square < limit * limit)

    def test_empty_lines(self):
        line = [(0, 0, 9, 0, 1)]
        for limit in (0, 1, 10 ** 9):
            self.assertIs(lines_closer([], line, limit), False)
            self.assertIs(lines_closer(line, [], limit), False)
            self.assertIs(lines_closer([], [], limit), False)

    def test_arguments_stay(self):
        first, second = [(0, 0, 9, 0, 2)], [(3, 4, 8, 4, 1), (1, 1, 1, 1, 1)]
        lines_closer(first, second, 3)
        self.assertEqual((first, second), ([(0, 0, 9, 0, 2)], [(3, 4, 8, 4, 1), (1, 1, 1, 1, 1)]))


if __name__ == "__main__":
    unittest.main()
