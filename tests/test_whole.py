import random
import unittest

from skyapart.whole import root_down, root_up


class WholeTest(unittest.TestCase):
    def check(self, n):
        down, up = root_down(n), root_up(n)
        self.assertIs(type(down), int)
        self.assertIs(type(up), int)
        self.assertGreaterEqual(down, 0)
        self.assertLessEqual(down * down, n)
        self.assertGreater((down + 1) * (down + 1), n)
        self.assertGreaterEqual(up * up, n)
        self.assertTrue(up == 0 or (up - 1) * (up - 1) < n)

    def test_small(self):
        self.assertEqual([root_down(n) for n in range(11)], [0, 1, 1, 1, 2, 2, 2, 2, 2, 3, 3])
        self.assertEqual([root_up(n) for n in range(11)], [0, 1, 2, 2, 2, 3, 3, 3, 3, 3, 4])
        for n in range(3000):
            self.check(n)

    def test_squares_and_their_neighbours(self):
        for root in (2, 3, 10, 2 ** 26 + 1, 94906267, 10 ** 15 + 7, 2 ** 53 - 1, 10 ** 29 + 3, 10 ** 30):
            square = root * root
            self.assertEqual((root_down(square), root_up(square)), (root, root))
            self.assertEqual((root_down(square - 1), root_up(square - 1)), (root - 1, root))
            self.assertEqual((root_down(square + 1), root_up(square + 1)), (root, root + 1))

    def test_great_ones(self):
        chance = random.Random(3)
        for size in range(1, 61):
            for _ in range(20):
                self.check(chance.randint(0, 10 ** size))
        self.check(10 ** 60)
        self.check(10 ** 60 - 1)

    def test_below_and_beyond_the_limits(self):
        self.check(10 ** 70 + 1)
        self.assertEqual(root_up(-1), 0)
        self.assertEqual(root_down(-1), 0)

    def test_example(self):
        self.assertEqual(root_up(10), 4)


if __name__ == "__main__":
    unittest.main()
