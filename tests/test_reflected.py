"""Point 67: reflected codes."""
import unittest

from skyapart.reflected import decode, encode


class ReflectedTest(unittest.TestCase):
    def test_example(self):
        self.assertEqual(encode(5), 7)
        self.assertEqual(decode(7), 5)

    def test_small_numbers(self):
        codes = [0, 1, 3, 2, 6, 7, 5, 4, 12, 13, 15, 14, 10, 11, 9, 8]
        self.assertEqual([encode(number) for number in range(16)], codes)
        self.assertEqual([decode(code) for code in codes], list(range(16)))

    def test_ends(self):
        self.assertEqual((encode(0), decode(0)), (0, 0))
        self.assertEqual((encode(1), decode(1)), (1, 1))
        self.assertEqual(encode(65535), 32768)
        self.assertEqual(decode(32768), 65535)
        self.assertEqual(encode(43690), 65535)
        self.assertEqual(decode(65535), 43690)

    def test_powers_of_two(self):
        for power in range(1, 16):
            number = 2 ** power
            self.assertEqual(encode(number), number + number // 2)
            self.assertEqual(encode(number - 1), number // 2)
            self.assertEqual(encode(number + 1), (number + number // 2) ^ 1 if power > 1 else 2)
            for near in (number - 1, number, number + 1):
                self.assertEqual(decode(encode(near)), near)
                self.assertEqual(encode(decode(near)), near)

    def test_all_numbers(self):
        seen = set()
        for number in range(65536):
            code = encode(number)
            self.assertTrue(0 <= code <= 65535)
            self.assertEqual(code, sum((number >> bit & 1 ^ number >> bit + 1 & 1) << bit for bit in range(16)))
            self.assertEqual(decode(code), number)
            self.assertEqual(encode(decode(number)), number)
            seen.add(code)
        self.assertEqual(len(seen), 65536)

    def test_neighbours_differ_in_one_bit(self):
        for number in range(65535):
            self.assertEqual(bin(encode(number) ^ encode(number + 1)).count("1"), 1)


if __name__ == "__main__":
    unittest.main()
