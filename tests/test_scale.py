"""Point 4: scale."""

import math
import unittest
from fractions import Fraction

from smallproducts.products import scale
from support import bits, signed, spread

MOST = 2147483647
LEAST = -2147483648


def expected(n, m, s, z, numbers):
    if n > 65536 or not 0 <= s <= 62 or not 0 <= z <= 255:
        return [-1]
    quotients = [Fraction(signed(number, 4) * m, 2**s) for number in numbers]
    rounded = [math.floor(quotient + Fraction(1, 2)) for quotient in quotients]
    return [0] + [min(max(z + number, 0), 255) for number in rounded]


class Refused(unittest.TestCase):
    def test_n(self):
        for n in (65537, 65538, 131072, 2147483648, 4294967295):
            self.assertEqual(scale(n, 1, 0, 0, []), [-1], n)
            self.assertEqual(scale(n, 1, 62, 255, []), [-1], n)
            self.assertEqual(scale(n, 1, 0, 0, [1, 2, 3]), [-1], n)

    def test_s(self):
        for s in (-1, -2, 63, 64, LEAST, MOST):
            for numbers in ([], [0], [1, 2, 3], [4294967295] * 500):
                for z in (0, 128, 255):
                    self.assertEqual(scale(len(numbers), 1, s, z, numbers), [-1], (s, z))

    def test_z(self):
        for z in (-1, -2, 256, 257, LEAST, MOST):
            for numbers in ([], [0], [1, 2, 3], [4294967295] * 500):
                for s in (0, 31, 62):
                    self.assertEqual(scale(len(numbers), 1, s, z, numbers), [-1], (s, z))

    def test_several(self):
        for n in (65537, 4294967295):
            for s in (-1, 63):
                for z in (-1, 256):
                    self.assertEqual(scale(n, 1, s, z, []), [-1])
                    self.assertEqual(scale(2, 1, s, z, [1, 2]), [-1])
            self.assertEqual(scale(n, 1, 63, 0, []), [-1])
            self.assertEqual(scale(n, 1, 0, 256, []), [-1])

    def test_whatever_m_is(self):
        for m in (LEAST, -1, 0, 1, MOST):
            self.assertEqual(scale(1, m, 63, 0, [1]), [-1])
            self.assertEqual(scale(1, m, 0, 256, [1]), [-1])
            self.assertEqual(scale(65537, m, 0, 0, []), [-1])


class NotRefused(unittest.TestCase):
    def test_no_numbers(self):
        for s in (0, 1, 61, 62):
            for z in (0, 1, 254, 255):
                for m in (LEAST, 0, MOST):
                    self.assertEqual(scale(0, m, s, z, []), [0])

    def test_most_numbers(self):
        numbers = list(range(65536))
        told = [0] + [min(number, 255) for number in numbers]
        # assertEqual would look for minutes for what to show of lists this long.
        self.assertTrue(scale(65536, 1, 0, 0, numbers) == told)

    def test_ends_of_s(self):
        self.assertEqual(scale(1, 1, 0, 0, [77]), [0, 77])
        self.assertEqual(scale(1, 2, 1, 0, [77]), [0, 77])
        self.assertEqual(scale(1, LEAST, 62, 0, [2147483648]), [0, 1])
        self.assertEqual(scale(1, LEAST, 62, 255, [2147483648]), [0, 255])
        self.assertEqual(scale(1, LEAST, 61, 0, [2147483648]), [0, 2])
        self.assertEqual(scale(1, MOST, 62, 9, [2147483648]), [0, 8])

    def test_ends_of_z(self):
        self.assertEqual(scale(3, 1, 0, 0, [0, 1, 4294967295]), [0, 0, 1, 0])
        self.assertEqual(scale(3, 1, 0, 255, [0, 1, 4294967295]), [0, 255, 255, 254])

    def test_z_moves_the_answer(self):
        for z in range(256):
            self.assertEqual(scale(3, 3, 1, z, [0, 1, bits(-1)]), [0, z, min(z + 2, 255), max(z - 1, 0)])


class Signs(unittest.TestCase):
    def test_numbers(self):
        edges = [0, 1, 2147483647, 2147483648, 4294967295]
        self.assertEqual(scale(5, 1, 0, 100, edges), [0, 100, 101, 255, 0, 99])
        self.assertEqual(scale(5, -1, 0, 100, edges), [0, 100, 99, 0, 255, 101])
        self.assertEqual(scale(5, 1, 25, 100, edges), [0, 100, 100, 164, 36, 100])
        self.assertEqual(scale(5, -1, 25, 100, edges), [0, 100, 100, 36, 164, 100])

    def test_m_at_its_ends(self):
        self.assertEqual(scale(4, MOST, 30, 100, [1, 2, bits(-1), bits(-2)]), [0, 102, 104, 98, 96])
        self.assertEqual(scale(4, LEAST, 30, 100, [1, 2, bits(-1), bits(-2)]), [0, 98, 96, 102, 104])
        self.assertEqual(scale(2, MOST, 55, 128, [bits(MOST), bits(LEAST)]), [0, 255, 0])
        self.assertEqual(scale(2, MOST, 56, 100, [bits(MOST), bits(LEAST)]), [0, 164, 36])
        self.assertEqual(scale(2, LEAST, 56, 100, [bits(MOST), bits(LEAST)]), [0, 36, 164])

    def test_m_0_and_below(self):
        edges = [0, 1, 2147483647, 2147483648, 4294967295]
        for s in (0, 1, 31, 62):
            self.assertEqual(scale(5, 0, s, 7, edges), [0, 7, 7, 7, 7, 7])
        self.assertEqual(scale(3, -1, 0, 10, [1, 10, bits(-10)]), [0, 9, 0, 20])


class Halves(unittest.TestCase):
    def test_written(self):
        above = [1, 2, 3, 5, 6, 7]
        self.assertEqual(scale(6, 1, 2, 100, above), [0, 100, 101, 101, 101, 102, 102])
        below = [bits(-number) for number in above]
        self.assertEqual(scale(6, 1, 2, 100, below), [0, 100, 100, 99, 99, 99, 98])

    def test_s_1(self):
        numbers = [bits(number) for number in range(-5, 6)]
        told = [98, 98, 99, 99, 100, 100, 101, 101, 102, 102, 103]
        self.assertEqual(scale(11, 1, 1, 100, numbers), [0] + told)

    def test_half_comes_from_m_too(self):
        self.assertEqual(scale(2, -1, 1, 100, [1, 3]), [0, 100, 99])
        self.assertEqual(scale(2, -3, 1, 100, [bits(-1), bits(-3)]), [0, 102, 105])
        self.assertEqual(scale(2, 3, 1, 100, [bits(-1), bits(-3)]), [0, 99, 96])

    def test_around_each_half(self):
        for s in range(1, 26):
            half = 2**(s - 1)
            for whole in (-3, -2, -1, 0, 1, 2):
                at = whole * 2**s + half
                numbers = [bits(at - 1), bits(at), bits(at + 1)]
                # One below the half of 2^1 is the whole number itself.
                told = [0, 100 + whole, 101 + whole, 101 + whole]
                self.assertEqual(scale(3, 1, s, 100, numbers), told, (s, whole))

    def test_half_of_large_s(self):
        # 2^30 * 2^31 / 2^62 is a half, to the last bit.
        self.assertEqual(scale(3, LEAST, 62, 5, [bits(-2**30 + 1), bits(-2**30), bits(-2**30 - 1)]), [0, 5, 6, 6])
        self.assertEqual(scale(3, LEAST, 62, 5, [2**30 - 1, 2**30, 2**30 + 1]), [0, 5, 5, 4])
        self.assertEqual(scale(2, MOST, 62, 5, [2**30, 2**30 + 1]), [0, 5, 6])
        self.assertEqual(scale(2, MOST, 62, 5, [bits(-2**30), bits(-2**30 - 1)]), [0, 5, 4])

    def test_nothing_is_rounded_with_s_0(self):
        numbers = list(range(256))
        self.assertEqual(scale(256, 1, 0, 0, numbers), [0] + numbers)
        self.assertEqual(scale(256, -1, 0, 255, numbers), [0] + [255 - number for number in numbers])
        self.assertEqual(scale(3, 5, 0, 1, [3, 7, bits(-1)]), [0, 16, 36, 0])


class Held(unittest.TestCase):
    def test_at_255(self):
        self.assertEqual(scale(4, 1, 0, 0, [254, 255, 256, 257]), [0, 254, 255, 255, 255])
        self.assertEqual(scale(4, 1, 0, 200, [54, 55, 56, 57]), [0, 254, 255, 255, 255])
        self.assertEqual(scale(3, 1, 1, 0, [508, 509, 511]), [0, 254, 255, 255])
        self.assertEqual(scale(1, MOST, 0, 255, [MOST]), [0, 255])

    def test_at_0(self):
        self.assertEqual(scale(4, 1, 0, 0, [1, 0, bits(-1), bits(-2)]), [0, 1, 0, 0, 0])
        self.assertEqual(scale(4, 1, 0, 200, [bits(-199), bits(-200), bits(-201), bits(-202)]), [0, 1, 0, 0, 0])
        self.assertEqual(scale(3, 1, 1, 1, [bits(-1), bits(-2), bits(-3)]), [0, 1, 0, 0])
        self.assertEqual(scale(1, LEAST, 0, 0, [MOST]), [0, 0])

    def test_quotient_past_255_and_below_0_itself(self):
        # What is held is the answer, not the quotient ahead of z.
        self.assertEqual(scale(1, 1, 0, 255, [bits(-100)]), [0, 155])
        self.assertEqual(scale(1, 1, 0, 255, [bits(-255)]), [0, 0])
        self.assertEqual(scale(1, 1, 0, 1, [254]), [0, 255])

    def test_each_by_itself(self):
        self.assertEqual(scale(4, 1, 0, 10, [300, 5, bits(-300), 6]), [0, 255, 15, 0, 16])


class Many(unittest.TestCase):
    def test_against_exact_quotients(self):
        for seed in range(300):
            m, s, z, shrink = spread(4, 2**32, seed)
            m, s, z = signed(m, 4), s % 63, z % 256
            numbers = spread(20, 2**32, seed + 1000)
            self.assertEqual(scale(20, m, s, z, numbers), expected(20, m, s, z, numbers), (m, s, z))
            near = [bits(number % 2**(1 + shrink % 31) - 2**(shrink % 31)) for number in numbers]
            m = m // 2**(shrink % 29)
            self.assertEqual(scale(20, m, s, z, near), expected(20, m, s, z, near), (m, s, z))

    def test_500(self):
        numbers = spread(500, 2**32, 9)
        self.assertEqual(scale(500, 1717986919, 56, 119, numbers), expected(500, 1717986919, 56, 119, numbers))

    def test_against_exact_quotients_with_the_edges(self):
        numbers = [0, 1, 2, 2147483646, 2147483647, 2147483648, 2147483649, 4294967294, 4294967295]
        for m in (LEAST, LEAST + 1, -2, -1, 0, 1, 2, MOST - 1, MOST):
            for s in range(-1, 64):
                for z in (-1, 0, 1, 128, 254, 255, 256):
                    self.assertEqual(scale(9, m, s, z, numbers), expected(9, m, s, z, numbers), (m, s, z))


if __name__ == "__main__":
    unittest.main()
