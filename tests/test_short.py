"""Point 6: short."""

import unittest

from singles import INFINITY, LARGEST, LARGEST_DENORMAL, LEAST_NORMAL, MINUS, MINUS_INFINITY, MINUS_ZERO, single
from smallproducts.products import short
from support import spread


def shortened(bits):
    """One single, asked for at every place of both lists; the others are to be 0."""
    told = short([bits], [])[0]
    for place in range(16):
        alone = [0] * place + [bits]
        lanes = [0] * 16
        lanes[place // 2] = told * 65536**(place % 2)
        assert short(alone, []) == lanes
        assert short([], alone) == lanes[8:] + lanes[:8]
    return told


def expected(bits):
    """By the distance to each of the two bfloat16s around a single."""
    sign, size = bits & MINUS, bits & 0x7FFFFFFF
    if size > 0x7F800000:
        return bits >> 16 | 64
    if size < 0x00800000:
        return sign >> 16
    below, above = size >> 16, (size >> 16) + 1
    down, up = size - (below << 16), (above << 16) - size
    if down == up:
        near = below if below % 2 == 0 else above
    else:
        near = below if down < up else above
    return sign >> 16 | near


def expected_lanes(low, high):
    told = [expected(bits) for bits in low + [0] * (16 - len(low)) + high + [0] * (16 - len(high))]
    return [told[j] | told[j + 1] << 16 for j in range(0, 32, 2)]


class Order(unittest.TestCase):
    def test_low_and_then_high(self):
        low = [0x3F800000 + j * 65536 for j in range(16)]
        high = [0xC0000000 + j * 65536 for j in range(16)]
        told = [0x3F813F80, 0x3F833F82, 0x3F853F84, 0x3F873F86, 0x3F893F88, 0x3F8B3F8A, 0x3F8D3F8C, 0x3F8F3F8E,
                0xC001C000, 0xC003C002, 0xC005C004, 0xC007C006, 0xC009C008, 0xC00BC00A, 0xC00DC00C, 0xC00FC00E]
        self.assertEqual(short(low, high), told)
        self.assertEqual(short(high, low), told[8:] + told[:8])

    def test_each_is_rounded_by_itself(self):
        self.assertEqual(short([0x3F80FFFF, 0x3F800001], [])[0], 0x3F803F81)
        self.assertEqual(short([0x3F800001, 0x3F80FFFF], [])[0], 0x3F813F80)
        self.assertEqual(short([LARGEST, 1], [])[0], 0x00007F80)
        self.assertEqual(short([1, LARGEST], [])[0], 0x7F800000)
        self.assertEqual(short([MINUS + LARGEST, LARGEST], [])[0], 0x7F80FF80)
        self.assertEqual(short([0xFFFFFFFF, 0x80000001], [])[0], 0x8000FFFF)


class LeftOut(unittest.TestCase):
    FULL = [0x3F800000] * 16

    def test_none(self):
        self.assertEqual(short([], []), [0] * 16)

    def test_written(self):
        whole = 0x3F803F80
        self.assertEqual(short(self.FULL, self.FULL), [whole] * 16)
        self.assertEqual(short(self.FULL, []), [whole] * 8 + [0] * 8)
        self.assertEqual(short([], self.FULL), [0] * 8 + [whole] * 8)
        self.assertEqual(short(self.FULL[:1], self.FULL), [0x3F80] + [0] * 7 + [whole] * 8)
        self.assertEqual(short(self.FULL, self.FULL[:1]), [whole] * 8 + [0x3F80] + [0] * 7)
        self.assertEqual(short(self.FULL[:15], self.FULL), [whole] * 7 + [0x3F80] + [whole] * 8)
        self.assertEqual(short(self.FULL, self.FULL[:15]), [whole] * 15 + [0x3F80])
        self.assertEqual(short(self.FULL[:15], self.FULL[:1]), [whole] * 7 + [0x3F80] * 2 + [0] * 7)
        self.assertEqual(short(self.FULL[:1], self.FULL[:15]), [0x3F80] + [0] * 7 + [whole] * 7 + [0x3F80])

    def test_all_lengths(self):
        for p in range(17):
            for q in range(17):
                low, high = spread(p, 2**32, p), spread(q, 2**32, q + 50)
                self.assertEqual(short(low, high), expected_lanes(low, high), (p, q))


class Nearest(unittest.TestCase):
    def test_lower_halves(self):
        # An even upper half stays at the tie, an odd one goes up.
        for sign in (0, MINUS):
            for even in (0x0080, 0x3F80, 0x4048, 0x7F7E):
                for lower, told in ((0, 0), (1, 0), (32767, 0), (32768, 0), (32769, 1), (65535, 1)):
                    found = shortened(sign + even * 65536 + lower)
                    self.assertEqual(found, sign // 65536 + even + told, (sign, even, lower))
            for odd in (0x0081, 0x3F81, 0x4049, 0x7F7D):
                for lower, told in ((0, 0), (1, 0), (32767, 0), (32768, 1), (32769, 1), (65535, 1)):
                    found = shortened(sign + odd * 65536 + lower)
                    self.assertEqual(found, sign // 65536 + odd + told, (sign, odd, lower))

    def test_written(self):
        self.assertEqual(shortened(single(1.0)), 0x3F80)
        self.assertEqual(shortened(single(-2.5)), 0xC020)
        self.assertEqual(shortened(0x40490FDB), 0x4049)
        self.assertEqual(shortened(0x3FB504F3), 0x3FB5)
        self.assertEqual(shortened(0xBDCCCCCD), 0xBDCD)

    def test_into_the_next_exponent(self):
        for sign in (0, MINUS):
            self.assertEqual(shortened(sign + 0x3FFF7FFF), sign // 65536 + 0x3FFF)
            self.assertEqual(shortened(sign + 0x3FFF8000), sign // 65536 + 0x4000)
            self.assertEqual(shortened(sign + 0x3FFFFFFF), sign // 65536 + 0x4000)
            self.assertEqual(shortened(sign + 0x00FF8000), sign // 65536 + 0x0100)
            self.assertEqual(shortened(sign + 0x00FFFFFF), sign // 65536 + 0x0100)


class PastTheLargest(unittest.TestCase):
    def test_become_an_infinity(self):
        for bits in (0x7F7F8000, 0x7F7F8001, 0x7F7FFFFE, LARGEST):
            self.assertEqual(shortened(bits), 0x7F80)
            self.assertEqual(shortened(MINUS + bits), 0xFF80)

    def test_do_not(self):
        for bits in (0x7F7E8001, 0x7F7EFFFF, 0x7F7F0000, 0x7F7F0001, 0x7F7F7FFE, 0x7F7F7FFF):
            self.assertEqual(shortened(bits), 0x7F7F)
            self.assertEqual(shortened(MINUS + bits), 0xFF7F)
        self.assertEqual(shortened(0x7F7E8000), 0x7F7E)
        self.assertEqual(shortened(0xFF7E8000), 0xFF7E)

    def test_infinities(self):
        self.assertEqual(shortened(INFINITY), 0x7F80)
        self.assertEqual(shortened(MINUS_INFINITY), 0xFF80)


class Zeros(unittest.TestCase):
    def test_zeros(self):
        self.assertEqual(shortened(0), 0)
        self.assertEqual(shortened(MINUS_ZERO), 0x8000)

    def test_denormals(self):
        for bits in (1, 2, 0x7FFF, 0x8000, 0x8001, 0xFFFF, 0x10000, 0x18000, 0x400000, 0x7F0000, 0x7F7FFF,
                     0x7F8000, 0x7FFFFE, LARGEST_DENORMAL):
            self.assertEqual(shortened(bits), 0, bits)
            self.assertEqual(shortened(MINUS + bits), 0x8000, bits)

    def test_least_normal(self):
        for bits in (LEAST_NORMAL, LEAST_NORMAL + 1, 0x00807FFF, 0x00808000):
            self.assertEqual(shortened(bits), 0x0080)
            self.assertEqual(shortened(MINUS + bits), 0x8080)
        self.assertEqual(shortened(0x00808001), 0x0081)
        self.assertEqual(shortened(0x80808001), 0x8081)


class Nans(unittest.TestCase):
    def test_bit_set(self):
        for bits, told in ((0x7FC00000, 0x7FC0), (0x7FC0FFFF, 0x7FC0), (0x7FC18000, 0x7FC1), (0x7FFFFFFF, 0x7FFF),
                           (0x7FD55555, 0x7FD5)):
            self.assertEqual(shortened(bits), told)
            self.assertEqual(shortened(MINUS + bits), 0x8000 + told)

    def test_bit_not_set(self):
        for bits, told in ((0x7F810000, 0x7FC1), (0x7F81FFFF, 0x7FC1), (0x7FBFFFFF, 0x7FFF), (0x7FA50000, 0x7FE5),
                           (0x7FA58001, 0x7FE5)):
            self.assertEqual(shortened(bits), told)
            self.assertEqual(shortened(MINUS + bits), 0x8000 + told)

    def test_set_bits_all_in_the_lower_half(self):
        for bits in (0x7F800001, 0x7F800040, 0x7F807FFF, 0x7F808000, 0x7F808001, 0x7F80FFFF):
            self.assertEqual(shortened(bits), 0x7FC0)
            self.assertEqual(shortened(MINUS + bits), 0xFFC0)


class Many(unittest.TestCase):
    def test_upper_halves_with_the_edges_of_lower_ones(self):
        lower = [0, 1, 2, 32766, 32767, 32768, 32769, 32770, 65534, 65535]
        for upper in range(0, 65536, 7):
            low = [upper * 65536 + number for number in lower]
            high = [(upper + 1) % 65536 * 65536 + number for number in lower]
            self.assertEqual(short(low, high), expected_lanes(low, high), upper)

    def test_spread(self):
        for seed in range(300):
            low, high = spread(16, 2**32, seed), spread(16, 2**32, seed + 1000)
            self.assertEqual(short(low, high), expected_lanes(low, high), seed)


if __name__ == "__main__":
    unittest.main()
