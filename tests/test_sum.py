"""Point 5: sum, here sum_of."""

import struct
import unittest

from smallproducts.products import sum_of
from support import bits, signed, spread

MOST = 2147483647
LEAST = 2147483648  # the bits of -2147483648
ALL = 65535
EDGES_8 = {0: 0, 1: 1, 127: 127, 128: -128, 255: -1}
EDGES_16 = {0: 0, 1: 1, 32767: 32767, 32768: -32768, 65535: -1}


def bytes_in(first, second, third, fourth):
    return first + second * 2**8 + third * 2**16 + fourth * 2**24


def words_in(first, second):
    return first + second * 2**16


def first_lane(kind, sums, a, b):
    """The first lane, asked for by itself; the others are to be 0."""
    answer = sum_of(1, kind, [sums], [a], [b])
    assert answer[1:] == [0] * 15
    return answer[0]


def expected_lane(kind, sums, a, b):
    without, signs = ("<4B", "<4b") if kind < 2 else ("<2h", "<2h")
    factors = struct.unpack(without, struct.pack("<I", a))
    weights = struct.unpack(signs, struct.pack("<I", b))
    total = signed(sums, 4) + sum(p * q for p, q in zip(factors, weights))
    if kind in (1, 3):
        total = min(max(total, -(2**31)), 2**31 - 1)
    return total & 0xFFFFFFFF


def expected(k, kind, sums, a, b):
    sums, a, b = [each + [0] * (16 - len(each)) for each in (sums, a, b)]
    if kind not in (0, 1, 2, 3):
        return sums
    return [
        expected_lane(kind, sums[j], a[j], b[j]) if f"{k:016b}"[15 - j] == "1" else sums[j]
        for j in range(16)
    ]


class Kinds(unittest.TestCase):
    def test_each_kind(self):
        # The bytes 4 3 2 1 and 253 254 255 128; the words 772, 258 and -259, -32513.
        a, b = 0x01020304, 0x80FFFEFD
        self.assertEqual(first_lane(0, 1000, a, b), bits(1000 + 4 * -3 + 3 * -2 + 2 * -1 + 1 * -128))
        self.assertEqual(first_lane(1, 1000, a, b), bits(1000 + 4 * -3 + 3 * -2 + 2 * -1 + 1 * -128))
        self.assertEqual(first_lane(2, 1000, a, b), bits(1000 + 772 * -259 + 258 * -32513))
        self.assertEqual(first_lane(3, 1000, a, b), bits(1000 + 772 * -259 + 258 * -32513))

    def test_written(self):
        ones = [0xFFFFFFFF]
        self.assertEqual(sum_of(1, 0, [5], ones, ones)[0], bits(5 - 4 * 255))
        self.assertEqual(sum_of(1, 1, [5], ones, ones)[0], bits(5 - 4 * 255))
        self.assertEqual(sum_of(1, 2, [5], ones, ones)[0], 7)
        self.assertEqual(sum_of(1, 3, [5], ones, ones)[0], 7)

    def test_other_kinds(self):
        sums = spread(16, 2**32, 1)
        a = spread(16, 2**32, 2)
        b = spread(16, 2**32, 3)
        for kind in (-1, -2, -3, -4, 4, 5, 6, 7, 8, 256, 65536, -2147483648, 2147483647):
            for k in (0, 1, 32768, ALL):
                self.assertEqual(sum_of(k, kind, sums, a, b), sums, (kind, k))
            self.assertEqual(sum_of(ALL, kind, [], a, b), [0] * 16, kind)
            self.assertEqual(sum_of(ALL, kind, [7, 4294967295], a, b), [7, 4294967295] + [0] * 14, kind)


class Places(unittest.TestCase):
    def test_bytes(self):
        for kind in (0, 1):
            for place in range(4):
                for x in EDGES_8:
                    for y, value in EDGES_8.items():
                        found = first_lane(kind, 0, x * 256**place, y * 256**place)
                        self.assertEqual(found, bits(x * value), (kind, place, x, y))

    def test_bytes_of_unlike_places_do_not_meet(self):
        for kind in (0, 1):
            for place in range(4):
                for other in range(4):
                    found = first_lane(kind, 9, 255 * 256**place, 127 * 256**other)
                    self.assertEqual(found, 9 + (255 * 127 if place == other else 0))

    def test_words(self):
        for kind in (2, 3):
            for place in range(2):
                for x, first in EDGES_16.items():
                    for y, second in EDGES_16.items():
                        found = first_lane(kind, 0, x * 65536**place, y * 65536**place)
                        self.assertEqual(found, bits(first * second), (kind, place, x, y))

    def test_words_of_unlike_places_do_not_meet(self):
        for kind in (2, 3):
            self.assertEqual(first_lane(kind, 9, words_in(100, 0), words_in(0, 100)), 9)
            self.assertEqual(first_lane(kind, 9, words_in(0, 100), words_in(100, 0)), 9)

    def test_all_places_add_up(self):
        a, b = bytes_in(1, 10, 100, 200), bytes_in(1, 2, 3, 4)
        for kind in (0, 1):
            self.assertEqual(first_lane(kind, 5, a, b), 5 + 1 + 20 + 300 + 800)
        a, b = words_in(1000, 3000), words_in(7, 11)
        for kind in (2, 3):
            self.assertEqual(first_lane(kind, 5, a, b), 5 + 7000 + 33000)


class PastThirtyTwoBits(unittest.TestCase):
    def check(self, kinds, sums, a, b, modulo, held):
        self.assertEqual(first_lane(kinds[0], sums, a, b), modulo)
        self.assertEqual(first_lane(kinds[1], sums, a, b), held)

    def test_bytes_at_the_most(self):
        self.check((0, 1), MOST - 1, 1, 1, MOST, MOST)
        self.check((0, 1), MOST, 1, 1, LEAST, MOST)
        self.check((0, 1), MOST, 2, 1, LEAST + 1, MOST)
        a, b = bytes_in(255, 255, 255, 255), bytes_in(127, 127, 127, 127)
        self.check((0, 1), MOST - 129540, a, b, MOST, MOST)
        self.check((0, 1), MOST - 129539, a, b, LEAST, MOST)
        self.check((0, 1), MOST, a, b, LEAST + 129539, MOST)

    def test_bytes_at_the_least(self):
        self.check((0, 1), LEAST + 1, 1, 255, LEAST, LEAST)
        self.check((0, 1), LEAST, 1, 255, MOST, LEAST)
        self.check((0, 1), LEAST, 2, 255, MOST - 1, LEAST)
        a, b = bytes_in(255, 255, 255, 255), bytes_in(128, 128, 128, 128)
        self.check((0, 1), LEAST + 130560, a, b, LEAST, LEAST)
        self.check((0, 1), LEAST + 130559, a, b, MOST, LEAST)
        self.check((0, 1), LEAST, a, b, MOST - 130559, LEAST)

    def test_words_at_the_most(self):
        self.check((2, 3), MOST - 1, 1, 1, MOST, MOST)
        self.check((2, 3), MOST, 1, 1, LEAST, MOST)
        self.check((2, 3), MOST, 2, 1, LEAST + 1, MOST)
        both = words_in(32768, 32768)
        self.check((2, 3), 0, both, both, LEAST, MOST)
        self.check((2, 3), 4294967295, both, both, MOST, MOST)
        self.check((2, 3), 4294967294, both, both, MOST - 1, MOST - 1)
        self.check((2, 3), MOST, both, both, 4294967295, MOST)
        self.check((2, 3), LEAST, both, both, 0, 0)

    def test_words_at_the_least(self):
        self.check((2, 3), LEAST + 1, 1, 65535, LEAST, LEAST)
        self.check((2, 3), LEAST, 1, 65535, MOST, LEAST)
        self.check((2, 3), LEAST, 2, 65535, MOST - 1, LEAST)
        a, b = words_in(32768, 32768), words_in(32767, 32767)
        self.check((2, 3), bits(-65536), a, b, LEAST, LEAST)
        self.check((2, 3), bits(-65537), a, b, MOST, LEAST)
        self.check((2, 3), LEAST, a, b, 65536, LEAST)

    def test_bytes_past_midway_and_back(self):
        for first in range(4):
            for second in range(4):
                if first != second:
                    a = 255 * 256**first + 255 * 256**second
                    b = 127 * 256**first + 128 * 256**second
                    self.check((0, 1), MOST, a, b, MOST - 255, MOST - 255)
                    a = 250 * 256**first + 255 * 256**second
                    b = 128 * 256**first + 127 * 256**second
                    self.check((0, 1), LEAST, a, b, LEAST + 385, LEAST + 385)
        a, b = bytes_in(200, 200, 100, 100), bytes_in(127, 127, 128, 128)
        self.check((0, 1), MOST - 25200, a, b, MOST, MOST)
        a, b = bytes_in(100, 100, 200, 200), bytes_in(128, 128, 127, 127)
        self.check((0, 1), LEAST, a, b, LEAST + 25200, LEAST + 25200)

    def test_words_past_midway_and_back(self):
        a, b = words_in(32767, 32767), words_in(32767, 32768)
        self.check((2, 3), MOST, a, b, MOST - 32767, MOST - 32767)
        a, b = words_in(32767, 32767), words_in(32768, 32767)
        self.check((2, 3), MOST, a, b, MOST - 32767, MOST - 32767)
        a, b = words_in(32768, 32768), words_in(32767, 32768)
        self.check((2, 3), LEAST, a, b, LEAST + 32768, LEAST + 32768)
        a, b = words_in(32768, 32768), words_in(32768, 32767)
        self.check((2, 3), LEAST, a, b, LEAST + 32768, LEAST + 32768)


class Lanes(unittest.TestCase):
    SUMS = [100 + j for j in range(16)]
    A = [1 + j for j in range(16)]
    B = [2] * 16

    def test_no_lane(self):
        for kind in range(4):
            self.assertEqual(sum_of(0, kind, self.SUMS, self.A, self.B), self.SUMS)

    def test_all_lanes(self):
        for kind in range(4):
            told = [102 + 3 * j for j in range(16)]
            self.assertEqual(sum_of(ALL, kind, self.SUMS, self.A, self.B), told)

    def test_single_lanes(self):
        for kind in range(4):
            for j in range(16):
                told = list(self.SUMS)
                told[j] = 102 + 3 * j
                self.assertEqual(sum_of(2**j, kind, self.SUMS, self.A, self.B), told)

    def test_all_but_one(self):
        for kind in range(4):
            for j in range(16):
                told = [102 + 3 * i for i in range(16)]
                told[j] = 100 + j
                self.assertEqual(sum_of(ALL - 2**j, kind, self.SUMS, self.A, self.B), told)

    def test_lanes_outside_k_keep_their_bits(self):
        sums = [0, 1, MOST, LEAST, 4294967295, 0x7FC00001, 0xFFFFFFFE, 5] * 2
        full = [0xFFFFFFFF] * 16
        for kind in range(4):
            self.assertEqual(sum_of(0, kind, sums, full, full), sums)
            answer = sum_of(1, kind, sums, full, full)
            self.assertEqual(answer[1:], sums[1:])
            answer = sum_of(32768, kind, sums, full, full)
            self.assertEqual(answer[:15], sums[:15])

    def test_left_out(self):
        for kind in range(4):
            self.assertEqual(sum_of(ALL, kind, [], [], []), [0] * 16)
            self.assertEqual(sum_of(0, kind, [], [], []), [0] * 16)
            self.assertEqual(sum_of(ALL, kind, [7], [], []), [7] + [0] * 15)
            self.assertEqual(sum_of(ALL, kind, [], [7], [3]), [21] + [0] * 15)
            self.assertEqual(sum_of(ALL, kind, self.SUMS, [], self.B), self.SUMS)
            self.assertEqual(sum_of(ALL, kind, self.SUMS, self.A, []), self.SUMS)
            self.assertEqual(sum_of(ALL, kind, self.SUMS[:15], self.A, self.B),
                             [102 + 3 * j for j in range(15)] + [32])
            self.assertEqual(sum_of(0, kind, self.SUMS[:15], self.A, self.B), self.SUMS[:15] + [0])
            self.assertEqual(sum_of(ALL, kind, self.SUMS, self.A[:15], self.B),
                             [102 + 3 * j for j in range(15)] + [115])

    def test_unlike_lengths(self):
        lengths = (0, 1, 2, 8, 15, 16)
        for kind in (-1, 0, 1, 2, 3, 4):
            for p in lengths:
                for q in lengths:
                    for r in lengths:
                        sums = spread(p, 2**32, p)
                        a = spread(q, 2**32, q + 50)
                        b = spread(r, 2**32, r + 100)
                        for k in (0, 1, 0x8000, 0xA5C3, ALL):
                            found = sum_of(k, kind, sums, a, b)
                            self.assertEqual(found, expected(k, kind, sums, a, b), (kind, p, q, r, k))


class Many(unittest.TestCase):
    def test_against_pythons_own_reading(self):
        for seed in range(200):
            sums = spread(16, 2**32, seed)
            a = spread(16, 2**32, seed + 1000)
            b = spread(16, 2**32, seed + 2000)
            k = spread(1, 65536, seed + 3000)[0]
            for kind in range(4):
                self.assertEqual(sum_of(k, kind, sums, a, b), expected(k, kind, sums, a, b), (seed, kind))

    def test_near_the_ends(self):
        for seed in range(200):
            sums = [LEAST - 100000 + number for number in spread(16, 200000, seed)]
            a = spread(16, 2**32, seed + 1000)
            b = spread(16, 2**32, seed + 2000)
            for kind in range(4):
                self.assertEqual(sum_of(ALL, kind, sums, a, b), expected(ALL, kind, sums, a, b), (seed, kind))


if __name__ == "__main__":
    unittest.main()
