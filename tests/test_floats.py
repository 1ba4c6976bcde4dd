"""Point 8: floats. Its refusals, of point 1, lie in test_refusals.py."""

import unittest

from singles import (
    INFINITY, LEAST_NORMAL, MINUS_INFINITY, MINUS_ZERO, NAN, ZERO, added, bfloat16, single, stepped,
)
from smallproducts.products import floats
from support import spread

ONE = 0x3F80
INFINITE, MINUS_INFINITE = 0x7F80, 0xFF80
SIGN = 0x8000
LENGTHS = (0, 1, 2, 31, 32, 33, 63, 64, 65, 500)
NAN_BFLOATS = (0x7F81, 0x7FBF, 0x7FC0, 0x7FFF, 0xFF81, 0xFFC0, 0xFFFF)


def row(n, products):
    """One row of n products, those not named by their place +0; each is a pair of floats."""
    x, w = [0] * n, [0] * n
    for place, (p, q) in products.items():
        x[place], w[place] = bfloat16(p), bfloat16(q)
    answer = floats(1, n, x, w)
    assert len(answer) == 2 and answer[0] == 0
    return answer[1]


def numbers_row(n, numbers):
    """The same where each product is a bfloat16 itself."""
    return row(n, {place: (1.0, number) for place, number in numbers.items()})


def sums_row(numbers):
    """One row whose sixteen sums are these before they are added; those not named are +0."""
    return numbers_row(32, {2 * j: number for j, number in numbers.items()})


def expected_row(x, w):
    n = len(x)
    sums = [0] * 16
    for first in range(0, n, 32):
        for j in range(16):
            for place in (first + 2 * j + 1, first + 2 * j):
                p, q = (x[place], w[place]) if place < n else (0, 0)
                sums[j] = stepped(sums[j], p, q)
    eight = [added(sums[j], sums[j + 8]) for j in range(8)]
    four = [added(eight[j], eight[j + 4]) for j in range(4)]
    two = [added(four[j], four[j + 2]) for j in range(2)]
    return added(two[0], two[1])


def expected(rows, n, x, w):
    return [0] + [expected_row(x, w[n * i:n * i + n]) for i in range(rows)]


class Plain(unittest.TestCase):
    def test_no_rows(self):
        for n in LENGTHS:
            self.assertEqual(floats(0, n, [ONE] * n, []), [0])

    def test_no_numbers(self):
        for rows in (1, 2, 8):
            self.assertEqual(floats(rows, 0, [], []), [0] + [ZERO] * rows)

    def test_ones(self):
        for n in LENGTHS:
            for rows in (0, 1, 8):
                told = [0] + [single(float(n))] * rows
                self.assertEqual(floats(rows, n, [ONE] * n, [ONE] * (rows * n)), told, (rows, n))

    def test_written(self):
        x = [bfloat16(number) for number in (1.0, 2.0, -3.0)]
        w = [bfloat16(number) for number in (4.0, 0.5, 1.5, -1.0, 8.0, 5.0)]
        self.assertEqual(floats(2, 3, x, w), [0, single(0.5), single(0.0)])
        self.assertEqual(floats(1, 3, x, w[:3]), [0, single(0.5)])
        self.assertEqual(floats(3, 1, x[:1], w[3:]), [0, single(-1.0), single(8.0), single(5.0)])
        self.assertEqual(floats(1, 2, [bfloat16(1.9921875)] * 2, [bfloat16(1.9921875)] * 2), [0, single(7.9376220703125)])

    def test_each_element_counts_once(self):
        for n in (1, 2, 31, 32, 33, 63, 64, 65):
            for place in range(n):
                self.assertEqual(row(n, {place: (3.0, 5.0)}), single(15.0), (n, place))

    def test_elements_of_unlike_places_do_not_meet(self):
        for n in (2, 32, 33, 65):
            x = [ONE] + [0] * (n - 1)
            for place in range(1, n):
                w = [0] * n
                w[place] = ONE
                self.assertEqual(floats(1, n, x, w), [0, ZERO])

    def test_rows_take_their_own_weights(self):
        for n in (1, 2, 31, 32, 33, 65):
            for place in (0, n // 2, n - 1):
                x = [0] * n
                x[place] = ONE
                w = [bfloat16(float(number % 251 + 1)) for number in range(8 * n)]
                told = [0] + [w[n * i + place] * 65536 for i in range(8)]
                self.assertEqual(floats(8, n, x, w), told, (n, place))


class OrderOfSteps(unittest.TestCase):
    def test_odd_element_first(self):
        # 2^-127 is 0 if it comes first, and counts if it comes second.
        least, half = (2.0**-63, 2.0**-63), (2.0**-63, 2.0**-64)
        for j in range(16):
            n = 2 * j + 2
            self.assertEqual(row(n, {2 * j + 1: half, 2 * j: least}), LEAST_NORMAL, j)
            self.assertEqual(row(n, {2 * j + 1: least, 2 * j: half}), single(1.5 * 2.0**-126), j)

    def test_blocks_one_after_the_other(self):
        big = 2.0**24
        for j in range(16):
            odd, even = 2 * j + 1, 2 * j
            # 1 is lost beside 2^24, in whichever order they come.
            self.assertEqual(numbers_row(64, {odd: 1.0, even: big, odd + 32: -big}), ZERO)
            self.assertEqual(numbers_row(64, {odd: big, even: 1.0, even + 32: -big}), ZERO)
            # Not so where 2^24 is taken back first.
            self.assertEqual(numbers_row(64, {odd: big, even: -big, odd + 32: 1.0}), single(1.0))
            self.assertEqual(numbers_row(64, {odd: big, even: -big, even + 32: 1.0}), single(1.0))
            self.assertEqual(numbers_row(64, {even: big, odd + 32: -big, even + 32: 1.0}), single(1.0))
            # In the second block the odd element comes first as well.
            self.assertEqual(numbers_row(64, {even: big, odd + 32: 1.0, even + 32: -big}), ZERO)

    def test_third_block(self):
        big = 2.0**24
        self.assertEqual(numbers_row(65, {0: big, 32: 1.0, 64: -big}), ZERO)
        self.assertEqual(numbers_row(65, {0: big, 32: -big, 64: 1.0}), single(1.0))
        self.assertEqual(numbers_row(65, {0: 1.0, 32: big, 64: -big}), ZERO)

    def test_each_step_rounds(self):
        # Twice half of a last bit, each of them a tie that goes back to 1.
        half = 2.0**-24
        self.assertEqual(numbers_row(34, {0: 1.0, 33: half, 32: half}), single(1.0))
        self.assertEqual(numbers_row(96, {1: 1.0, 0: half, 33: half, 32: half, 65: half, 64: half}), single(1.0))
        self.assertEqual(numbers_row(34, {1: 1.0, 0: 2 * half, 33: half, 32: half}), 0x3F800002)

    def test_products_are_exact(self):
        # 2^128 by itself would be an infinity.
        self.assertEqual(row(34, {1: (-2.0**127, 1.0), 0: (2.0**64, 2.0**64)}), single(2.0**127))
        self.assertEqual(row(34, {0: (-2.0**127, 1.0), 33: (2.0**64, 2.0**64)}), single(2.0**127))


def round_of(first, second):
    """In which round of adding two sums come together."""
    return next(turn for turn, distance in enumerate((8, 4, 2, 1)) if first % distance == second % distance)


class OrderOfAdding(unittest.TestCase):
    def test_written(self):
        big = 2.0**24
        self.assertEqual(sums_row({0: big, 8: 1.0, 4: -big}), ZERO)
        self.assertEqual(sums_row({0: big, 4: 1.0, 8: -big}), single(1.0))
        self.assertEqual(sums_row({0: big, 4: 1.0, 2: -big}), ZERO)
        self.assertEqual(sums_row({0: big, 2: 1.0, 4: -big}), single(1.0))
        self.assertEqual(sums_row({0: big, 2: 1.0, 1: -big}), ZERO)
        self.assertEqual(sums_row({0: big, 1: 1.0, 2: -big}), single(1.0))
        self.assertEqual(sums_row({7: big, 15: 1.0, 14: -big}), ZERO)
        self.assertEqual(sums_row({7: big, 14: 1.0, 15: -big}), single(1.0))

    def test_any_three(self):
        # 1 is lost if it meets 2^24 ahead of -2^24; else those two cancel, or
        # 1 - 2^24 is exact.
        big = 2.0**24
        for first in range(16):
            for second in range(16):
                for third in range(16):
                    if len({first, second, third}) == 3:
                        lost = round_of(first, second) < round_of(first, third)
                        found = sums_row({first: big, second: 1.0, third: -big})
                        self.assertEqual(found, ZERO if lost else single(1.0), (first, second, third))

    def test_all_sums_are_done_with_steps_first(self):
        # Sum 0 takes its second block ahead of sum 8.
        big = 2.0**24
        self.assertEqual(numbers_row(64, {0: big, 16: 1.0, 32: -big}), single(1.0))
        self.assertEqual(numbers_row(64, {0: big, 32: 1.0, 16: -big}), ZERO)


class Adding(unittest.TestCase):
    PAIRS = ((0, 8), (7, 15), (0, 4), (3, 7), (0, 2), (1, 3), (0, 1))

    def test_ties(self):
        for p, q in self.PAIRS:
            for first, second in ((p, q), (q, p)):
                odd = {2 * first + 1: 1.0, 2 * first: 2.0**-23}
                self.assertEqual(numbers_row(32, {2 * first: 1.0, 2 * second: 2.0**-24}), 0x3F800000)
                self.assertEqual(numbers_row(32, {**odd, 2 * second: 2.0**-24}), 0x3F800002)
                self.assertEqual(numbers_row(32, {**odd, 2 * second: -2.0**-24}), 0x3F800000)
                self.assertEqual(numbers_row(32, {**odd, 2 * second: 255 * 2.0**-32}), 0x3F800001)
                self.assertEqual(numbers_row(32, {2 * first: 1.0, 2 * second: 129 * 2.0**-31}), 0x3F800001)
                self.assertEqual(numbers_row(32, {2 * first: 1.0, 2 * second: -2.0**-25}), 0x3F800000)
                self.assertEqual(numbers_row(32, {2 * first: 1.0, 2 * second: -129 * 2.0**-32}), 0x3F7FFFFF)

    def test_what_decides_is_far_below(self):
        # 2^-24 and 2^-47, just above the tie.
        found = numbers_row(32, {0: 1.0, 17: 2.0**-24, 16: 2.0**-47})
        self.assertEqual(found, 0x3F800001)
        found = numbers_row(32, {0: 1.0, 17: 2.0**-24, 16: -2.0**-48})
        self.assertEqual(found, 0x3F800000)

    def test_each_adding_rounds(self):
        # Ties all, one after the other.
        half = 2.0**-24
        self.assertEqual(sums_row({0: 1.0, 8: half, 4: half, 2: half, 1: half}), single(1.0))
        # Here the halves meet each other ahead of 1.
        self.assertEqual(sums_row({0: 1.0, 4: half, 12: half}), 0x3F800001)
        self.assertEqual(sums_row({0: 1.0, 1: half, 3: half}), 0x3F800001)

    def test_cancelled(self):
        for p, q in self.PAIRS:
            self.assertEqual(sums_row({p: 1.5, q: -1.5}), ZERO)
            self.assertEqual(sums_row({p: -1.5, q: 1.5}), ZERO)
            self.assertEqual(sums_row({p: 1.0, q: -255 / 256}), single(2.0**-8))

    def test_to_an_infinity(self):
        for p, q in self.PAIRS:
            self.assertEqual(sums_row({p: 2.0**127, q: 2.0**127}), INFINITY)
            self.assertEqual(sums_row({p: -2.0**127, q: -2.0**127}), MINUS_INFINITY)
        # Once it is one it stays one.
        self.assertEqual(sums_row({0: 2.0**127, 8: 2.0**127, 4: -2.0**127}), INFINITY)
        self.assertEqual(sums_row({0: -2.0**127, 8: -2.0**127, 1: 2.0**127}), MINUS_INFINITY)
        self.assertEqual(sums_row({0: 2.0**127, 8: -2.0**127, 4: 2.0**127}), single(2.0**127))
        self.assertEqual(sums_row({0: 2.0**127, 8: 2.0**127, 4: -2.0**127, 12: -2.0**127}), NAN)

    def test_to_an_infinity_by_rounding(self):
        largest = {1: 2.0**127 * 255 / 128, 0: 2.0**120 - 2.0**112, 33: 2.0**112 - 2.0**104}
        self.assertEqual(numbers_row(64, largest), 0x7F7FFFFF)
        self.assertEqual(numbers_row(64, {**largest, 16: 2.0**103}), INFINITY)
        self.assertEqual(numbers_row(64, {**largest, 16: 255 * 2.0**95}), 0x7F7FFFFF)
        self.assertEqual(numbers_row(64, {**largest, 2: 2.0**103}), INFINITY)
        self.assertEqual(numbers_row(64, {**largest, 2: 255 * 2.0**95}), 0x7F7FFFFF)

    def test_below_the_least(self):
        for p, q in self.PAIRS:
            self.assertEqual(sums_row({p: 1.5 * 2.0**-126, q: -2.0**-126}), ZERO)
            self.assertEqual(sums_row({p: 2.0**-125, q: -2.0**-126}), LEAST_NORMAL)
        # 2^-127 is gone when more comes.
        self.assertEqual(sums_row({0: 1.5 * 2.0**-126, 8: -2.0**-126, 4: 2.0**-126}), LEAST_NORMAL)

    def test_sign_of_what_is_below_the_least(self):
        # The last adding's 0 keeps its sign, an earlier one's meets a +0.
        self.assertEqual(sums_row({0: -1.5 * 2.0**-126, 1: 2.0**-126}), MINUS_ZERO)
        self.assertEqual(sums_row({1: -1.5 * 2.0**-126, 0: 2.0**-126}), MINUS_ZERO)
        self.assertEqual(sums_row({0: -1.5 * 2.0**-126, 2: 2.0**-126}), ZERO)
        self.assertEqual(sums_row({0: -1.5 * 2.0**-126, 8: 2.0**-126}), ZERO)


class Zeros(unittest.TestCase):
    def test_rows_of_zeros(self):
        for n in LENGTHS:
            for p in (0, SIGN):
                for q in (0, SIGN):
                    self.assertEqual(floats(2, n, [p] * n, [q] * (2 * n)), [0, ZERO, ZERO], (n, p, q))

    def test_sums_begin_as_plus_0(self):
        self.assertEqual(floats(1, 32, [SIGN] * 32, [ONE] * 32), [0, ZERO])
        self.assertEqual(floats(1, 64, [ONE] * 64, [SIGN] * 64), [0, ZERO])

    def test_minus_0(self):
        # -2^-128 is -0; past n a step with +0 makes it +0, if it is not the one
        # ahead of the last element.
        p, q = bfloat16(2.0**-64), bfloat16(-2.0**-64)
        for n in range(1, 130):
            told = MINUS_ZERO if n % 32 in (0, 31) else ZERO
            self.assertEqual(floats(1, n, [p] * n, [q] * n), [0, told], n)

    def test_minus_0_and_one_plus_0(self):
        p, q = bfloat16(2.0**-64), bfloat16(-2.0**-64)
        for place in range(32):
            w = [q] * 32
            w[place] = 0
            # The odd element's +0 is followed by a step that makes it -0 again.
            told = ZERO if place % 2 == 0 else MINUS_ZERO
            self.assertEqual(floats(1, 32, [p] * 32, w), [0, told], place)
            w[place] = SIGN
            self.assertEqual(floats(1, 32, [p] * 32, w), [0, MINUS_ZERO], place)

    def test_numbers_past_n_change_no_sum_but_minus_0(self):
        for n in (1, 2, 31, 33, 63, 65):
            self.assertEqual(row(n, {0: (2.0, -3.0)}), single(-6.0))
            self.assertEqual(row(n, {n - 1: (2.0, -3.0)}), single(-6.0))


class Denormals(unittest.TestCase):
    def test_count_as_0(self):
        large = bfloat16(2.0**127)
        for bits in (0x0001, 0x0040, 0x007F, 0x8001, 0x807F):
            for n in (1, 2, 32, 33):
                self.assertEqual(floats(1, n, [bits] * n, [large] * n), [0, ZERO])
                self.assertEqual(floats(1, n, [large] * n, [bits] * n), [0, ZERO])
            self.assertEqual(floats(1, 2, [ONE, bits], [ONE, large]), [0, single(1.0)])
            self.assertEqual(floats(1, 2, [ONE, bits], [ONE, INFINITE]), [0, NAN])
        self.assertEqual(floats(1, 1, [0x0080], [large]), [0, single(2.0)])

    def test_keep_their_sign(self):
        # -2^-128 and then a denormal: -0 and -0, or -0 and +0.
        p, q = bfloat16(2.0**-64), bfloat16(-2.0**-64)
        for bits, told in ((0x807F, MINUS_ZERO), (0x8001, MINUS_ZERO), (0x007F, ZERO), (0x0001, ZERO)):
            x = [p] * 32
            w = [q] * 32
            x[0], w[0] = bits, ONE
            self.assertEqual(floats(1, 32, x, w), [0, told])
            x[0], w[0] = ONE, bits
            self.assertEqual(floats(1, 32, x, w), [0, told])


class Midway(unittest.TestCase):
    def test_below_the_least(self):
        small = (2.0**-63, 2.0**-64)
        for n in (32, 64, 500):
            self.assertEqual(row(n, {place: small for place in range(n)}), ZERO)
        self.assertEqual(row(2, {1: small, 0: small}), ZERO)
        self.assertEqual(row(34, {0: (2.0**-63, 2.0**-63), 33: small, 32: small}), single(2.0**-125))
        self.assertEqual(row(34, {1: (3 * 2.0**-64, 2.0**-63), 0: (-2.0**-63, 2.0**-63), 33: (2.0**-63, 2.0**-63)}),
                         LEAST_NORMAL)

    def test_past_the_most(self):
        large = 2.0**127
        self.assertEqual(numbers_row(34, {1: large, 0: large, 33: -large, 32: -large}), INFINITY)
        self.assertEqual(numbers_row(34, {1: -large, 0: -large, 33: large, 32: large}), MINUS_INFINITY)
        self.assertEqual(numbers_row(34, {1: large, 0: -large, 33: large, 32: -large}), ZERO)
        self.assertEqual(row(2, {1: (2.0**64, 2.0**64), 0: (-2.0**64, 2.0**64)}), INFINITY)
        self.assertEqual(row(2, {1: (-2.0**64, 2.0**64), 0: (2.0**64, 2.0**64)}), MINUS_INFINITY)
        # An infinity of a sum on the way, and one of the other sign in another sum.
        self.assertEqual(row(4, {1: (2.0**64, 2.0**64), 3: (-2.0**64, 2.0**64)}), NAN)


class Infinities(unittest.TestCase):
    def one_row(self, n, places):
        """Products of 1 but where a pair of bits is told."""
        x, w = [ONE] * n, [ONE] * n
        for place, (p, q) in places.items():
            x[place], w[place] = p, q
        answer = floats(1, n, x, w)
        self.assertEqual(floats(1, n, w, x), answer)
        self.assertEqual(len(answer), 2)
        return answer[1]

    def test_one(self):
        for n in (1, 2, 31, 32, 33, 65):
            for place in (0, n // 2, n - 1):
                self.assertEqual(self.one_row(n, {place: (INFINITE, ONE)}), INFINITY)
                self.assertEqual(self.one_row(n, {place: (MINUS_INFINITE, ONE)}), MINUS_INFINITY)
                self.assertEqual(self.one_row(n, {place: (MINUS_INFINITE, MINUS_INFINITE)}), INFINITY)
                self.assertEqual(self.one_row(n, {place: (INFINITE, MINUS_INFINITE)}), MINUS_INFINITY)

    def test_0_times_an_infinity(self):
        for n in (1, 2, 31, 32, 33, 65):
            for place in (0, n // 2, n - 1):
                for nought in (0, SIGN, 1, 0x807F):
                    self.assertEqual(self.one_row(n, {place: (INFINITE, nought)}), NAN)
                    self.assertEqual(self.one_row(n, {place: (MINUS_INFINITE, nought)}), NAN)

    def test_of_two_signs_within_a_sum(self):
        for first, second in ((0, 1), (0, 32), (1, 32), (0, 33), (30, 31), (31, 63)):
            self.assertEqual(self.one_row(64, {first: (INFINITE, ONE), second: (MINUS_INFINITE, ONE)}), NAN)
            self.assertEqual(self.one_row(64, {first: (MINUS_INFINITE, ONE), second: (INFINITE, ONE)}), NAN)
            self.assertEqual(self.one_row(64, {first: (INFINITE, ONE), second: (INFINITE, ONE)}), INFINITY)

    def test_of_two_signs_between_two_sums(self):
        for first in range(16):
            for second in range(16):
                if first != second:
                    places = {2 * first: (INFINITE, ONE), 2 * second + 1: (MINUS_INFINITE, ONE)}
                    self.assertEqual(self.one_row(32, places), NAN)
                    places[2 * second + 1] = (MINUS_INFINITE, SIGN + ONE)
                    self.assertEqual(self.one_row(32, places), INFINITY)

    def test_at_the_next_rows_beginning(self):
        for n in (1, 2, 3, 30, 31, 33, 63, 65):
            for bits, told in ((INFINITE, INFINITY), (MINUS_INFINITE, MINUS_INFINITY), (0x7FC0, NAN)):
                w = [ONE] * n + [bits] + [ONE] * (n - 1) + [ONE] * n
                self.assertEqual(floats(3, n, [ONE] * n, w), [0, single(float(n)), told, single(float(n))])
                w = [ONE] * n + [bits] * n + [ONE] * n
                self.assertEqual(floats(3, n, [ONE] * n, w), [0, single(float(n)), told, single(float(n))])

    def test_at_the_row_before(self):
        for n in (1, 2, 31, 33, 65):
            w = [ONE] * (n - 1) + [INFINITE] + [ONE] * n
            self.assertEqual(floats(2, n, [ONE] * n, w), [0, INFINITY, single(float(n))])


class Nans(unittest.TestCase):
    def test_in_x(self):
        for bits in NAN_BFLOATS:
            for n in (1, 2, 32, 33):
                for place in (0, n // 2, n - 1):
                    x = [ONE] * n
                    x[place] = bits
                    for other in (0, SIGN, ONE, INFINITE, 0x7FC0):
                        self.assertEqual(floats(2, n, x, [other] * (2 * n)), [0, NAN, NAN])

    def test_in_w(self):
        for bits in NAN_BFLOATS:
            for n in (1, 2, 32, 33):
                for i in range(3):
                    for place in (0, n // 2, n - 1):
                        w = [ONE] * (3 * n)
                        w[n * i + place] = bits
                        told = [0] + [single(float(n))] * 3
                        told[1 + i] = NAN
                        self.assertEqual(floats(3, n, [ONE] * n, w), told)
                        told = [0] + [ZERO] * 3
                        told[1 + i] = NAN
                        self.assertEqual(floats(3, n, [0] * n, w), told)

    def test_stays_one(self):
        # A NaN of the first block, and infinities and zeros behind it.
        for place in range(32):
            for bits in (0, ONE, INFINITE, MINUS_INFINITE):
                w = [ONE] * 32 + [bits] * 32
                w[place] = 0x7FC0
                self.assertEqual(floats(1, 64, [ONE] * 64, w), [0, NAN])

    def test_refusal_and_nan_are_told_apart(self):
        self.assertEqual(floats(1, 1, [0x7FC0], [ONE]), [0, -1])
        self.assertEqual(floats(1025, 1, [], []), [-1])


class Many(unittest.TestCase):
    def check(self, rows, n, x, w):
        self.assertEqual(floats(rows, n, x, w), expected(rows, n, x, w), (rows, n))

    def near(self, count, first, span, seed):
        """count bfloat16s whose exponents lie at first and up to span - 1 above."""
        return [bits & 0x807F | (first + (bits >> 7 & 0xFF) % span) << 7 for bits in spread(count, 65536, seed)]

    def test_rows_and_numbers(self):
        for rows in (0, 1, 8):
            for n in LENGTHS:
                self.check(rows, n, self.near(n, 120, 14, n), self.near(rows * n, 120, 14, n + 1000))

    def test_all_lengths(self):
        for n in range(130):
            self.check(2, n, self.near(n, 116, 20, n + 7), self.near(2 * n, 116, 20, n + 2000))

    def test_near_the_ends(self):
        for seed in range(60):
            for n in (2, 5, 33, 64):
                self.check(2, n, self.near(n, 60, 6, seed), self.near(2 * n, 60, 6, seed + 1000))
                self.check(2, n, self.near(n, 186, 4, seed), self.near(2 * n, 186, 4, seed + 1000))

    def test_any_bits(self):
        for seed in range(200):
            for n in (1, 3, 8):
                self.check(4, n, spread(n, 65536, seed), spread(4 * n, 65536, seed + 1000))


if __name__ == "__main__":
    unittest.main()
