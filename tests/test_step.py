"""Point 7: step."""

import unittest

from singles import (
    INFINITY, LARGEST, LARGEST_DENORMAL, LEAST_NORMAL, MINUS, MINUS_INFINITY, MINUS_ZERO, NAN, ZERO, bfloat16,
    single, stepped,
)
from smallproducts.products import step
from support import spread

ALL = 65535

# A product of -0, that leaves every single as it is, -0 too.
NOTHING = (0x8000, 0x0000)

# Pairs of bfloat16s whose product lies next to 1: 217 * 151 is 2^15 - 1, and
# 226 * 145 is 2^15 + 2.
JUST_BELOW_1 = (217 / 2**7, 151 / 2**8)
JUST_ABOVE_1 = (226 / 2**7, 145 / 2**8)

INFINITE, MINUS_INFINITE = 0x7F80, 0xFF80
SIGN = 0x8000

NAN_SINGLES = (0x7F800001, 0x7F810000, 0x7FBFFFFF, 0x7FC00000, 0x7FFFFFFF, 0xFF800001, 0xFFC00000, 0xFFFFFFFF)
NAN_BFLOATS = (0x7F81, 0x7FBF, 0x7FC0, 0x7FFF, 0xFF81, 0xFFC0, 0xFFFF)


def pair(first, second):
    return bfloat16(first), bfloat16(second)


def power(exponent, sign=1):
    """Two bfloat16s whose product is 2^exponent, below 2^-126 and past 2^127 too."""
    half = exponent // 2
    return pair(sign * 2.0**half, 2.0**(exponent - half))


def scaled(factors, exponent, sign=1):
    """Two factors near 1 made a product of about 2^exponent."""
    half = exponent // 2
    return pair(sign * factors[0] * 2.0**half, factors[1] * 2.0**(exponent - half))


def in_two_steps(sums, upper, lower):
    """The first lane, asked for by itself; the others are to be 0."""
    answer = step(1, [sums], [upper[0] * 65536 + lower[0]], [upper[1] * 65536 + lower[1]])
    assert answer[1:] == [0] * 15
    return answer[0]


def turned(bits):
    """With the other sign."""
    return bits if bits == NAN else bits ^ MINUS


class OneStep(unittest.TestCase):
    """What one step answers, be it the first or the second, and its factors in both orders."""

    def check_as_it_stands(self, sums, factors, told):
        p, q = factors
        self.assertEqual(in_two_steps(sums, (p, q), NOTHING), told)
        self.assertEqual(in_two_steps(sums, (q, p), NOTHING), told)
        self.assertEqual(in_two_steps(sums, NOTHING, (p, q)), told)
        self.assertEqual(in_two_steps(sums, NOTHING, (q, p)), told)
        self.assertEqual(in_two_steps(sums, (p ^ SIGN, q ^ SIGN), NOTHING), told)

    def check(self, sums, factors, told):
        """Also with all signs turned, that of the answer too."""
        p, q = factors
        self.check_as_it_stands(sums, (p, q), told)
        self.check_as_it_stands(sums ^ MINUS, (p ^ SIGN, q), turned(told))


class Plain(OneStep):
    def test_written(self):
        self.check(single(1.0), pair(2.0, 3.0), single(7.0))
        self.check(single(1.0), pair(-2.0, 3.0), single(-5.0))
        self.check(single(0.5), pair(1.5, -1.5), single(-1.75))
        self.check(ZERO, pair(1.9921875, 1.9921875), single(3.96881103515625))
        self.check(single(16777215.0), pair(1.0, 1.0), single(16777216.0))
        self.check(single(100.0), pair(0.0, 5.0), single(100.0))

    def test_both_products(self):
        self.assertEqual(in_two_steps(single(1.0), pair(2.0, 3.0), pair(10.0, 20.0)), single(207.0))
        self.assertEqual(in_two_steps(single(-0.25), pair(0.5, 0.5), pair(-1.0, 3.0)), single(-3.0))
        # An upper half meets an upper one alone, a lower half a lower one.
        one = bfloat16(1.0)
        self.assertEqual(in_two_steps(single(5.0), (one, 0), (0, one)), single(5.0))
        self.assertEqual(in_two_steps(single(5.0), (0, one), (one, 0)), single(5.0))


class Order(unittest.TestCase):
    def test_upper_first(self):
        # 1 + 2^24 is a tie that goes down to 2^24; 1 - 2^24 is exact.
        self.assertEqual(in_two_steps(single(1.0), power(24), power(24, -1)), ZERO)
        self.assertEqual(in_two_steps(single(1.0), power(24, -1), power(24)), single(1.0))
        self.assertEqual(in_two_steps(single(1.0), power(127), power(127, -1)), ZERO)
        self.assertEqual(in_two_steps(ZERO, power(24), power(0)), single(2.0**24))

    def test_infinities_on_the_way(self):
        self.assertEqual(in_two_steps(single(2.0**127), power(127), power(127, -1)), INFINITY)
        self.assertEqual(in_two_steps(single(2.0**127), power(127, -1), power(127)), single(2.0**127))

    def test_two_roundings(self):
        # Twice half of a last bit: each by itself is a tie that goes back to 1.
        self.assertEqual(in_two_steps(single(1.0), power(-24), power(-24)), single(1.0))
        self.assertEqual(in_two_steps(0x3F800001, power(-24), power(-24)), 0x3F800002)
        self.assertEqual(in_two_steps(single(-1.0), power(-24, -1), power(-24, -1)), single(-1.0))
        # The first is rounded up, so the second has nothing left to take back.
        self.assertEqual(in_two_steps(0x3F800001, power(-24), power(-25, -1)), 0x3F800002)

    def test_products_are_not_rounded_by_themselves(self):
        self.assertEqual(in_two_steps(MINUS + LARGEST, power(128), NOTHING), single(2.0**104))
        self.assertEqual(in_two_steps(MINUS + LARGEST, NOTHING, power(128)), single(2.0**104))
        self.assertEqual(in_two_steps(LARGEST, power(128, -1), NOTHING), single(-2.0**104))
        self.assertEqual(in_two_steps(LEAST_NORMAL, power(-127, -1), NOTHING), ZERO)
        self.assertEqual(in_two_steps(single(2.0**-104), power(-127), NOTHING), single(2.0**-104) + 1)
        self.assertEqual(in_two_steps(single(2.0**-104), NOTHING, power(-127)), single(2.0**-104) + 1)
        self.assertEqual(in_two_steps(single(1.5 * 2.0**-126), power(-127, -1), NOTHING), LEAST_NORMAL)
        # All sixteen bits of a product count.
        self.assertEqual(in_two_steps(single(-1.0), scaled(JUST_BELOW_1, 0), NOTHING), single(-2.0**-15))
        self.assertEqual(in_two_steps(single(-1.0), scaled(JUST_ABOVE_1, 0), NOTHING), single(2.0**-14))


class Ties(OneStep):
    def test_to_the_even_one(self):
        self.check(0x3F800000, power(-24), 0x3F800000)
        self.check(0x3F800001, power(-24), 0x3F800002)
        self.check(0x3F800002, power(-24), 0x3F800002)
        self.check(0x3F800001, power(-24, -1), 0x3F800000)
        self.check(0x3F800002, power(-24, -1), 0x3F800002)
        self.check(0x3F800003, power(-24, -1), 0x3F800002)

    def test_next_to_a_tie(self):
        for bits in (0x3F800000, 0x3F800001, 0x3F800002):
            self.check(bits, scaled(JUST_BELOW_1, -24), bits)
            self.check(bits, scaled(JUST_ABOVE_1, -24), bits + 1)
        for bits in (0x3F800001, 0x3F800002, 0x3F800003):
            self.check(bits, scaled(JUST_BELOW_1, -24, -1), bits)
            self.check(bits, scaled(JUST_ABOVE_1, -24, -1), bits - 1)

    def test_below_a_power_of_two_bits_are_half_as_large(self):
        self.check(0x3F800000, power(-25, -1), 0x3F800000)
        self.check(0x3F800000, scaled(JUST_BELOW_1, -25, -1), 0x3F800000)
        self.check(0x3F800000, scaled(JUST_ABOVE_1, -25, -1), 0x3F7FFFFF)
        self.check(0x3F800000, power(-24, -1), 0x3F7FFFFF)

    def test_into_the_next_exponent(self):
        self.check(0x3FFFFFFF, power(-24), 0x40000000)
        self.check(0x3FFFFFFF, scaled(JUST_BELOW_1, -24), 0x3FFFFFFF)
        self.check(0x3FFFFFFE, power(-24), 0x3FFFFFFE)
        self.check(0x3FFFFFFF, power(-23), 0x40000000)

    def test_carried_past_the_last_bit(self):
        # 1 + (2 - 2^-23) is a tie between 3 - 2^-22 and 3; the fraction of 3 is even.
        self.check(0x3FFFFFFF, power(0), 0x40400000)
        self.check(0x3FFFFFFD, power(0), 0x403FFFFE)

    def test_single_below_the_product(self):
        # What decides is the last bit of a single far below.
        tie = single(2.0**-24)
        self.check(tie, power(0), 0x3F800000)
        self.check(tie + 1, power(0), 0x3F800001)
        self.check(tie - 1, power(0), 0x3F800000)
        self.check(MINUS + single(2.0**-25), power(0), 0x3F800000)
        self.check(MINUS + single(2.0**-25) + 1, power(0), 0x3F7FFFFF)
        self.check(MINUS + single(2.0**-25) - 1, power(0), 0x3F800000)

    def test_single_below_a_product_of_sixteen_bits(self):
        # 255 * 255 / 2^14 is 0x407E0100, its last bit 2^-22.
        factors = pair(255 / 2**7, 255 / 2**7)
        tie = single(2.0**-23)
        self.check(tie, factors, 0x407E0100)
        self.check(tie + 1, factors, 0x407E0101)
        self.check(tie - 1, factors, 0x407E0100)
        self.check(single(3 * 2.0**-23), factors, 0x407E0102)
        self.check(single(3 * 2.0**-23) - 1, factors, 0x407E0101)

    def test_large_single_and_small_product(self):
        for bits in (single(1.0), 0x3F800001, single(2.0**127), LARGEST, 0x7F7FFFFE, single(2.0**-60)):
            for sign in (1, -1):
                self.check(bits, power(-252, sign), bits)
                self.check(bits, power(-150, sign), bits)

    def test_small_single_and_large_product(self):
        for bits in (LEAST_NORMAL, LEAST_NORMAL + 1, single(2.0**-100)):
            for exponent in (0, 1, 64, 126, 127):
                self.check(bits, power(exponent), single(2.0**exponent))
                self.check(MINUS + bits, power(exponent), single(2.0**exponent))


class Cancelled(OneStep):
    def test_to_an_exact_0(self):
        for number in (1.0, 1.5, 2.0**127, 2.0**-126, 255.0):
            p, q = pair(number, 1.0)
            self.check_as_it_stands(single(-number), (p, q), ZERO)
            self.check_as_it_stands(single(number), (p ^ SIGN, q), ZERO)
        self.check_as_it_stands(single(-65025.0), pair(255.0, 255.0), ZERO)
        self.check_as_it_stands(single(65025.0), pair(-255.0, 255.0), ZERO)

    def test_to_a_small_number(self):
        self.check(0x3F800001, pair(-1.0, 1.0), single(2.0**-23))
        self.check(0x3F7FFFFF, pair(-1.0, 1.0), single(-2.0**-24))
        self.check(single(65026.0), pair(-255.0, 255.0), single(1.0))
        self.check(single(2.0**-100) + 1, power(-100, -1), single(2.0**-123))
        self.check(single(2.0**-103) + 1, power(-103, -1), LEAST_NORMAL)

    def test_to_a_number_below_the_normal_ones(self):
        self.check(single(2.0**-104) + 1, power(-104, -1), ZERO)
        self.check(LEAST_NORMAL + 1, power(-126, -1), ZERO)
        self.check(single(2.0**-125), scaled((1.9921875, 1.0), -126, -1), ZERO)

    def test_in_the_second_step(self):
        self.assertEqual(in_two_steps(ZERO, pair(1.5, 1.5), pair(-1.5, 1.5)), ZERO)
        self.assertEqual(in_two_steps(ZERO, pair(-1.5, 1.5), pair(1.5, 1.5)), ZERO)
        self.assertEqual(in_two_steps(MINUS_ZERO, pair(-1.5, 1.5), pair(1.5, 1.5)), ZERO)
        self.assertEqual(in_two_steps(single(1.0), pair(2.0, 3.0), pair(-1.0, 7.0)), ZERO)


class Zeros(unittest.TestCase):
    # Denormals, 0 and a normal number: with one of the first two a product is 0.
    NOUGHTS = (0x0000, 0x0001, 0x0040, 0x007F)
    OTHERS = (0x0000, 0x0001, 0x007F, 0x0080, 0x3F80, 0x7F7F)

    def test_one_step(self):
        for sums in (0, 1, LARGEST_DENORMAL):
            for nought in self.NOUGHTS:
                for other in self.OTHERS:
                    for signs in range(8):
                        lane = sums + MINUS * (signs % 2)
                        p = nought + SIGN * (signs // 2 % 2)
                        q = other + SIGN * (signs // 4)
                        told = MINUS_ZERO if signs in (0b011, 0b101) else ZERO
                        for factors in ((p, q), (q, p)):
                            self.assertEqual(in_two_steps(lane, factors, NOTHING), told, (lane, factors))
                            self.assertEqual(in_two_steps(lane, NOTHING, factors), told, (lane, factors))

    def test_two_steps(self):
        products = {(0x0000, 0x0000): False, (0x8000, 0x8000): False, (0x8000, 0x0000): True, (0x0000, 0x8000): True}
        for sums in (ZERO, MINUS_ZERO):
            for upper, first in products.items():
                for lower, second in products.items():
                    told = MINUS_ZERO if sums and first and second else ZERO
                    self.assertEqual(in_two_steps(sums, upper, lower), told, (sums, upper, lower))

    def test_left_out_products_are_plus_0(self):
        self.assertEqual(step(1, [MINUS_ZERO], [], [])[0], ZERO)
        self.assertEqual(step(1, [MINUS_ZERO], [SIGN * 65536 + SIGN], [])[0], MINUS_ZERO)
        self.assertEqual(step(1, [MINUS_ZERO], [], [SIGN * 65536 + SIGN])[0], MINUS_ZERO)
        self.assertEqual(step(1, [MINUS_ZERO], [SIGN * 65536], [])[0], ZERO)
        self.assertEqual(step(1, [MINUS_ZERO], [SIGN], [])[0], ZERO)

    def test_numbers_stay(self):
        for sums in (LEAST_NORMAL, single(1.0), LARGEST, INFINITY):
            for factors in ((0, 0), (SIGN, 0), (SIGN, SIGN)):
                self.assertEqual(in_two_steps(sums, factors, factors), sums)
                self.assertEqual(in_two_steps(MINUS + sums, factors, factors), MINUS + sums)


class Small(OneStep):
    def test_at_the_least(self):
        self.check(ZERO, power(-126), LEAST_NORMAL)
        self.check(single(2.0**-125), power(-126, -1), LEAST_NORMAL)
        self.check(LEAST_NORMAL, power(-252), LEAST_NORMAL)
        self.check(LEAST_NORMAL, NOTHING, LEAST_NORMAL)

    def test_comes_there_by_rounding(self):
        # Just below 2^-126 24 bits count 2^-150.
        self.check(LEAST_NORMAL, power(-252, -1), LEAST_NORMAL)
        self.check(LEAST_NORMAL, power(-152, -1), LEAST_NORMAL)
        self.check(LEAST_NORMAL, scaled(JUST_BELOW_1, -151, -1), LEAST_NORMAL)
        self.check(LEAST_NORMAL, power(-151, -1), LEAST_NORMAL)

    def test_just_below(self):
        self.check(LEAST_NORMAL, scaled(JUST_ABOVE_1, -151, -1), ZERO)
        # Rounded by the place of denormals this would be a tie, and 2^-126.
        self.check(LEAST_NORMAL, power(-150, -1), ZERO)
        self.check(LEAST_NORMAL, power(-149, -1), ZERO)
        self.check(ZERO, scaled(JUST_BELOW_1, -126), ZERO)
        self.check(ZERO, power(-127), ZERO)
        self.check(ZERO, power(-252), ZERO)
        self.check(MINUS_ZERO, power(-127), ZERO)
        self.check(MINUS_ZERO, power(-252), ZERO)
        self.check(single(2.0**-125), scaled((255 / 2**7, 1.0), -126, -1), ZERO)

    def test_first_step_below(self):
        # 2^-127 is gone when the second step comes.
        self.assertEqual(in_two_steps(single(1.5 * 2.0**-126), power(-126, -1), power(-126)), LEAST_NORMAL)
        self.assertEqual(in_two_steps(ZERO, power(-127), power(-127)), ZERO)
        self.assertEqual(in_two_steps(MINUS_ZERO, power(-127, -1), power(-127, -1)), MINUS_ZERO)
        self.assertEqual(in_two_steps(LEAST_NORMAL, power(-127, -1), power(-127)), ZERO)
        self.assertEqual(in_two_steps(LEAST_NORMAL, power(-127), power(-127)), single(2.0**-125))

    def test_sign_of_what_is_left_of_the_first_step(self):
        self.assertEqual(in_two_steps(ZERO, power(-127, -1), NOTHING), MINUS_ZERO)
        self.assertEqual(in_two_steps(ZERO, power(-127, -1), (0, 0)), ZERO)
        self.assertEqual(in_two_steps(ZERO, power(-127), NOTHING), ZERO)
        self.assertEqual(in_two_steps(MINUS_ZERO, power(-127), NOTHING), ZERO)
        self.assertEqual(in_two_steps(MINUS + LEAST_NORMAL, power(-127), NOTHING), MINUS_ZERO)


class Large(OneStep):
    def test_at_the_most(self):
        self.check(ZERO, power(128), INFINITY)
        self.check(ZERO, power(254), INFINITY)
        self.check(single(2.0**127), power(127), INFINITY)
        self.check(LARGEST, power(104), INFINITY)
        self.check(LARGEST, power(254), INFINITY)
        self.check(MINUS + LARGEST, power(129), INFINITY)
        self.check(ZERO, (0x7F7F, 0x7F7F), INFINITY)
        self.check(MINUS + LARGEST, (0x7F7F, 0x7F7F), INFINITY)

    def test_comes_there_by_rounding(self):
        self.check(LARGEST, power(103), INFINITY)
        self.check(LARGEST, scaled(JUST_ABOVE_1, 103), INFINITY)
        self.check(single(2.0**103), power(128, -1), MINUS_INFINITY)
        self.check(single(2.0**102), power(128, -1), MINUS_INFINITY)
        self.check(single(2.0**103) - 1, power(128, -1), MINUS_INFINITY)

    def test_just_below(self):
        self.check(LARGEST, scaled(JUST_BELOW_1, 103), LARGEST)
        self.check(LARGEST, power(102), LARGEST)
        self.check(0x7F7FFFFE, power(103), 0x7F7FFFFE)
        self.check(0x7F7FFFFE, scaled(JUST_ABOVE_1, 103), LARGEST)
        self.check(single(2.0**103) + 1, power(128, -1), MINUS + LARGEST)
        self.check(single(2.0**104), power(128, -1), MINUS + LARGEST)
        self.check(ZERO, scaled((255 / 2**7, 255 / 2**7), 126), 0x7F7E0100)
        self.check(ZERO, (0x7F7F, 0x3F80), 0x7F7F0000)

    def test_first_step_past(self):
        self.assertEqual(in_two_steps(LARGEST, power(103), power(103, -1)), INFINITY)
        self.assertEqual(in_two_steps(LARGEST, power(103), power(254, -1)), INFINITY)
        self.assertEqual(in_two_steps(ZERO, power(128), power(128, -1)), INFINITY)
        self.assertEqual(in_two_steps(ZERO, power(128, -1), power(128)), MINUS_INFINITY)
        self.assertEqual(in_two_steps(ZERO, power(128), (MINUS_INFINITE, 0x3F80)), NAN)
        self.assertEqual(in_two_steps(ZERO, power(128), (INFINITE, 0x3F80)), INFINITY)
        self.assertEqual(in_two_steps(ZERO, power(128), (INFINITE, 0)), NAN)


class Denormals(OneStep):
    def test_singles(self):
        for bits in (1, 2, 0x00400000, 0x007FFFFE, LARGEST_DENORMAL):
            for sign in (0, MINUS):
                self.check(sign + bits, power(-126), LEAST_NORMAL)
                self.check(sign + bits, power(0), single(1.0))
                self.check(sign + bits, power(-127), ZERO)
            self.check_as_it_stands(bits, (0, 0), ZERO)
            self.check_as_it_stands(bits, NOTHING, ZERO)
            self.check_as_it_stands(MINUS + bits, (0, 0), ZERO)
            self.check_as_it_stands(MINUS + bits, NOTHING, MINUS_ZERO)
        self.check(LEAST_NORMAL, (0, 0), LEAST_NORMAL)

    def test_bfloat16s(self):
        for bits in (0x0001, 0x0002, 0x0040, 0x007E, 0x007F):
            self.check(single(1.0), (bits, bfloat16(2.0**127)), single(1.0))
            self.check(LEAST_NORMAL, (bits, bfloat16(1.0)), LEAST_NORMAL)
            self.check_as_it_stands(MINUS_ZERO, (bits, bfloat16(2.0**127)), ZERO)
            self.check_as_it_stands(MINUS_ZERO, (SIGN + bits, bfloat16(2.0**127)), MINUS_ZERO)
            self.check_as_it_stands(ZERO, (SIGN + bits, bfloat16(2.0**127)), ZERO)
            self.check(single(1.0), (bits, INFINITE), NAN)
        self.check(single(1.0), (0x0080, bfloat16(2.0**127)), single(3.0))
        self.check(single(1.0), (0x0081, bfloat16(2.0**127)), single(3.015625))


class Infinities(OneStep):
    def test_sum(self):
        for factors in ((0, 0), NOTHING, power(0), power(127), power(254), power(-252), (0x7F7F, 0xFF7F)):
            self.check(INFINITY, factors, INFINITY)
            self.check(MINUS_INFINITY, factors, MINUS_INFINITY)

    def test_product(self):
        for sums in (ZERO, MINUS_ZERO, 1, LEAST_NORMAL, single(-5.0), LARGEST, MINUS + LARGEST):
            for other in (0x0080, 0x3F80, 0x7F7F, INFINITE):
                self.check(sums, (INFINITE, other), INFINITY)
                self.check(sums, (MINUS_INFINITE, other), MINUS_INFINITY)

    def test_sum_and_product(self):
        for other in (0x0080, 0x3F80, 0x7F7F, INFINITE):
            self.check(INFINITY, (INFINITE, other), INFINITY)
            self.check(INFINITY, (MINUS_INFINITE, other), NAN)
            self.check(INFINITY, (INFINITE, SIGN + other), NAN)
            self.check(INFINITY, (MINUS_INFINITE, SIGN + other), INFINITY)

    def test_0_times_an_infinity(self):
        for sums in (ZERO, MINUS_ZERO, single(1.0), LARGEST, INFINITY, MINUS_INFINITY):
            for nought in (0x0000, 0x8000, 0x0001, 0x807F):
                self.check(sums, (nought, INFINITE), NAN)
                self.check(sums, (nought, MINUS_INFINITE), NAN)

    def test_of_two_signs_in_two_steps(self):
        one = bfloat16(1.0)
        self.assertEqual(in_two_steps(ZERO, (INFINITE, one), (MINUS_INFINITE, one)), NAN)
        self.assertEqual(in_two_steps(ZERO, (MINUS_INFINITE, one), (INFINITE, one)), NAN)
        self.assertEqual(in_two_steps(ZERO, (INFINITE, one), (INFINITE, one)), INFINITY)
        self.assertEqual(in_two_steps(ZERO, (INFINITE, one), power(254, -1)), INFINITY)
        self.assertEqual(in_two_steps(ZERO, power(254, -1), (INFINITE, one)), NAN)


class Nans(OneStep):
    FACTORS = ((0, 0), NOTHING, pair(1.0, -2.0), (INFINITE, 0x3F80), (MINUS_INFINITE, 0x3F80), (INFINITE, 0))

    def test_sum(self):
        for bits in NAN_SINGLES:
            for upper in self.FACTORS:
                for lower in self.FACTORS:
                    self.assertEqual(in_two_steps(bits, upper, lower), NAN)

    def test_factors(self):
        for bits in NAN_BFLOATS:
            for sums in (ZERO, single(1.0), INFINITY, MINUS_INFINITY, 0x7FC00000):
                for other in (0x0000, 0x8000, 0x0001, 0x3F80, INFINITE, MINUS_INFINITE, 0x7FC0):
                    self.check(sums, (bits, other), NAN)

    def test_stays_one_in_the_second_step(self):
        for lower in self.FACTORS:
            self.assertEqual(in_two_steps(single(1.0), (0x7FC0, 0x3F80), lower), NAN)
            self.assertEqual(in_two_steps(single(1.0), (0x3F80, 0xFF81), lower), NAN)
            self.assertEqual(in_two_steps(single(1.0), (INFINITE, 0), lower), NAN)
            self.assertEqual(in_two_steps(INFINITY, (MINUS_INFINITE, 0x3F80), lower), NAN)

    def test_not_in_k(self):
        full = [0xFFFFFFFF] * 16
        for bits in NAN_SINGLES:
            self.assertEqual(step(0, [bits] * 16, full, full), [bits] * 16)
            self.assertEqual(step(0, [bits] * 16, [], []), [bits] * 16)
            for j in range(16):
                told = [bits] * 16
                told[j] = NAN
                self.assertEqual(step(2**j, [bits] * 16, full, full), told)
                self.assertEqual(step(2**j, [bits] * 16, [], []), told)

    def test_other_lanes_are_told_as_ever(self):
        sums = [single(1.0 + j) for j in range(16)]
        ones = [0x3F803F80] * 16
        for j in range(16):
            told = [single(3.0 + i) for i in range(16)]
            told[j] = NAN
            a = list(ones)
            a[j] = 0x7FC03F80
            self.assertEqual(step(ALL, sums, a, ones), told)
            self.assertEqual(step(ALL, sums, ones, a), told)
            told[j] = sums[j]
            self.assertEqual(step(ALL - 2**j, sums, a, ones), told)


class Lanes(unittest.TestCase):
    SUMS = [single(100.0 + j) for j in range(16)]
    A = [bfloat16(1.0 + j) * 65536 + bfloat16(2.0) for j in range(16)]
    B = [bfloat16(3.0) * 65536 + bfloat16(-1.0 - j) for j in range(16)]
    # 100 + j, and 3 (1 + j), and -2 (1 + j).
    TOLD = [single(101.0 + 2 * j) for j in range(16)]

    def test_no_lane(self):
        self.assertEqual(step(0, self.SUMS, self.A, self.B), self.SUMS)

    def test_all_lanes(self):
        self.assertEqual(step(ALL, self.SUMS, self.A, self.B), self.TOLD)

    def test_single_lanes(self):
        for j in range(16):
            told = list(self.SUMS)
            told[j] = self.TOLD[j]
            self.assertEqual(step(2**j, self.SUMS, self.A, self.B), told)

    def test_all_but_one(self):
        for j in range(16):
            told = list(self.TOLD)
            told[j] = self.SUMS[j]
            self.assertEqual(step(ALL - 2**j, self.SUMS, self.A, self.B), told)

    def test_lanes_outside_k_keep_their_bits(self):
        sums = [1, 0x80000001, LARGEST_DENORMAL, MINUS_ZERO, 0x7F800001, 0xFFFFFFFF, INFINITY, LARGEST] * 2
        for a in ([], self.A, [0xFFFFFFFF] * 16):
            self.assertEqual(step(0, sums, a, self.B), sums)
            self.assertEqual(step(1, sums, a, self.B)[1:], sums[1:])
            self.assertEqual(step(32768, sums, a, self.B)[:15], sums[:15])

    def test_left_out(self):
        self.assertEqual(step(ALL, [], [], []), [0] * 16)
        self.assertEqual(step(0, [], [], []), [0] * 16)
        self.assertEqual(step(ALL, self.SUMS, [], []), self.SUMS)
        self.assertEqual(step(ALL, self.SUMS, self.A, []), self.SUMS)
        self.assertEqual(step(ALL, self.SUMS, [], self.B), self.SUMS)
        self.assertEqual(step(ALL, self.SUMS[:1], [], []), self.SUMS[:1] + [0] * 15)
        self.assertEqual(step(ALL, self.SUMS[:15], self.A, self.B), self.TOLD[:15] + [single(16.0)])
        self.assertEqual(step(0, self.SUMS[:15], self.A, self.B), self.SUMS[:15] + [0])
        self.assertEqual(step(ALL, self.SUMS, self.A[:15], self.B), self.TOLD[:15] + self.SUMS[15:])
        self.assertEqual(step(ALL, self.SUMS, self.A, self.B[:1]), self.TOLD[:1] + self.SUMS[1:])
        self.assertEqual(step(ALL, [], self.A, self.B), [single(1.0 + j) for j in range(16)])

    def test_left_out_beside_an_infinity(self):
        infinite = [INFINITE * 65536] * 16
        self.assertEqual(step(ALL, [], infinite, [bfloat16(1.0) * 65536]), [INFINITY] + [NAN] * 15)
        self.assertEqual(step(ALL, [], [bfloat16(1.0) * 65536], infinite), [INFINITY] + [NAN] * 15)


def expected(k, sums, a, b):
    sums, a, b = [each + [0] * (16 - len(each)) for each in (sums, a, b)]
    answer = []
    for j in range(16):
        if f"{k:016b}"[15 - j] == "1":
            upper = stepped(sums[j], a[j] >> 16, b[j] >> 16)
            answer.append(stepped(upper, a[j] & 0xFFFF, b[j] & 0xFFFF))
        else:
            answer.append(sums[j])
    return answer


class Many(unittest.TestCase):
    SINGLES = [
        0, 1, LARGEST_DENORMAL, LEAST_NORMAL, LEAST_NORMAL + 1, 0x00FFFFFF, 0x01000000, 0x3F000000, 0x3F7FFFFF,
        0x3F800000, 0x3F800001, 0x3F800002, 0x3FFFFFFF, 0x7F000000, 0x7F7FFFFE, LARGEST, INFINITY, 0x7F800001,
    ]
    BFLOATS = [0, 1, 0x007F, 0x0080, 0x0081, 0x00FF, 0x1F80, 0x2000, 0x3380, 0x3F7F, 0x3F80, 0x3F81, 0x3FFF, 0x5F7F,
               0x5F80, 0x7F00, 0x7F7F, INFINITE, 0x7F81]

    def check(self, k, sums, a, b):
        self.assertEqual(step(k, sums, a, b), expected(k, sums, a, b), (k, sums, a, b))

    def test_edges(self):
        singles = self.SINGLES + [MINUS + bits for bits in self.SINGLES]
        bfloats = self.BFLOATS + [SIGN + bits for bits in self.BFLOATS]
        lanes = [(bits, p * 65536, q * 65536) for bits in singles for p in bfloats for q in self.BFLOATS]
        for at in range(0, len(lanes), 16):
            sums, a, b = [list(each) for each in zip(*lanes[at:at + 16])]
            # The lower halves leave the upper product as it is.
            self.check(ALL, sums, [number + SIGN for number in a], b)

    def test_unlike_lengths(self):
        lengths = (0, 1, 2, 8, 15, 16)
        for p in lengths:
            for q in lengths:
                for r in lengths:
                    for k in (0, 1, 0x8000, 0xA5C3, ALL):
                        self.check(k, spread(p, 2**32, p), spread(q, 2**32, q + 50), spread(r, 2**32, r + 100))

    def test_spread(self):
        for seed in range(500):
            k = spread(1, 65536, seed + 3000)[0]
            self.check(k, spread(16, 2**32, seed), spread(16, 2**32, seed + 1000), spread(16, 2**32, seed + 2000))

    def test_near_one_another(self):
        # Exponents from 120 to 135 in all three, so that bits meet, cancel and tie.
        for seed in range(500):
            sums = [near(number, 120, 16) for number in spread(16, 2**32, seed)]
            a = [both_near(number, 120, 16) for number in spread(16, 2**32, seed + 1000)]
            b = [both_near(number, 120, 16) for number in spread(16, 2**32, seed + 2000)]
            self.check(ALL, sums, a, b)

    def test_near_the_ends(self):
        for seed in range(300):
            for first, second, third in ((1, 64, 64), (240, 188, 188), (1, 1, 120), (250, 254, 120)):
                sums = [near(number, first, 8 if first < 250 else 5) for number in spread(16, 2**32, seed)]
                a = [both_near(number, second, 4 if second < 254 else 1) for number in spread(16, 2**32, seed + 1000)]
                b = [both_near(number, third, 8) for number in spread(16, 2**32, seed + 2000)]
                self.check(ALL, sums, a, b)


def near(number, first, count):
    """The single's exponent brought to first and up to count - 1 above."""
    exponent = first + (number >> 23) % 256 % count
    return number & 0x807FFFFF | exponent << 23


def both_near(number, first, count):
    """The same of the two bfloat16s of a lane, the lower one's fraction spread as well."""
    upper = near(number, first, count) >> 16
    lower = near(number * 40503 % 2**32, first, count) >> 16
    return upper * 65536 + lower


if __name__ == "__main__":
    unittest.main()
