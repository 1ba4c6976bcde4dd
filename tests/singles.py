"""Singles and bfloat16s for the tests, and a step of a sum by Python's own fractions."""

import math
import struct
from fractions import Fraction

ZERO, MINUS_ZERO = 0, 0x80000000
INFINITY, MINUS_INFINITY = 0x7F800000, 0xFF800000
LARGEST = 0x7F7FFFFF  # 2^128 - 2^104
LEAST_NORMAL = 0x00800000  # 2^-126
LARGEST_DENORMAL = 0x007FFFFF
MINUS = 0x80000000  # the sign, to be added to the bits of a positive single
NAN = -1


def single(number):
    """The bits of a number that is a single."""
    told = struct.pack(">f", number)
    assert struct.unpack(">f", told)[0] == number, number
    return int.from_bytes(told, "big")


def bfloat16(number):
    """The 16 bits of a number that is a bfloat16."""
    told = single(number)
    assert told % 65536 == 0, number
    return told // 65536


def number_of(bits):
    """The float of a single's bits, 0 with its sign for a denormal."""
    number = struct.unpack(">f", bits.to_bytes(4, "big"))[0]
    if abs(number) < 2.0**-126:
        return math.copysign(0.0, number)
    return number


def rounded(exact):
    """A fraction that is not 0, rounded to 24 bits whatever its size, as a single's float."""
    sign = -1 if exact < 0 else 1
    # The fraction's lower part is a power of 2.
    exponent = abs(exact.numerator).bit_length() - exact.denominator.bit_length()
    unit = Fraction(2)**(exponent - 23)
    number = round(exact / unit) * unit
    if abs(number) >= 2**128:
        return sign * math.inf
    if abs(number) < Fraction(1, 2**126):
        return sign * 0.0
    return float(number)


def sum_of_two(first, second):
    """The bits, or -1, of two floats added exactly and rounded as a step is."""
    # Of what is not rounded the sum of floats is right, the sign of a 0 as well.
    told = first + second
    if math.isnan(told):
        return NAN
    if told != 0 and not math.isinf(told):
        told = rounded(Fraction(first) + Fraction(second))
    return single(told)


def stepped(bits, p, q):
    """The bits, or -1, of a step with the bfloat16s p and q."""
    if bits == NAN:
        return NAN
    # A float holds the product of two bfloat16s exactly.
    return sum_of_two(number_of(bits), number_of(p << 16) * number_of(q << 16))


def added(first, second):
    """The bits, or -1, of two singles added and rounded as a step is."""
    if NAN in (first, second):
        return NAN
    return sum_of_two(number_of(first), number_of(second))
