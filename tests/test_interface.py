"""The interface: names, arguments, kinds; nothing changed, kept, printed or brought in."""

import contextlib
import inspect
import io
import unittest

from smallproducts import products
from support import Unchanging, spread

CALLS = [
    ("bytes_of", (0, 0, [], [], [])),
    ("bytes_of", (3, 0, [], [], [1, 2147483648, 4294967295])),
    ("bytes_of", (2, 3, [0, 127, 255], [128, 255, 1, 0, 127, 2], [2147483647, 4294967295])),
    ("bytes_of", (8, 50, spread(50, 256, 1), spread(400, 256, 2), spread(8, 2**32, 3))),
    ("bytes_of", (1025, 0, [], [], [])),
    ("bytes_of", (1, 4294967295, [], [], [])),
    ("words", (0, 0, [], [])),
    ("words", (3, 0, [], [])),
    ("words", (2, 3, [0, 32767, 65535], [32768, 65535, 1, 0, 32767, 2])),
    ("words", (8, 50, spread(50, 65536, 4), spread(400, 65536, 5))),
    ("words", (1025, 0, [], [])),
    ("words", (1, 65537, [], [])),
    ("scale", (0, 1, 0, 0, [])),
    ("scale", (5, -3, 2, 128, [0, 1, 2147483647, 2147483648, 4294967295])),
    ("scale", (500, 2147483647, 56, 100, spread(500, 2**32, 6))),
    ("scale", (65537, 1, 0, 0, [])),
    ("scale", (4294967295, 1, 0, 0, [])),
    ("scale", (2, 1, 63, 0, [1, 2])),
    ("scale", (2, 1, 0, -1, [1, 2])),
] + [
    ("sum_of", (k, kind, spread(p, 2**32, 7), spread(q, 2**32, 8), spread(r, 2**32, 9)))
    for k in (0, 1, 32768, 65535)
    for kind in (-1, 0, 1, 2, 3, 4)
    for p, q, r in ((0, 0, 0), (1, 15, 16), (16, 1, 15), (15, 16, 1), (16, 16, 16))
] + [
    ("short", (spread(p, 2**32, 10), spread(q, 2**32, 11)))
    for p in (0, 1, 15, 16)
    for q in (0, 1, 15, 16)
] + [
    ("short", ([0, 0x80000001, 0x3F808000, 0x7F7FFFFF], [0x7F800000, 0x7F800001, 0xFFFFFFFF])),
] + [
    ("step", (k, spread(p, 2**32, 12), spread(q, 2**32, 13), spread(r, 2**32, 14)))
    for k in (0, 1, 32768, 65535)
    for p, q, r in ((0, 0, 0), (1, 15, 16), (16, 1, 15), (15, 16, 1), (16, 16, 16))
] + [
    ("step", (k, [0x3F800000, 0x80000000, 0x7FC00000, 0x7F800000, 1], [0x3F803F80] * 5, [0xC0003F80] * 5))
    for k in (0, 31, 65535)
] + [
    ("floats", (0, 0, [], [])),
    ("floats", (3, 0, [], [])),
    ("floats", (0, 3, [1, 2, 3], [])),
    ("floats", (1024, 0, [], [])),
    ("floats", (2, 3, [0x3F80, 0x8000, 0x7F80], [0xBF80, 0x0080, 0x3F80, 0x7FC0, 0x0001, 0x0000])),
    ("floats", (1, 1, [0x7FC0], [0x3F80])),
    ("floats", (8, 50, spread(50, 65536, 15), spread(400, 65536, 16))),
    ("floats", (2, 65, [0x3F80] * 65, [0x4000 + j for j in range(130)])),
    ("floats", (1025, 0, [], [])),
    ("floats", (1, 65537, [], [])),
]

PARAMETERS = {
    "bytes_of": ["rows", "n", "x", "w", "bias"],
    "words": ["rows", "n", "x", "w"],
    "scale": ["n", "m", "s", "z", "numbers"],
    "sum_of": ["k", "kind", "sums", "a", "b"],
    "short": ["low", "high"],
    "step": ["k", "sums", "a", "b"],
    "floats": ["rows", "n", "x", "w"],
}

# These answer sixteen lanes alone, without a number ahead of them.
ANSWER_LANES = ("sum_of", "short", "step")


def copied(arguments):
    return [list(each) if isinstance(each, list) else each for each in arguments]


def guarded(arguments):
    return [Unchanging(each) if isinstance(each, list) else each for each in arguments]


def told_length(name, arguments, answer):
    if name in ANSWER_LANES:
        return 16
    return 1 if answer[0] == -1 else 1 + arguments[0]


def answer_of(name, arguments):
    return getattr(products, name)(*arguments)


class Interface(unittest.TestCase):
    def test_each_of_the_seven_is_called(self):
        told = {"bytes_of", "words", "scale", "sum_of", "short", "step", "floats"}
        self.assertEqual(set(PARAMETERS), told)
        self.assertEqual({name for name, arguments in CALLS}, told)

    def test_parameters(self):
        for name, parameters in PARAMETERS.items():
            found = inspect.signature(getattr(products, name)).parameters
            self.assertEqual(list(found), parameters)

    def test_arguments_by_name(self):
        for name, arguments in CALLS:
            named = dict(zip(PARAMETERS[name], arguments, strict=True))
            self.assertEqual(getattr(products, name)(**named), answer_of(name, arguments))

    def test_kinds(self):
        for name, arguments in CALLS:
            answer = answer_of(name, arguments)
            self.assertIs(type(answer), list)
            for number in answer:
                self.assertIs(type(number), int)

    def test_length(self):
        for name, arguments in CALLS:
            answer = answer_of(name, arguments)
            self.assertEqual(len(answer), told_length(name, arguments, answer))

    def test_arguments_stay_the_same(self):
        for name, arguments in CALLS:
            handed = copied(arguments)
            answer_of(name, handed)
            self.assertEqual(handed, list(arguments))

    def test_arguments_do_not_change_for_a_while(self):
        for name, arguments in CALLS:
            self.assertEqual(answer_of(name, guarded(arguments)), answer_of(name, arguments))

    def test_same_answer_again(self):
        first = [answer_of(name, copied(arguments)) for name, arguments in CALLS]
        again = [answer_of(name, copied(arguments)) for name, arguments in reversed(CALLS)]
        self.assertEqual(again[::-1], first)

    def test_answer_is_the_callers_own(self):
        for name, arguments in CALLS:
            first = answer_of(name, arguments)
            kept = list(first)
            first.append(7)
            first[0] = 9
            self.assertEqual(answer_of(name, arguments), kept)

    def test_answer_is_not_an_argument(self):
        for name, arguments in CALLS:
            answer = answer_of(name, arguments)
            for each in arguments:
                self.assertIsNot(answer, each)

    def test_prints_nothing(self):
        out, err = io.StringIO(), io.StringIO()
        with contextlib.redirect_stdout(out), contextlib.redirect_stderr(err):
            for name, arguments in CALLS:
                answer_of(name, arguments)
        self.assertEqual(out.getvalue() + err.getvalue(), "")


if __name__ == "__main__":
    unittest.main()
