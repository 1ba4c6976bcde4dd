"""Point 3: words."""

import unittest

from smallproducts.products import words
from support import signed, spread


def expected(rows, n, x, w):
    answer = [0]
    for i in range(rows):
        total = sum(signed(a, 2) * signed(b, 2) for a, b in zip(x, w[n * i:n * i + n], strict=True))
        answer.append(int.from_bytes(total.to_bytes(8, "big", signed=True), "big"))
    return answer


class Words(unittest.TestCase):
    def test_no_rows(self):
        self.assertEqual(words(0, 0, [], []), [0])
        self.assertEqual(words(0, 3, [1, 2, 3], []), [0])

    def test_no_numbers(self):
        self.assertEqual(words(1, 0, [], []), [0, 0])
        self.assertEqual(words(4, 0, [], []), [0, 0, 0, 0, 0])

    def test_signs_of_x_and_w(self):
        edges = [0, 1, 32767, 32768, 32769, 65535]
        values = {0: 0, 1: 1, 32767: 32767, 32768: -32768, 32769: -32767, 65535: -1}
        for a in edges:
            for b in edges:
                with self.subTest(x=a, w=b):
                    told = (values[a] * values[b]) % 2**64
                    self.assertEqual(words(1, 1, [a], [b]), [0, told])

    def test_written_products(self):
        self.assertEqual(words(1, 1, [65535], [65535]), [0, 1])
        self.assertEqual(words(1, 1, [32768], [32768]), [0, 1073741824])
        self.assertEqual(words(1, 1, [32768], [32767]), [0, 18446744072635842560])
        self.assertEqual(words(1, 1, [255], [128]), [0, 32640])

    def test_below_zero(self):
        self.assertEqual(words(1, 1, [1], [65535]), [0, 18446744073709551615])
        self.assertEqual(words(1, 1, [65535], [1]), [0, 18446744073709551615])
        self.assertEqual(words(1, 2, [1, 1], [65535, 1]), [0, 0])
        self.assertEqual(words(1, 2, [3, 2], [65535, 1]), [0, 18446744073709551615])

    def test_not_held_to_32_bits(self):
        self.assertEqual(words(1, 4, [32768] * 4, [32768] * 4), [0, 4294967296])
        self.assertEqual(words(1, 500, [32767] * 500, [32767] * 500), [0, 536838144500])
        self.assertEqual(words(1, 8, [32768] * 8, [32767] * 8), [0, 2**64 - 8 * 32768 * 32767])

    def test_order_of_the_weights(self):
        self.assertEqual(words(2, 3, [1, 10, 100], [1, 2, 3, 4, 5, 6]), [0, 321, 654])
        self.assertEqual(words(3, 2, [1, 10], [1, 2, 3, 4, 5, 6]), [0, 21, 43, 65])
        self.assertEqual(words(2, 2, [1, 10], [1, 2, 3, 4]), [0, 21, 43])

    def test_many(self):
        shapes = [(1, 1), (2, 7), (3, 16), (5, 33), (7, 64), (8, 499), (8, 500)]
        for seed, (rows, n) in enumerate(shapes):
            with self.subTest(rows=rows, n=n):
                x = spread(n, 65536, seed)
                w = spread(rows * n, 65536, seed + 100)
                self.assertEqual(words(rows, n, x, w), expected(rows, n, x, w))


if __name__ == "__main__":
    unittest.main()
