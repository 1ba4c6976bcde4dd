"""Point 2: bytes, here bytes_of."""

import unittest

from smallproducts.products import bytes_of
from support import signed, spread

MOST = 2147483647
LEAST = 2147483648  # the bits of -2147483648


def expected(rows, n, x, w, bias):
    answer = [0]
    for i in range(rows):
        total = signed(bias[i], 4)
        total += sum(a * signed(b, 1) for a, b in zip(x, w[n * i:n * i + n], strict=True))
        total = min(max(total, -(2**31)), 2**31 - 1)
        answer.append(int.from_bytes(total.to_bytes(4, "big", signed=True), "big"))
    return answer


class Bytes(unittest.TestCase):
    def test_no_rows(self):
        self.assertEqual(bytes_of(0, 0, [], [], []), [0])
        self.assertEqual(bytes_of(0, 3, [1, 2, 3], [], []), [0])

    def test_bias_alone(self):
        bias = [0, 1, MOST, LEAST, 4294967295]
        self.assertEqual(bytes_of(5, 0, [], [], bias), [0] + bias)

    def test_signs_of_x_and_w(self):
        edges = [0, 1, 127, 128, 129, 255]
        values = {0: 0, 1: 1, 127: 127, 128: -128, 129: -127, 255: -1}
        for a in edges:
            for b in edges:
                with self.subTest(x=a, w=b):
                    told = (a * values[b]) % 2**32
                    self.assertEqual(bytes_of(1, 1, [a], [b], [0]), [0, told])

    def test_written_products(self):
        self.assertEqual(bytes_of(1, 1, [255], [255], [0]), [0, 4294967041])
        self.assertEqual(bytes_of(1, 1, [255], [128], [0]), [0, 4294934656])
        self.assertEqual(bytes_of(1, 1, [128], [127], [0]), [0, 16256])

    def test_sign_of_bias(self):
        self.assertEqual(bytes_of(1, 1, [1], [1], [0]), [0, 1])
        self.assertEqual(bytes_of(1, 1, [1], [255], [0]), [0, 4294967295])
        self.assertEqual(bytes_of(1, 1, [1], [255], [MOST]), [0, MOST - 1])
        self.assertEqual(bytes_of(1, 1, [1], [1], [LEAST]), [0, LEAST + 1])
        self.assertEqual(bytes_of(1, 1, [1], [1], [4294967295]), [0, 0])
        self.assertEqual(bytes_of(1, 1, [2], [1], [4294967295]), [0, 1])

    def test_at_and_past_the_most(self):
        self.assertEqual(bytes_of(1, 1, [1], [1], [MOST - 1]), [0, MOST])
        self.assertEqual(bytes_of(1, 1, [1], [1], [MOST]), [0, MOST])
        self.assertEqual(bytes_of(1, 1, [255], [127], [MOST]), [0, MOST])
        self.assertEqual(bytes_of(1, 1, [255], [127], [MOST - 32385]), [0, MOST])
        self.assertEqual(bytes_of(1, 1, [255], [127], [MOST - 32386]), [0, MOST - 1])
        self.assertEqual(bytes_of(1, 1, [255], [127], [MOST - 32384]), [0, MOST])

    def test_at_and_past_the_least(self):
        self.assertEqual(bytes_of(1, 1, [1], [255], [LEAST + 1]), [0, LEAST])
        self.assertEqual(bytes_of(1, 1, [1], [255], [LEAST]), [0, LEAST])
        self.assertEqual(bytes_of(1, 1, [255], [128], [LEAST]), [0, LEAST])
        self.assertEqual(bytes_of(1, 1, [255], [128], [LEAST + 32640]), [0, LEAST])
        self.assertEqual(bytes_of(1, 1, [255], [128], [LEAST + 32641]), [0, LEAST + 1])
        self.assertEqual(bytes_of(1, 1, [255], [128], [LEAST + 32639]), [0, LEAST])

    def test_past_the_most_by_products_alone(self):
        n = 65536
        self.assertEqual(bytes_of(1, n, [255] * n, [127] * n, [MOST]), [0, MOST])
        self.assertEqual(bytes_of(1, n, [255] * n, [128] * n, [LEAST]), [0, LEAST])

    def test_past_midway_and_back(self):
        self.assertEqual(bytes_of(1, 2, [255, 255], [127, 128], [MOST]), [0, MOST - 255])
        self.assertEqual(bytes_of(1, 2, [255, 255], [128, 127], [MOST]), [0, MOST - 255])
        self.assertEqual(bytes_of(1, 2, [1, 1], [255, 1], [LEAST]), [0, LEAST])
        self.assertEqual(bytes_of(1, 2, [2, 3], [255, 1], [LEAST]), [0, LEAST + 1])
        self.assertEqual(bytes_of(1, 3, [200, 200, 1], [127, 129, 255], [MOST]), [0, MOST - 1])

    def test_each_row_is_held_by_itself(self):
        answer = bytes_of(3, 1, [1], [1, 255, 1], [MOST, LEAST, 5])
        self.assertEqual(answer, [0, MOST, LEAST, 6])

    def test_order_of_the_weights(self):
        self.assertEqual(bytes_of(2, 3, [1, 10, 100], [1, 2, 3, 4, 5, 6], [0, 0]), [0, 321, 654])
        self.assertEqual(bytes_of(3, 2, [1, 10], [1, 2, 3, 4, 5, 6], [100, 200, 300]), [0, 121, 243, 365])
        self.assertEqual(bytes_of(2, 2, [1, 10], [1, 2, 3, 4], [0, 0]), [0, 21, 43])

    def test_many(self):
        shapes = [(1, 1), (2, 7), (3, 16), (5, 33), (7, 64), (8, 499), (8, 500)]
        for seed, (rows, n) in enumerate(shapes):
            with self.subTest(rows=rows, n=n):
                x = spread(n, 256, seed)
                w = spread(rows * n, 256, seed + 100)
                bias = spread(rows, 2**32, seed + 200)
                self.assertEqual(bytes_of(rows, n, x, w, bias), expected(rows, n, x, w, bias))

    def test_many_near_the_ends(self):
        for seed in range(40):
            x = spread(20, 256, seed)
            w = spread(160, 256, seed + 100)
            bias = [(LEAST - 50000 + d) for d in spread(8, 100000, seed + 200)]
            self.assertEqual(bytes_of(8, 20, x, w, bias), expected(8, 20, x, w, bias))


if __name__ == "__main__":
    unittest.main()
