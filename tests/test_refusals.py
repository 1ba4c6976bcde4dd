"""Point 1: rows is 0 to 1024 and n 0 to 65536, else -1."""

import unittest

from smallproducts.products import bytes_of, floats, words

# The small ones stand first, and the first wrong answer ends a test: rows that
# are not refused at 4294967295 would be answered with as many numbers.
REFUSED = [
    (1025, 0), (1025, 1), (1025, 500), (1025, 65536),
    (0, 65537), (1, 65537), (8, 65537), (1024, 65537),
    (1025, 65537), (65536, 0), (65536, 1024),
    (0, 4294967295), (1, 4294967295), (1024, 4294967295),
    (4294967295, 0), (4294967295, 1), (4294967295, 65536),
    (4294967295, 4294967295),
]


class Refusals(unittest.TestCase):
    def test_bytes_refused(self):
        for rows, n in REFUSED:
            self.assertEqual(bytes_of(rows, n, [], [], []), [-1], (rows, n))

    def test_words_refused(self):
        for rows, n in REFUSED:
            self.assertEqual(words(rows, n, [], []), [-1], (rows, n))

    def test_floats_refused(self):
        for rows, n in REFUSED:
            self.assertEqual(floats(rows, n, [], []), [-1], (rows, n))

    def test_bytes_no_rows(self):
        for n in (0, 1, 500, 1025, 65536):
            with self.subTest(n=n):
                self.assertEqual(bytes_of(0, n, [1] * n, [], []), [0])

    def test_words_no_rows(self):
        for n in (0, 1, 500, 1025, 65536):
            with self.subTest(n=n):
                self.assertEqual(words(0, n, [1] * n, []), [0])

    def test_floats_no_rows(self):
        for n in (0, 1, 500, 1025, 65536):
            with self.subTest(n=n):
                self.assertEqual(floats(0, n, [1] * n, []), [0])

    def test_bytes_most_rows(self):
        bias = list(range(1024))
        self.assertEqual(bytes_of(1024, 0, [], [], bias), [0] + bias)
        told = [0] + [number + 3 for number in bias]
        self.assertEqual(bytes_of(1024, 1, [1], [3] * 1024, bias), told)

    def test_words_most_rows(self):
        self.assertEqual(words(1024, 0, [], []), [0] * 1025)
        w = list(range(1024))
        told = [0] + [3 * number for number in w]
        self.assertEqual(words(1024, 1, [3], w), told)

    def test_floats_most_rows(self):
        # assertEqual would look for minutes for what to show of lists this long.
        for rows in (1, 2, 8, 1023, 1024):
            self.assertTrue(floats(rows, 0, [], []) == [0] * (1 + rows), rows)
        w = list(range(0x3F80, 0x3F80 + 1024))
        told = [0] + [bits * 65536 for bits in w]
        self.assertTrue(floats(1024, 1, [0x3F80], w) == told)

    def test_bytes_most_numbers(self):
        n = 65536
        self.assertEqual(bytes_of(1, n, [255] * n, [127] * n, [0]), [0, 255 * 127 * n])

    def test_words_most_numbers(self):
        n = 65536
        self.assertEqual(words(1, n, [32768] * n, [32768] * n), [0, 2**46])
        self.assertEqual(words(1, n, [32768] * n, [32767] * n), [0, 2**64 - 2**46 + 2**31])

    def test_floats_most_numbers(self):
        n = 65536
        self.assertEqual(floats(1, n, [0x3F80] * n, [0x3F80] * n), [0, 0x47800000])


if __name__ == "__main__":
    unittest.main()
