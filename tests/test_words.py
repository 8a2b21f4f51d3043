"""Words: point 1.1."""

import unittest

from salvor.words import combine, wrap

WORDS = range(16)
PAIRS = [(a, b) for a in WORDS for b in WORDS]


class Wrap(unittest.TestCase):
    def test_words_stay(self):
        self.assertEqual([wrap(n) for n in WORDS], list(WORDS))

    def test_beyond_the_edges(self):
        cases = {16: 0, 17: 1, 31: 15, 32: 0, -1: 15, -15: 1, -16: 0, -17: 15, -32: 0, 1000: 8, -1000: 8}
        for n, word in cases.items():
            self.assertEqual(wrap(n), word, n)

    def test_hundreds_of_digits(self):
        for power in (100, 300, 700):
            big = 16 * 10 ** power
            for k in WORDS:
                self.assertEqual(wrap(big + k), k)
                self.assertEqual(wrap(-big + k), k)
                self.assertEqual(wrap(-big - k), (16 - k) % 16)


class Combine(unittest.TestCase):
    def expect(self, operator, table):
        for a, b in PAIRS:
            word = combine(operator, a, b)
            self.assertEqual(word, table(a, b), (operator, a, b))
            self.assertIs(type(word), int, (operator, a, b))
            self.assertTrue(0 <= word <= 15, (operator, a, b))

    def test_sum(self):
        self.expect("+", lambda a, b: (a + b) % 16)

    def test_difference(self):
        self.expect("-", lambda a, b: a - b if a >= b else a - b + 16)

    def test_product(self):
        self.expect("*", lambda a, b: (a * b) % 16)

    def test_equal(self):
        self.expect("==", lambda a, b: 1 if a == b else 0)

    def test_less(self):
        self.expect("<", lambda a, b: 1 if a < b else 0)

    def test_and(self):
        self.expect("and", lambda a, b: 0 if 0 in (a, b) else 1)

    def test_or(self):
        self.expect("or", lambda a, b: 0 if (a, b) == (0, 0) else 1)

    def test_written_out(self):
        cases = [("+", 9, 7, 0), ("+", 15, 15, 14), ("-", 0, 1, 15), ("-", 3, 3, 0), ("*", 4, 4, 0),
                 ("*", 15, 15, 1), ("==", 5, 5, 1), ("==", 5, 6, 0), ("<", 2, 3, 1), ("<", 3, 3, 0),
                 ("<", 3, 2, 0), ("and", 2, 1, 1), ("and", 2, 0, 0), ("or", 0, 4, 1), ("or", 0, 0, 0)]
        for operator, a, b, word in cases:
            self.assertEqual(combine(operator, a, b), word, (operator, a, b))


if __name__ == "__main__":
    unittest.main()
