"""The classes of errors: point 0.2 and the interface."""

import unittest

from salvor.errors import LimitError, PathError, SalvorError, StoreError


class Errors(unittest.TestCase):
    def test_bases(self):
        self.assertEqual(SalvorError.__bases__, (ValueError,))
        for error in (StoreError, LimitError, PathError):
            self.assertEqual(error.__bases__, (SalvorError,))

    def test_no_error_is_another_one(self):
        errors = (StoreError, LimitError, PathError)
        for error in errors:
            others = tuple(other for other in errors if other != error)
            self.assertFalse(issubclass(error, others))

    def test_rule(self):
        for rule in ("sectors", "width", "keys", "variables", "size", "word", "variable", "argument", "write"):
            self.assertEqual(StoreError(rule).rule, rule)

    def test_limit(self):
        for limit in (1, 99, 10 ** 20):
            self.assertEqual(LimitError(limit).limit, limit)

    def test_at(self):
        for at in (0, 7):
            self.assertEqual(PathError(at).at, at)

    def test_raised_and_caught_by_the_base(self):
        for error, told in ((StoreError("size"), "size"), (LimitError(5), "5"), (PathError(3), "3")):
            with self.assertRaises(SalvorError) as caught:
                raise error
            self.assertIs(caught.exception, error)
            self.assertIn(told, str(caught.exception))


if __name__ == "__main__":
    unittest.main()
