"""Stores that break one rule: point 2.2."""

import unittest

from salvor.errors import StoreError
from salvor.stores import check
from tests.builders import (BODIES, WRITING, ZERO, around, body_deep, deep, holders, loops_deep, make, nested_in,
                            rule, rule_of_body)

HUGE = 10 ** 30
STEP = ("set", 0, ZERO)


class Numbers(unittest.TestCase):
    def test_beyond_the_edges(self):
        cases = (("sectors", (0, 7)), ("width", (0, 5)), ("keys", (0, 4)), ("variables", (-1, 9)))
        for name, edges in cases:
            for number in edges + (-HUGE, -2, 17, HUGE):
                self.assertEqual(rule(make(**{name: number})), name, (name, number))


class Breaking(unittest.TestCase):
    """Checks what decides about a statement or an expression, wherever it stands."""

    def expect_statement(self, where, statement, expected, **rest):
        for body in nested_in(statement):
            self.assertEqual(rule_of_body(where, body, **rest), expected, (where, body))

    def expect_expression(self, where, e, expected, **rest):
        for statement in holders(e, where):
            self.expect_statement(where, statement, expected, **rest)

    def expect_in_found(self, e, expected, **rest):
        self.assertEqual(rule(make(found=e, **rest)), expected, e)

    def expect_everywhere(self, e, expected, **rest):
        for where in BODIES:
            self.expect_expression(where, e, expected, **rest)
        self.expect_in_found(e, expected, **rest)


class Sizes(Breaking):
    def expect_body(self, body):
        for where in BODIES:
            self.assertEqual(rule_of_body(where, body), "size", (where, body))

    def test_too_many_statements(self):
        self.expect_body([STEP] * 61)
        self.expect_body([STEP] * 5000)
        self.expect_body([("if", ZERO, [STEP] * 30, [STEP] * 30)])
        self.expect_body([("if", ZERO, [STEP] * 60, [])])
        self.expect_body([("if", ZERO, [], [STEP] * 60)])
        self.expect_body([("loop", 0, 1, [STEP] * 60)])
        self.expect_body([("if", ZERO, [], [])] * 61)
        self.expect_body([("loop", 0, 1, [("loop", 1, 1, [("if", ZERO, [STEP] * 29, [STEP] * 29)])])])
        self.expect_body([STEP] * 30 + [("if", ZERO, [STEP] * 15, [STEP] * 15)])
        self.expect_body([("if", ZERO, [STEP] * 15, [STEP] * 15)] + [STEP] * 30)
        self.expect_body([("if", ZERO, [STEP] * 29, []), ("if", ZERO, [STEP] * 30, [])])

    def test_nested_too_deep(self):
        self.expect_body(body_deep(5))
        self.expect_body(body_deep(6))
        self.expect_body(body_deep(400))
        self.expect_body([("if", ZERO, [], [("if", ZERO, [], [("if", ZERO, [], [("if", ZERO, [], [STEP])])])])])
        self.expect_body([("loop", 0, 1, [("if", ZERO, [("loop", 0, 1, [("if", ZERO, [STEP], [])])], [])])])
        self.expect_body([STEP, ("if", ZERO, [STEP], [STEP] + body_deep(4))])
        self.expect_body(body_deep(4) + body_deep(5))

    def test_an_empty_body_is_a_body(self):
        self.expect_body([("if", ZERO, [("if", ZERO, [("if", ZERO, [("if", ZERO, [], [])], [])], [])], [])])
        self.expect_body([("if", ZERO, [("if", ZERO, [("if", ZERO, [("loop", 0, 1, [])], [])], [])], [])])

    def test_loops_nested_too_deep(self):
        self.expect_body(loops_deep(3))
        self.expect_body(loops_deep(4))
        self.expect_body(loops_deep(400))
        self.expect_body(loops_deep(2) + loops_deep(3))
        self.expect_body([("loop", 0, 1, [STEP] + loops_deep(1) + loops_deep(2))])

    def test_loop_counts(self):
        for where in BODIES:
            for count in (-HUGE, -1, 0, 9, 10, HUGE):
                self.expect_statement(where, ("loop", 0, count, []), "size")
                self.expect_statement(where, ("loop", 1, count, [STEP]), "size")

    def test_expressions_too_deep(self):
        for levels in (6, 7, 5000):
            self.expect_everywhere(deep(levels), "size")
        for e in around(deep(5))[1:]:
            self.expect_everywhere(e, "size")

    def test_an_expression_that_is_named_many_times(self):
        e = ZERO
        for _ in range(200):
            e = ("+", e, e)
        self.expect_everywhere(e, "size")

    def test_later_words_of_a_write(self):
        for at in range(4):
            words = [ZERO] * 4
            words[at] = deep(6)
            for where in WRITING:
                self.expect_statement(where, ("write", ZERO, words), "size", width=4)


class Leaves(Breaking):
    def test_words(self):
        for word in (-HUGE, -1, 16, 17, HUGE):
            for e in around(("num", word)):
                self.expect_everywhere(e, "word")

    def test_variables_that_are_read(self):
        for e in around(("var", -1)) + around(("var", 2)) + [("var", HUGE), ("var", -HUGE)]:
            self.expect_everywhere(e, "variable", variables=2)
        for v in (-1, 8):
            self.expect_everywhere(("var", v), "variable", variables=8)
        self.expect_in_found(("var", 0), "variable", variables=0)

    def test_variables_that_are_assigned(self):
        for where in BODIES:
            for v in (-HUGE, -1, 2, HUGE):
                self.expect_statement(where, ("set", v, ZERO), "variable", variables=2)
                self.expect_statement(where, ("loop", v, 1, []), "variable", variables=2)
            for v in (-1, 8):
                self.expect_statement(where, ("set", v, ZERO), "variable", variables=8)
                self.expect_statement(where, ("loop", v, 1, []), "variable", variables=8)

    def test_no_variables(self):
        for where in BODIES:
            for v in (-1, 0, 1):
                for statement in (("set", v, ZERO), ("loop", v, 1, []), ("if", ("var", v), [], [])):
                    for body in ([statement], [("if", ZERO, [statement], [])], [("if", ZERO, [], [statement])]):
                        self.assertEqual(rule_of_body(where, body, variables=0), "variable", (where, body))

    def test_arguments(self):
        for where in ("sync", "recover"):
            for argument in (("key",), ("value",)):
                for e in around(argument):
                    self.expect_expression(where, e, "argument")
        for e in around(("value",)):
            self.expect_expression("get", e, "argument")
            self.expect_in_found(e, "argument")

    def test_later_words_of_a_write(self):
        for at in range(4):
            for leaf, expected in ((("num", 16), "word"), (("var", 2), "variable"), (("key",), "argument")):
                words = [ZERO] * 4
                words[at] = leaf
                self.expect_statement("recover", ("write", ZERO, words), expected, width=4)


class Writes(Breaking):
    def test_in_get(self):
        self.expect_statement("get", ("write", ZERO, [ZERO]), "write")
        self.expect_statement("get", ("barrier",), "write")

    def test_number_of_words(self):
        for where in WRITING:
            for width in range(1, 5):
                for many in (0, width - 1, width + 1, 9):
                    self.expect_statement(where, ("write", ZERO, [ZERO] * many), "width", width=width)


class Raised(unittest.TestCase):
    def test_the_error_itself(self):
        with self.assertRaises(StoreError) as caught:
            check(make(keys=0))
        self.assertIs(type(caught.exception), StoreError)
        self.assertEqual(caught.exception.rule, "keys")


if __name__ == "__main__":
    unittest.main()
