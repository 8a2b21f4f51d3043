"""Valid stores and the depth of expressions: points 0.3 to 0.5, 2.1 and 2.2."""

import copy
import unittest

from salvor.stores import check, depth
from tests.builders import (BODIES, WRITING, ZERO, around, body_deep, deep, holders, loops_deep, make, nested_in,
                            rule, rule_of_body)

OPERATORS = ("+", "-", "*", "==", "<", "and", "or")


def full_store():
    """Returns a store that is at all limits in each of its bodies."""
    leaf = ("sum", ("+", ("read", ("num", 15), ("var", 7)), ("not", ("var", 0))))
    e = ("and", leaf, ("==", ("num", 0), leaf[1]))
    inner = [("loop", 7, 8, [("loop", 0, 1, [("if", e, [("set", 7, e)], [])])])]
    rest = [("set", k % 8, e) for k in range(56)]
    write = ("write", e, [e, ZERO, e, ZERO])
    body = inner + rest[:-2] + [write, ("barrier",)]
    put = inner + rest[:-2] + [("write", ("key",), [("value",), e, e, e]), ("barrier",)]
    get = inner + rest[:-1] + [("set", 1, ("key",))]
    return ("store", 6, 4, 3, 8, put, body, list(body), (get, ("or", ("key",), e[2])))


class Valid(unittest.TestCase):
    def test_examples_of_the_interface(self):
        write = ("write", ZERO, [("value",)])
        store = ("store", 1, 1, 1, 0, [write], [("barrier",)], [], ([], ("read", ZERO, ZERO)))
        self.assertIsNone(check(store))
        self.assertEqual(rule(("store", 1, 1, 1, 0, [], [], [], ([("barrier",)], ZERO))), "write")

    def test_numbers(self):
        for sectors in range(1, 7):
            self.assertIsNone(check(make(sectors=sectors)))
        for keys in range(1, 4):
            self.assertIsNone(check(make(keys=keys)))
        for variables in range(0, 9):
            self.assertIsNone(check(make(variables=variables)))
        for width in range(1, 5):
            for where in WRITING:
                self.assertIsNone(rule_of_body(where, [("write", ZERO, [ZERO] * width)], width=width))
        self.assertIsNone(check(make(sectors=6, width=4, keys=3, variables=8)))
        self.assertIsNone(check(make(sectors=1, width=1, keys=1, variables=0)))

    def test_all_limits_at_once(self):
        store = full_store()
        self.assertIsNone(check(store))
        self.assertEqual(depth(store[5][0][3][0][3][0][1]), 5)

    def test_arguments_are_not_modified(self):
        store = full_store()
        before = copy.deepcopy(store)
        check(store)
        depth(store[8][1])
        self.assertEqual(store, before)

    def test_sixty_statements(self):
        step = ("set", 0, ZERO)
        bodies = [
            [step] * 60,
            [("if", ZERO, [step] * 30, [step] * 29)],
            [("if", ZERO, [], [step] * 59)],
            [("loop", 0, 8, [step] * 59)],
            [step] * 20 + [("loop", 0, 8, [("if", ZERO, [step] * 9, [step] * 9)] + [step] * 10)] + [step] * 10,
            [("if", ZERO, [], [])] * 60,
            [("loop", 0, 1, [("loop", 1, 1, [("if", ZERO, [step] * 28, [step] * 29)])])],
        ]
        for where in BODIES:
            for body in bodies:
                self.assertIsNone(rule_of_body(where, body), (where, body))

    def test_each_body_has_its_own_sixty(self):
        body = [("set", 0, ZERO)] * 60
        self.assertIsNone(check(make(put=body, sync=body, recover=body, get=body)))

    def test_four_deep(self):
        step = ("set", 0, ZERO)
        bodies = [
            body_deep(4),
            [("if", ZERO, [], [("if", ZERO, [], [("if", ZERO, [], [step])])])],
            [("loop", 0, 1, [("if", ZERO, [("loop", 0, 1, [step])], [])])],
            [("loop", 0, 1, [("loop", 0, 1, [("if", ZERO, [step], [step])])])],
            [("if", ZERO, [("if", ZERO, [("if", ZERO, [], [])], [])], [])] * 20,
        ]
        for where in BODIES:
            for body in bodies:
                self.assertIsNone(rule_of_body(where, body), (where, body))

    def test_loops_two_deep(self):
        bodies = [
            loops_deep(2),
            loops_deep(2) + loops_deep(2) + loops_deep(2),
            [("loop", 0, 1, loops_deep(1) + loops_deep(1) + loops_deep(1))],
            [("if", ZERO, loops_deep(2), loops_deep(2))],
            [("loop", 0, 1, [("if", ZERO, loops_deep(1), loops_deep(1))])],
        ]
        for where in BODIES:
            for body in bodies:
                self.assertIsNone(rule_of_body(where, body), (where, body))

    def test_counts(self):
        for where in BODIES:
            for count in range(1, 9):
                for body in nested_in(("loop", 1, count, [])):
                    self.assertIsNone(rule_of_body(where, body), (where, body))

    def test_expressions(self):
        leaves = [("num", word) for word in range(16)] + [("var", 0), ("var", 1), deep(5), deep(5, ("var", 1))]
        for where in BODIES:
            for leaf in leaves:
                for statement in holders(leaf, where):
                    for body in nested_in(statement):
                        self.assertIsNone(rule_of_body(where, body), (where, body))
        for leaf in leaves + [("key",), deep(5, ("key",))]:
            self.assertIsNone(check(make(found=leaf)), leaf)

    def test_every_form_of_expression(self):
        for leaf in (("num", 15), ("var", 1)):
            for e in around(leaf):
                for where in BODIES:
                    for statement in holders(e, where):
                        self.assertIsNone(rule_of_body(where, [statement]), (where, statement))
                self.assertIsNone(check(make(found=e)), e)

    def test_every_variable(self):
        for variables in range(1, 9):
            for v in range(variables):
                for where in BODIES:
                    for statement in (("set", v, ("var", v)), ("loop", v, 1, [])):
                        self.assertIsNone(rule_of_body(where, [statement], variables=variables))
                self.assertIsNone(check(make(found=("var", v), variables=variables)))

    def test_arguments(self):
        for argument in (("key",), ("value",)):
            for e in around(argument):
                for statement in holders(e, "put"):
                    for body in nested_in(statement):
                        self.assertIsNone(rule_of_body("put", body), body)
        for e in around(("key",)):
            for statement in holders(e, "get"):
                for body in nested_in(statement):
                    self.assertIsNone(rule_of_body("get", body), body)
            self.assertIsNone(check(make(found=e)), e)

    def test_writes_and_barriers(self):
        for where in WRITING:
            for statement in (("write", ZERO, [ZERO]), ("barrier",)):
                for body in nested_in(statement):
                    self.assertIsNone(rule_of_body(where, body), (where, body))


class Depth(unittest.TestCase):
    def test_one(self):
        for e in (("num", 0), ("num", 15), ("var", 3), ("key",), ("value",)):
            self.assertEqual(depth(e), 1)

    def test_one_more_than_the_greatest_inside(self):
        for small in range(1, 7):
            for great in range(small, 7):
                for tag in OPERATORS + ("read",):
                    self.assertEqual(depth((tag, deep(small), deep(great, ("key",)))), great + 1)
                    self.assertEqual(depth((tag, deep(great, ("value",)), deep(small))), great + 1)
            for tag in ("sum", "not"):
                self.assertEqual(depth((tag, deep(small, ("var", 9)))), small + 1)

    def test_inner_branches(self):
        self.assertEqual(depth(("+", ("sum", ("*", ZERO, ("not", ZERO))), ("read", ZERO, ZERO))), 5)
        self.assertEqual(depth(("read", ("read", ZERO, ("read", ZERO, ZERO)), ("key",))), 4)

    def test_deeper_than_a_store_may_have(self):
        for levels in (5, 6, 7, 50, 5000):
            self.assertEqual(depth(deep(levels)), levels)

    def test_wrong_words_and_variables(self):
        self.assertEqual(depth(("+", ("num", 99), ("var", -1))), 2)


if __name__ == "__main__":
    unittest.main()
