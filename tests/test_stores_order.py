"""Stores that break several rules, with the one that decides: points 2.2 and 2.3."""

import itertools
import unittest

from tests.builders import BODIES, WRITING, ZERO, body_deep, deep, loops_deep, make, rule, rule_of_body

STEP = ("set", 0, ZERO)
NUM = ("num", 16)
VAR = ("var", 2)
DEEP = deep(6)
LEAVES = ((NUM, "word"), (VAR, "variable"), (DEEP, "size"))


class Parts(unittest.TestCase):
    """The four numbers, then put, sync, recover, the body of get, the expression of get."""

    def test_numbers(self):
        wrong = (("sectors", (0, 7)), ("width", (0, 5)), ("keys", (0, 4)), ("variables", (-1, 9)))
        for (first, here), (later, there) in itertools.combinations(wrong, 2):
            for a, b in itertools.product(here, there):
                self.assertEqual(rule(make(**{first: a, later: b})), first, (first, a, later, b))
        self.assertEqual(rule(make(0, 0, 0, -1, [NUM] * 61)), "sectors")

    def test_numbers_before_bodies(self):
        parts = [(where, [STEP] * 61) for where in BODIES] + [("found", NUM)]
        for name, number in (("sectors", 7), ("width", 5), ("keys", 4), ("variables", 9)):
            for where, body in parts:
                self.assertEqual(rule(make(**{name: number, where: body})), name, (name, where))

    def test_a_number_decides_before_what_follows_from_it(self):
        body = [("write", ZERO, []), ("set", 0, ("var", 0))]
        self.assertEqual(rule(make(width=0, put=body)), "width")
        self.assertEqual(rule(make(variables=-1, put=[("set", 0, ZERO)])), "variables")

    def test_bodies(self):
        wrong = (([("set", 0, NUM)], "word"), ([("set", 2, ZERO)], "variable"), ([STEP] * 61, "size"))
        for first, later in itertools.combinations(BODIES, 2):
            for (here, expected), (there, _) in itertools.permutations(wrong, 2):
                self.assertEqual(rule(make(**{first: here, later: there})), expected, (first, later, expected))

    def test_bodies_before_the_expression_of_get(self):
        wrong = (([("set", 0, NUM)], "word"), ([("set", 2, ZERO)], "variable"), ([STEP] * 61, "size"))
        for where in BODIES:
            for body, expected in wrong:
                for leaf, other in LEAVES:
                    if other != expected:
                        self.assertEqual(rule(make(**{where: body, "found": leaf})), expected, (where, leaf))

    def test_the_size_of_a_body_waits_for_its_turn(self):
        for body in ([STEP] * 61, body_deep(5), loops_deep(3)):
            self.assertEqual(rule(make(put=[("set", 0, NUM)], sync=body)), "word")
            self.assertEqual(rule(make(sync=[("set", 2, NUM)], recover=body)), "variable")
            self.assertEqual(rule(make(recover=[("set", 0, ("key",))], get=body)), "argument")
            self.assertEqual(rule(make(get=body, found=NUM)), "size")


class Ordered(unittest.TestCase):
    def expect(self, body, expected, bodies=BODIES, **rest):
        for where in bodies:
            self.assertEqual(rule_of_body(where, body, **rest), expected, (where, body))


class Statements(Ordered):
    """The size of a body, then its statements, each before those inside it and those behind it."""

    def test_size_before_statements(self):
        for wrong in (("set", 2, ZERO), ("set", 0, NUM), ("if", NUM, [], [])):
            self.expect([wrong] + [STEP] * 60, "size")
            self.expect([STEP] * 60 + [wrong], "size")
            self.expect([wrong] + body_deep(5), "size")
            self.expect([wrong] + loops_deep(3), "size")
            self.expect([("if", ZERO, [wrong], body_deep(4))], "size")
            self.expect([("if", ZERO, [wrong] * 30, [wrong] * 30)], "size")
            self.expect([("loop", 2, 1, loops_deep(2))], "size")
        self.expect([("barrier",)] * 61, "size", ["get"])
        self.expect([("write", ZERO, [])] * 61, "size", WRITING)

    def test_a_statement_before_the_next(self):
        for (one, expected), (other, _) in itertools.permutations(LEAVES, 2):
            self.expect([("set", 0, one), ("set", 0, other)], expected)
            self.expect([STEP, ("if", one, [], []), ("if", other, [], []), STEP], expected)
        self.expect([("set", 2, ZERO), ("loop", 0, 9, [])], "variable")
        self.expect([("loop", 0, 9, []), ("set", 2, ZERO)], "size")
        self.expect([("barrier",), ("set", 2, ZERO)], "write", ["get"])
        self.expect([("set", 2, ZERO), ("barrier",)], "variable", ["get"])
        self.expect([("write", ZERO, []), ("set", 2, ZERO)], "width", WRITING)
        self.expect([("set", 2, ZERO), ("write", ZERO, [])], "variable", WRITING)

    def test_a_statement_before_those_inside_it(self):
        for (one, expected), (other, _) in itertools.permutations(LEAVES, 2):
            self.expect([("if", one, [("set", 0, other)], [])], expected)
            self.expect([("if", one, [], [("set", 0, other)])], expected)
        self.expect([("loop", 2, 1, [("set", 0, NUM)])], "variable")
        self.expect([("loop", 0, 9, [("set", 0, NUM)])], "size")
        self.expect([("loop", 0, 0, [("set", 0, NUM)])], "size")

    def test_the_first_body_before_the_second(self):
        for (one, expected), (other, _) in itertools.permutations(LEAVES, 2):
            self.expect([("if", ZERO, [("set", 0, one)], [("set", 0, other)])], expected)
            self.expect([("if", ZERO, [STEP, ("if", ZERO, [], [("set", 0, one)])], [("set", 0, other)])], expected)

    def test_the_statements_inside_before_the_next_statement(self):
        for (one, expected), (other, _) in itertools.permutations(LEAVES, 2):
            behind = ("set", 0, other)
            for inside in ([("set", 0, one)], [STEP, ("if", ZERO, [], [("set", 0, one)])]):
                self.expect([("if", ZERO, inside, []), behind], expected)
                self.expect([("if", ZERO, [], inside), behind], expected)
                self.expect([("loop", 0, 1, inside), behind], expected)
                self.expect([("loop", 0, 1, [("if", ZERO, inside, []), behind])], expected)


class InStatements(Ordered):
    """The order within a statement."""

    def test_set(self):
        for e in (NUM, DEEP):
            for v in (-1, 2):
                self.expect([("set", v, e)], "variable")

    def test_loop(self):
        for v, count in itertools.product((-1, 2), (0, 9)):
            self.expect([("loop", v, count, [])], "variable")
            self.expect([("loop", v, count, [("set", 0, NUM)])], "variable")

    def test_write_the_place_in_get_first(self):
        for leaf, _ in LEAVES:
            self.expect([("write", leaf, [ZERO])], "write", ["get"])
            self.expect([("write", ZERO, [leaf])], "write", ["get"])
        self.expect([("write", ZERO, [])], "write", ["get"])
        self.expect([("write", ("value",), [("value",)] * 2)], "write", ["get"])

    def test_write_the_sector_before_the_number(self):
        for leaf, expected in LEAVES:
            for words in ([], [ZERO] * 2):
                self.expect([("write", leaf, words)], expected, WRITING)
        self.expect([("write", ("value",), [])], "argument", ["sync", "recover"])

    def test_write_the_number_before_the_expressions(self):
        for leaf, _ in LEAVES:
            for many in (1, 2, 4, 5):
                self.expect([("write", ZERO, [leaf] * many)], "width", WRITING, width=3)

    def test_write_the_sector_before_the_expressions(self):
        for (one, expected), (other, _) in itertools.permutations(LEAVES, 2):
            self.expect([("write", one, [other])], expected, WRITING)

    def test_write_the_expressions_in_order(self):
        for (one, expected), (other, _) in itertools.permutations(LEAVES, 2):
            self.expect([("write", ZERO, [one, other])], expected, WRITING, width=2)
            self.expect([("write", ZERO, [ZERO, ZERO, one, other])], expected, WRITING, width=4)


class InExpressions(unittest.TestCase):
    """The depth, then what stands in the expression from left to right."""

    def expect(self, e, expected):
        for where in BODIES:
            for statement in (("set", 0, e), ("if", e, [], [])):
                self.assertEqual(rule_of_body(where, [statement]), expected, (where, statement))
        self.assertEqual(rule(make(found=e)), expected, e)

    def test_depth_first(self):
        for leaf in (NUM, VAR):
            self.expect(deep(6, leaf), "size")
            self.expect(("+", leaf, deep(5)), "size")
            self.expect(("+", deep(5), leaf), "size")
            self.expect(("read", ("+", leaf, leaf), deep(5, leaf)), "size")
        for where in ("sync", "recover"):
            self.assertEqual(rule_of_body(where, [("set", 0, deep(6, ("key",)))]), "size")
        self.assertEqual(rule(make(found=deep(6, ("value",)))), "size")

    def test_from_left_to_right(self):
        leaves = ((NUM, "word"), (VAR, "variable"))
        for (one, expected), (other, _) in itertools.permutations(leaves, 2):
            for tag in ("+", "-", "*", "==", "<", "and", "or", "read"):
                self.expect((tag, one, other), expected)
                self.expect((tag, deep(4, one), other), expected)
                self.expect((tag, one, deep(4, other)), expected)
                self.expect((tag, ("+", ZERO, one), (tag, other, other)), expected)
                self.expect(("not", ("sum", (tag, one, other))), expected)

    def test_arguments_among_the_others(self):
        for (one, expected), (other, _) in itertools.permutations(((NUM, "word"), (VAR, "variable")), 2):
            for where in ("sync", "recover"):
                self.assertEqual(rule_of_body(where, [("set", 0, ("+", ("key",), one))]), "argument")
                self.assertEqual(rule_of_body(where, [("set", 0, ("+", one, ("key",)))]), expected)
            self.assertEqual(rule(make(found=("<", ("value",), other))), "argument")
            self.assertEqual(rule(make(found=("<", one, ("value",)))), expected)


if __name__ == "__main__":
    unittest.main()
