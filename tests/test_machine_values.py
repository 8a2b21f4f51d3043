"""The values of expressions: points 0.5, 1.1 and 5.1."""

import unittest

from salvor.machine import Machine
from tests.builders import make

CONTENTS = ((1, 2, 3), (4, 5, 6), (14, 15, 13), (0, 0, 7))
WORDS = range(16)


def num(word):
    return ("num", word)


class Values(unittest.TestCase):
    def setUp(self):
        self.machine = Machine(make(4, 3, variables=3), CONTENTS)
        self.machine.variables[1] = 9

    def expect(self, e, word, given=None):
        found = self.machine.value(e, {} if given is None else given)
        self.assertEqual(found, word, e)
        self.assertIs(type(found), int, e)

    def test_num(self):
        for word in WORDS:
            self.expect(num(word), word)

    def test_var(self):
        self.expect(("var", 0), 0)
        self.expect(("var", 1), 9)
        self.machine.run([("set", 2, num(15))], {})
        self.expect(("var", 2), 15)

    def test_arguments(self):
        given = {"key": 2, "value": 13}
        self.expect(("key",), 2, given)
        self.expect(("value",), 13, given)
        self.expect(("-", ("key",), ("value",)), 5, given)
        self.expect(("read", ("key",), ("key",)), 13, {"key": 2})
        self.assertEqual(given, {"key": 2, "value": 13})

    def test_read(self):
        for a in WORDS:
            for b in WORDS:
                self.expect(("read", num(a), num(b)), CONTENTS[a % 4][b % 3])

    def test_read_beyond_the_ends(self):
        self.expect(("read", num(4), num(3)), 1)
        self.expect(("read", num(5), num(0)), 4)
        self.expect(("read", num(3), num(5)), 7)
        self.expect(("read", num(15), num(14)), 7)

    def test_sum(self):
        for a in WORDS:
            self.expect(("sum", num(a)), [6, 15, 10, 7][a % 4])

    def test_sum_that_is_a_multiple_of_sixteen(self):
        machine = Machine(make(2, 4), ((15, 15, 15, 15), (4, 4, 4, 4)))
        self.assertEqual([machine.value(("sum", num(a)), {}) for a in (0, 1, 2, 3)], [12, 0, 12, 0])

    def test_what_a_reader_sees(self):
        self.machine.disk.write(1, [8, 8, 1])
        self.expect(("read", num(1), num(2)), 1)
        self.expect(("sum", num(5)), 1)
        self.machine.disk.write(1, [7, 0, 0])
        self.expect(("read", num(9), num(0)), 7)
        self.machine.disk.barrier()
        self.expect(("read", num(1), num(0)), 7)
        self.expect(("sum", num(0)), 6)

    def test_not(self):
        for word in WORDS:
            self.expect(("not", num(word)), 1 if word == 0 else 0)
        self.expect(("not", ("not", num(7))), 1)

    def test_operators(self):
        tables = {"+": lambda a, b: (a + b) % 16, "-": lambda a, b: (a - b) % 16, "*": lambda a, b: (a * b) % 16,
                  "==": lambda a, b: int(a == b), "<": lambda a, b: int(a < b),
                  "and": lambda a, b: int(a > 0 and b > 0), "or": lambda a, b: int(a + b > 0)}
        for operator, table in tables.items():
            for a in WORDS:
                for b in WORDS:
                    self.expect((operator, num(a), num(b)), table(a, b))

    def test_both_operands_of_and_and_or(self):
        for word in (0, 1, 2, 15):
            for there in (("var", 1), ("sum", num(1)), ("not", num(0))):
                for e in (("and", num(word), there), ("and", there, num(word))):
                    self.expect(e, 1 if word else 0)
                for e in (("or", num(0), there), ("or", there, num(word))):
                    self.expect(e, 1)
            for none in (("var", 0), ("not", num(1)), ("read", num(3), num(0))):
                for e in (("and", num(word), none), ("and", none, num(word))):
                    self.expect(e, 0)
                for e in (("or", num(word), none), ("or", none, num(word))):
                    self.expect(e, 1 if word else 0)

    def test_deep_expressions(self):
        e = ("read", ("+", ("read", num(0), num(0)), num(2)), ("-", ("var", 0), num(14)))
        self.expect(e, 7)
        self.expect(("*", ("sum", e), ("+", e, ("not", e))), 1)

    def test_nothing_changes(self):
        before = self.machine.disk.snapshot()
        for e in (("read", num(7), num(7)), ("sum", num(7)), ("+", ("var", 1), ("var", 2))):
            self.machine.value(e, {})
        self.assertEqual(self.machine.disk.snapshot(), before)
        self.assertEqual(self.machine.variables, [0, 9, 0])
        self.assertEqual(self.machine.take_cuts(), [])


class Sizes(unittest.TestCase):
    def test_one_word(self):
        machine = Machine(make(1, 1), ((5,),))
        for a in WORDS:
            for b in WORDS:
                self.assertEqual(machine.value(("read", num(a), num(b)), {}), 5)

    def test_the_greatest_disk(self):
        contents = tuple(tuple((k + 3 * at) % 16 for at in range(4)) for k in range(6))
        machine = Machine(make(6, 4), contents)
        for a in WORDS:
            self.assertEqual(machine.value(("sum", num(a)), {}), sum(contents[a % 6]) % 16)
            for b in WORDS:
                self.assertEqual(machine.value(("read", num(a), num(b)), {}), contents[a % 6][b % 4])


if __name__ == "__main__":
    unittest.main()
