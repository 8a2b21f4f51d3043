"""Bodies that a machine executes, and their cuts: points 0.4 and 5.2."""

import unittest

from salvor.machine import Machine
from tests.builders import ZERO, make

BARRIER = ("barrier",)


def num(word):
    return ("num", word)


def plus(a, b):
    return ("+", a, b)


class Bodies(unittest.TestCase):
    def machine(self, contents=((0, 0), (0, 0), (0, 0)), variables=4):
        return Machine(make(len(contents), len(contents[0]), variables=variables), contents)

    def variables_after(self, body, given=None):
        machine = self.machine()
        self.assertIsNone(machine.run(body, {} if given is None else given))
        return machine.variables


class Variables(Bodies):
    def test_at_first(self):
        for variables in range(9):
            self.assertEqual(self.machine(variables=variables).variables, [0] * variables)

    def test_empty(self):
        self.assertEqual(self.variables_after([]), [0, 0, 0, 0])

    def test_set(self):
        self.assertEqual(self.variables_after([("set", 2, num(9))]), [0, 0, 9, 0])
        body = [("set", 0, num(5)), ("set", 1, plus(("var", 0), num(12))), ("set", 0, ("key",)),
                ("set", 3, ("value",))]
        self.assertEqual(self.variables_after(body, {"key": 2, "value": 11}), [2, 1, 0, 11])
        self.assertEqual(self.variables_after([("set", 1, plus(("var", 1), num(1)))] * 17), [0, 1, 0, 0])

    def test_they_stay_until_the_next_run(self):
        machine = self.machine()
        machine.run([("set", 0, num(3))], {})
        machine.run([("set", 1, plus(("var", 0), ("var", 0)))], {})
        self.assertEqual(machine.variables, [3, 6, 0, 0])


class Ifs(Bodies):
    def test_not_zero_is_the_first_body(self):
        for word in range(16):
            body = [("if", num(word), [("set", 0, num(1)), ("set", 1, num(1))], [("set", 2, num(1))])]
            self.assertEqual(self.variables_after(body), [1, 1, 0, 0] if word else [0, 0, 1, 0], word)

    def test_empty_bodies(self):
        for word in (0, 1, 15):
            for first, second in (([], [("set", 0, num(4))]), ([("set", 0, num(4))], [])):
                expected = [4, 0, 0, 0] if (first if word else second) else [0, 0, 0, 0]
                self.assertEqual(self.variables_after([("if", num(word), first, second)]), expected)

    def test_the_value_is_taken_once(self):
        body = [("set", 0, num(1)), ("if", ("var", 0), [("set", 0, ZERO), ("set", 1, num(7))], [("set", 2, num(7))])]
        self.assertEqual(self.variables_after(body), [0, 7, 0, 0])

    def test_within_one_another(self):
        inner = [("if", ("var", 1), [("set", 2, num(1))], [("set", 2, num(2))])]
        other = [("if", ("var", 1), [("set", 2, num(3))], [("set", 2, num(4))])]
        for a, b, expected in ((1, 1, 1), (15, 0, 2), (0, 15, 3), (0, 0, 4)):
            body = [("set", 0, num(a)), ("set", 1, num(b)), ("if", ("var", 0), inner, other)]
            self.assertEqual(self.variables_after(body), [a, b, expected, 0])


class Loops(Bodies):
    def test_the_rounds_and_the_variable_afterwards(self):
        for count in range(1, 9):
            step = [("set", 1, plus(("var", 1), num(1))), ("set", 2, plus(("var", 2), ("var", 0)))]
            expected = [count - 1, count, sum(range(count)) % 16, 0]
            self.assertEqual(self.variables_after([("loop", 0, count, step)]), expected)

    def test_an_empty_body(self):
        for count in (1, 8):
            self.assertEqual(self.variables_after([("set", 3, num(15)), ("loop", 3, count, [])]), [0, 0, 0, count - 1])

    def test_a_body_that_changes_the_variable(self):
        seen = ("set", 1, plus(("var", 1), ("var", 0)))
        for count in (1, 8):
            body = [("loop", 0, count, [seen, ("set", 0, num(15))])]
            self.assertEqual(self.variables_after(body), [15, sum(range(count)) % 16, 0, 0])
            body = [("loop", 0, count, [("set", 0, plus(("var", 0), num(5))), seen])]
            self.assertEqual(self.variables_after(body), [count + 4, (sum(range(count)) + 5 * count) % 16, 0, 0])

    def test_in_loops(self):
        step = [("set", 2, plus(("var", 2), num(1))), ("set", 3, plus(("*", ("var", 0), num(4)), ("var", 1)))]
        self.assertEqual(self.variables_after([("loop", 0, 3, [("loop", 1, 4, step)])]), [2, 3, 12, 11])
        self.assertEqual(self.variables_after([("loop", 0, 8, [("loop", 1, 8, step)] * 2)])[2], 0)

    def test_in_loops_with_the_same_variable(self):
        count = ("set", 1, plus(("var", 1), num(1)))
        last = ("set", 2, ("var", 0))
        body = [("loop", 0, 2, [("loop", 0, 5, [count]), last, count])]
        self.assertEqual(self.variables_after(body), [4, 12, 4, 0])

    def test_writes_in_loops(self):
        machine = self.machine()
        machine.run([("loop", 0, 4, [("write", ("var", 0), [("var", 0), num(1)])])], {})
        self.assertEqual(machine.disk.snapshot()[1], ((0, (0, 1)), (1, (1, 1)), (2, (2, 1)), (0, (3, 1))))
        self.assertEqual(len(machine.take_cuts()), 4)


class Writes(Bodies):
    def test_every_sector_number(self):
        for word in range(16):
            machine = self.machine()
            machine.run([("write", num(word), [num(1), num(2)])], {})
            self.assertEqual(machine.disk.snapshot(), (((0, 0),) * 3, ((word % 3, (1, 2)),)))

    def test_words_that_read_the_sector(self):
        contents = ((1, 2), (3, 4))
        machine = self.machine(contents)
        swap = ("write", ZERO, [("read", ZERO, num(1)), ("read", ZERO, ZERO)])
        machine.run([swap], {})
        self.assertEqual(machine.disk.snapshot(), (contents, ((0, (2, 1)),)))
        machine.run([swap, ("write", ("read", num(1), ZERO), [("sum", num(1)), ("sum", num(3))])], {})
        self.assertEqual(machine.disk.snapshot(), (contents, ((0, (2, 1)), (0, (1, 2)), (1, (7, 7)))))

    def test_arguments(self):
        machine = self.machine()
        machine.run([("write", ("key",), [("value",), ("key",)])], {"key": 2, "value": 14})
        self.assertEqual(machine.disk.snapshot()[1], ((2, (14, 2)),))

    def test_all_widths(self):
        for width in range(1, 5):
            machine = self.machine(((0,) * width,))
            machine.run([("write", num(5), [num(k) for k in range(width)])], {})
            self.assertEqual(machine.disk.look(0), list(range(width)))


class Cuts(Bodies):
    def setUp(self):
        self.first = ((0,), (0,))
        self.one = self.machine(self.first)

    def test_writes_and_barriers(self):
        body = [("write", ZERO, [num(5)]), ("set", 0, num(1)), ("write", num(1), [num(6)]), BARRIER, BARRIER,
                ("write", ZERO, [num(7)])]
        self.one.run(body, {})
        expected = [(self.first, ((0, (5,)),)), (self.first, ((0, (5,)), (1, (6,)))), (((5,), (6,)), ()),
                    (((5,), (6,)), ()), (((5,), (6,)), ((0, (7,)),))]
        cuts = self.one.take_cuts()
        self.assertEqual(cuts, expected)
        self.assertIs(type(cuts), list)

    def test_none(self):
        self.assertEqual(self.one.take_cuts(), [])
        self.one.run([("set", 0, num(1)), ("if", num(1), [], [BARRIER]), ("loop", 0, 8, [])], {})
        self.assertEqual(self.one.take_cuts(), [])

    def test_each_one_once(self):
        self.one.run([BARRIER], {})
        self.assertEqual(self.one.take_cuts(), [(self.first, ())])
        self.assertEqual(self.one.take_cuts(), [])
        self.one.run([("write", ZERO, [num(1)])], {})
        self.assertEqual(self.one.take_cuts(), [(self.first, ((0, (1,)),))])
        self.assertEqual(self.one.take_cuts(), [])

    def test_two_bodies_without_taking_them(self):
        self.one.run([("write", ZERO, [num(1)])], {})
        self.one.run([], {})
        self.one.run([BARRIER, ("write", num(1), [num(2)])], {})
        self.assertEqual(self.one.take_cuts(), [(self.first, ((0, (1,)),)), (((1,), (0,)), ()),
                                                (((1,), (0,)), ((1, (2,)),))])

    def test_taken_cuts_are_not_kept(self):
        self.one.run([BARRIER], {})
        cuts = self.one.take_cuts()
        self.one.run([BARRIER, BARRIER], {})
        self.assertEqual(len(cuts), 1)
        cuts.append(None)
        self.assertEqual(self.one.take_cuts(), [(self.first, ())] * 2)
        self.one.take_cuts().append(None)
        self.assertEqual(self.one.take_cuts(), [])

    def test_inside_statements(self):
        write = ("write", ("var", 0), [plus(("var", 0), num(1))])
        self.one.run([("if", num(3), [write], [BARRIER]), ("if", ZERO, [write], [BARRIER]),
                      ("loop", 0, 2, [write, ("if", ("var", 0), [BARRIER], [])])], {})
        done = ((1,), (0,))
        self.assertEqual(self.one.take_cuts(), [(self.first, ((0, (1,)),)), (done, ()), (done, ((0, (1,)),)),
                                                (done, ((0, (1,)), (1, (2,)))), (((1,), (2,)), ())])

    def test_only_those_of_bodies(self):
        self.one.disk.write(0, [3])
        self.one.disk.barrier()
        self.assertEqual(self.one.take_cuts(), [])
        self.one.run([("write", num(1), [num(2)])], {})
        self.assertEqual(self.one.take_cuts(), [(((3,), (0,)), ((1, (2,)),))])


class Arguments(Bodies):
    def test_nothing_given_is_modified(self):
        body = [("loop", 0, 2, [("write", ("var", 0), [("key",), ("value",)])]), BARRIER]
        given = {"key": 1, "value": 2}
        self.machine().run(body, given)
        self.assertEqual(given, {"key": 1, "value": 2})
        self.assertEqual(body, [("loop", 0, 2, [("write", ("var", 0), [("key",), ("value",)])]), BARRIER])


if __name__ == "__main__":
    unittest.main()
