"""Whole machines: points 5.1 to 5.3, mappings, duplicates, and any stores against a second machine."""

import copy
import random
import unittest

from salvor.catalogue import plain_store, two_slots
from salvor.disks import blank
from salvor.machine import Machine
from tests.builders import ZERO, make
from tests.model import Maker, Model

BARRIER = ("barrier",)
PUT, SYNC, RECOVER = 5, 6, 7


def num(word):
    return ("num", word)


def fresh(store):
    return Machine(store, blank(store[1], store[2]))


def put(machine, key, word):
    machine.run(machine.store[PUT], {"key": key, "value": word})


def described(machine):
    """Returns the variables, the snapshot and the mapping of a machine."""
    return list(machine.variables), machine.disk.snapshot(), machine.mapping()


class Fields(unittest.TestCase):
    def test_of_a_new_machine(self):
        store = two_slots(False)
        contents = ((1, 2), (3, 4))
        machine = Machine(store, contents)
        self.assertEqual(machine.store, store)
        self.assertEqual(machine.variables, [0, 0])
        self.assertIs(type(machine.variables), list)
        self.assertEqual(machine.disk.snapshot(), (contents, ()))
        self.assertEqual(machine.take_cuts(), [])

    def test_no_list_is_shared(self):
        inner = [("write", ZERO, [("value",)])]
        store = make(variables=1, put=[("if", num(1), inner, [])], get=[("set", 0, num(3))], found=("var", 0))
        machine = Machine(store, ((0,),))
        twin = machine.duplicate()
        before = copy.deepcopy(store)
        inner[0][2][0] = num(9)
        inner.append(BARRIER)
        store[PUT].clear()
        store[8][0].clear()
        for one in (machine, twin):
            self.assertEqual(one.store, before)
            self.assertEqual(one.mapping(), (3,))
        twin.store[PUT][0][2].clear()
        self.assertEqual(machine.store, before)


class Mappings(unittest.TestCase):
    def test_a_word_for_each_key(self):
        store = make(4, 1, 3, 0, found=("read", ("key",), ZERO))
        machine = Machine(store, ((7,), (8,), (9,), (10,)))
        self.assertEqual(machine.mapping(), (7, 8, 9))
        self.assertIs(type(machine.mapping()), tuple)
        self.assertEqual(Machine(make(found=num(4)), ((0,),)).mapping(), (4,))

    def test_what_is_in_the_cache_is_found(self):
        machine = fresh(plain_store(2, False))
        put(machine, 1, 6)
        self.assertEqual(machine.mapping(), (0, 6))
        machine.disk.barrier()
        self.assertEqual(machine.mapping(), (0, 6))

    def test_a_body_that_sets_variables(self):
        body = [("set", 0, ("+", ("var", 0), ("key",))), ("set", 1, ("+", ("var", 1), num(1)))]
        store = make(1, 1, 3, 2, get=body, found=("+", ("*", ("var", 0), num(4)), ("var", 1)))
        machine = fresh(store)
        self.assertEqual(machine.mapping(), (1, 5, 9))
        self.assertEqual(machine.mapping(), (1, 5, 9))
        self.assertEqual(machine.variables, [0, 0])
        machine.variables[1] = 2
        self.assertEqual(machine.mapping(), (3, 7, 11))
        self.assertEqual(machine.variables, [0, 2])

    def test_a_body_that_loops(self):
        step = ("set", 1, ("+", ("var", 1), ("read", ("var", 0), ("key",))))
        store = make(3, 2, 2, 2, get=[("loop", 0, 3, [step])], found=("+", ("var", 1), ("var", 0)))
        machine = Machine(store, ((1, 2), (3, 4), (5, 7)))
        self.assertEqual(machine.mapping(), (11, 15))
        self.assertEqual(machine.variables, [0, 0])

    def test_nothing_changes(self):
        store = make(1, 1, 2, 1, [("write", ZERO, [num(5)]), ("set", 0, num(3))], [], [],
                     [("if", ("key",), [("set", 0, num(9))], [("loop", 0, 8, [])])], ("var", 0))
        machine = fresh(store)
        put(machine, 0, 0)
        before = (list(machine.variables), machine.disk.snapshot())
        self.assertEqual(machine.mapping(), (7, 9))
        self.assertEqual((machine.variables, machine.disk.snapshot()), before)
        self.assertEqual(machine.take_cuts(), [(((0,),), ((0, (5,)),))])
        self.assertEqual(machine.mapping(), (7, 9))
        self.assertEqual(machine.take_cuts(), [])


class Duplicates(unittest.TestCase):
    def setUp(self):
        self.machine = fresh(two_slots(False))
        put(self.machine, 0, 5)
        self.before = ([0, 1], (((0, 0), (0, 0)), ((1, (1, 5)),)), (5,))

    def test_the_same_state_without_cuts(self):
        twin = self.machine.duplicate()
        self.assertIs(type(twin), Machine)
        self.assertEqual(twin.store, self.machine.store)
        self.assertEqual(described(twin), self.before)
        self.assertEqual(twin.take_cuts(), [])
        self.assertEqual(described(self.machine), self.before)
        self.assertEqual(len(self.machine.take_cuts()), 1)
        self.assertEqual(described(self.machine.duplicate()), self.before)

    def test_behind_a_barrier(self):
        self.machine.run([BARRIER, ("write", num(1), [num(2), num(3)]), ("write", num(1), [num(1), num(6)])], {})
        self.machine.take_cuts()
        twin = self.machine.duplicate()
        state = (((0, 0), (1, 5)), ((1, (2, 3)), (1, (1, 6))))
        self.assertEqual(described(twin), ([0, 1], state, (6,)))
        self.assertEqual(twin.disk.look(1), [1, 6])
        twin.run([BARRIER], {})
        self.assertEqual(twin.take_cuts(), [(((0, 0), (1, 6)), ())])
        self.assertEqual(described(self.machine), ([0, 1], state, (6,)))

    def test_changes_of_the_duplicate(self):
        twin = self.machine.duplicate()
        put(twin, 0, 9)
        twin.run(twin.store[SYNC], {})
        self.assertEqual(described(self.machine), self.before)
        self.assertEqual(self.machine.take_cuts(), [(((0, 0), (0, 0)), ((1, (1, 5)),))])
        self.assertEqual(described(twin), ([1, 0], (((2, 9), (1, 5)), ()), (9,)))
        self.assertEqual(len(twin.take_cuts()), 2)
        twin.variables[0] = 15
        self.assertEqual(self.machine.variables, [0, 1])

    def test_changes_of_the_machine(self):
        twin = self.machine.duplicate()
        put(self.machine, 0, 9)
        self.machine.run([BARRIER], {})
        self.machine.variables[1] = 15
        self.assertEqual(described(twin), self.before)
        self.assertEqual(twin.take_cuts(), [])
        self.assertEqual(len(self.machine.take_cuts()), 3)

    def test_both_behave_alike(self):
        twin = self.machine.duplicate()
        self.machine.take_cuts()
        for word in (1, 2, 3):
            for one in (self.machine, twin):
                put(one, 0, word)
                one.run(one.store[RECOVER], {})
            self.assertEqual(described(twin), described(self.machine))
            self.assertEqual(twin.take_cuts(), self.machine.take_cuts())


class Compared(unittest.TestCase):
    """Any valid stores, against a second machine that works in another way."""

    def test_any_runs(self):
        dice = random.Random(5)
        maker = Maker(dice)
        for _ in range(150):
            self.compare(maker.store(), dice)

    def compare(self, store, dice):
        contents = tuple(tuple(dice.randrange(16) for _ in range(store[2])) for _ in range(store[1]))
        before = copy.deepcopy(store)
        machine, model = Machine(store, contents), Model(store, contents)
        cuts = []
        for _ in range(6):
            body, given = self.deed(store, dice)
            machine.run(body, given)
            model.run(body, given)
            cuts += machine.take_cuts() if dice.randrange(2) else []
            machine = machine.duplicate() if cuts == model.state["cuts"] else machine
        cuts += machine.take_cuts()
        found = (machine.variables, machine.disk.snapshot(), cuts, machine.mapping())
        self.assertEqual(found, model.described(), store)
        self.assertEqual(store, before)

    def deed(self, store, dice):
        which = dice.choice((PUT, PUT, SYNC, RECOVER))
        given = {"key": dice.randrange(store[3]), "value": dice.randrange(16)} if which == PUT else {}
        return store[which], given

    def test_values(self):
        dice = random.Random(51)
        maker = Maker(dice)
        for _ in range(60):
            store = maker.store()
            contents = tuple(tuple(dice.randrange(16) for _ in range(store[2])) for _ in range(store[1]))
            machine, model = Machine(store, contents), Model(store, contents)
            given = {"key": dice.randrange(store[3]), "value": dice.randrange(16)}
            for one in (machine, model):
                one.run(store[PUT], given)
            for levels in (0, 1, 2, 3, 4, 4, 4, 4):
                e = maker.expression(levels, [("key",), ("value",)])
                self.assertEqual(machine.value(e, given), model.value(e, given), e)


if __name__ == "__main__":
    unittest.main()
