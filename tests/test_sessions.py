"""Promise 7: the cuts of a session, and what is allowed at each (points 6.1, 6.2 and 0.9)."""

import copy
import random
import unittest

from salvor.catalogue import journal_store, plain_store, two_slots
from salvor.disks import blank
from salvor.machine import Machine
from salvor.sessions import after, session_cuts
from tests.builders import ZERO, make
from tests.model import Maker, Model
from tests.slow import expected_cuts

BARRIER = ("barrier",)
SYNC = ("sync",)


def put(word, key=0):
    return ("put", key, word)


def one(word):
    return ("num", word)


def fresh(store):
    return Machine(store, blank(store[1], store[2]))


def words(*allowed):
    """Returns mappings of one key."""
    return tuple((word,) for word in allowed)


def allowed_of(store, deeds, base, machine=None):
    """Returns the allowed mappings of each cut."""
    return [allowed for _, allowed in session_cuts(machine or fresh(store), deeds, base)]


class After(unittest.TestCase):
    def test_a_put_changes_one_place(self):
        base = (1, 2, 3)
        self.assertEqual(after(base, put(9, 0)), (9, 2, 3))
        self.assertEqual(after(base, put(9, 1)), (1, 9, 3))
        self.assertEqual(after(base, put(0, 2)), (1, 2, 0))
        self.assertEqual(after((4,), put(15)), (15,))
        self.assertEqual(base, (1, 2, 3))

    def test_the_same_word_again(self):
        self.assertEqual(after((1, 2), put(2, 1)), (1, 2))

    def test_a_sync_changes_nothing(self):
        for base in ((0,), (1, 2), (3, 3, 3)):
            self.assertEqual(after(base, SYNC), base)

    def test_a_tuple_is_returned(self):
        self.assertIs(type(after((1, 2), put(3, 1))), tuple)
        self.assertIs(type(after((1, 2), SYNC)), tuple)


class Cuts(unittest.TestCase):
    def test_the_example_of_the_interface(self):
        found = session_cuts(Machine(plain_store(1, False), ((0,),)), [put(5)], (0,))
        behind = (((0,),), ((0, (5,)),))
        self.assertEqual(found, [((((0,),), ()), words(0)), (behind, words(0, 5)), (behind, words(0, 5))])
        self.assertTrue(all(type(pair) is tuple and type(pair[1]) is tuple for pair in found))

    def test_no_deeds(self):
        machine = fresh(plain_store(2, True))
        self.assertEqual(session_cuts(machine, [], (3, 4)), [((((0,), (0,)), ()), ((3, 4),))])
        self.assertEqual(machine.take_cuts(), [])

    def test_six_deeds(self):
        machine = fresh(plain_store(2, False))
        deeds = [put(5), put(6, 1), SYNC, put(5), put(4, 1), put(3)]
        none, full = ((0,), (0,)), ((5,), (6,))
        first, second = ((0, (5,)),), ((0, (5,)), (1, (6,)))
        last = ((0, (5,)), (1, (4,)), (0, (3,)))
        self.assertEqual(session_cuts(machine, deeds, (0, 0)), [
            ((none, ()), ((0, 0),)),
            ((none, first), ((0, 0), (5, 0))), ((none, first), ((0, 0), (5, 0))),
            ((none, second), ((0, 0), (5, 0), (5, 6))), ((none, second), ((0, 0), (5, 0), (5, 6))),
            ((full, ()), ((0, 0), (5, 0), (5, 6))), ((full, ()), ((5, 6),)),
            ((full, last[:1]), ((5, 6),)), ((full, last[:1]), ((5, 6),)),
            ((full, last[:2]), ((5, 4), (5, 6))), ((full, last[:2]), ((5, 4), (5, 6))),
            ((full, last), ((3, 4), (5, 4), (5, 6))), ((full, last), ((3, 4), (5, 4), (5, 6)))])
        self.assertEqual(machine.take_cuts(), [])
        self.assertEqual(machine.mapping(), (3, 4))
        self.assertEqual(machine.disk.snapshot(), (full, last))

    def test_the_cuts_of_a_journal(self):
        machine = fresh(journal_store(1, True))
        none = (0, 0, 0)
        told, both, done = ((1, 0, 7), none), ((1, 0, 7), (7, 0, 0)), (none, (7, 0, 0))
        snapshots = [((none, none), ((0, (1, 0, 7)),)), (told, ()), (told, ((1, (7, 0, 0)),)), (both, ()),
                     (both, ((0, none),)), (done, ()), (done, ())]
        expected = [(((none, none), ()), words(2))] + [(snapshot, words(2, 7)) for snapshot in snapshots]
        expected += [((done, ()), words(2, 7)), ((done, ()), words(7))]
        self.assertEqual(session_cuts(machine, [put(7), SYNC], (2,)), expected)

    def test_bodies_without_cuts(self):
        store = make(put=[("set", 0, ("value",))], found=("var", 0))
        machine = fresh(store)
        found = session_cuts(machine, [put(3), SYNC, put(4)], (0,))
        self.assertEqual(found, [((((0,),), ()), allowed) for allowed in (words(0), words(0, 3), words(3), words(3, 4))])
        self.assertEqual(machine.mapping(), (4,))

    def test_bodies_with_several_cuts(self):
        rounds = ("loop", 0, 2, [("write", ZERO, [("+", ("value",), ("var", 0))]), BARRIER])
        sync = [BARRIER, ("if", one(1), [("write", ZERO, [one(1)])], []), BARRIER]
        machine = fresh(make(put=[rounds], sync=sync, found=("read", ZERO, ZERO)))
        found = session_cuts(machine, [SYNC, put(4)], (0,))
        self.assertEqual(found, [
            ((((0,),), ()), words(0)),
            ((((0,),), ()), words(0)), ((((0,),), ((0, (1,)),)), words(0)), ((((1,),), ()), words(0)),
            ((((1,),), ()), words(0)),
            ((((1,),), ((0, (4,)),)), words(0, 4)), ((((4,),), ()), words(0, 4)),
            ((((4,),), ((0, (5,)),)), words(0, 4)), ((((5,),), ()), words(0, 4)),
            ((((5,),), ()), words(0, 4))])

    def test_pending_writes_before(self):
        machine = fresh(plain_store(2, False))
        machine.run(machine.store[5], {"key": 1, "value": 8})
        machine.take_cuts()
        none, pending = ((0,), (0,)), ((1, (8,)), (0, (5,)))
        self.assertEqual(session_cuts(machine, [put(5), SYNC], (0, 8)), [
            ((none, pending[:1]), ((0, 8),)),
            ((none, pending), ((0, 8), (5, 8))), ((none, pending), ((0, 8), (5, 8))),
            ((((5,), (8,)), ()), ((0, 8), (5, 8))), ((((5,), (8,)), ()), ((5, 8),))])

    def test_variables_before(self):
        store = make(put=[("set", 0, ("+", ("var", 0), one(1))), ("write", ZERO, [("var", 0)])])
        machine = fresh(store)
        machine.variables[0] = 6
        self.assertEqual([cut for cut, _ in session_cuts(machine, [put(1), put(1)], (0,))][2:], [
            (((0,),), ((0, (7,)),)), (((0,),), ((0, (7,)), (0, (8,)))), (((0,),), ((0, (7,)), (0, (8,))))])
        self.assertEqual(machine.variables, [8, 0])

    def test_key_and_value_reach_the_body(self):
        machine = fresh(make(3, 2, 3, 0, [("write", ("key",), [("value",), ("key",)])]))
        cuts = session_cuts(machine, [put(9, 2), put(15, 0)], (0, 0, 0))
        self.assertEqual(cuts[-1][0][1], ((2, (9, 2)), (0, (15, 0))))


class Allowed(unittest.TestCase):
    """The body of put has one cut, so each put has two cuts behind it; a sync has two, or one in a store without."""

    def test_words_that_come_again(self):
        store = plain_store(1, False)
        expected = [words(4)] + [words(2, 4)] * 4 + [words(2, 4, 9)] * 2 + [words(2, 4, 9)] * 2
        self.assertEqual(allowed_of(store, [put(2), put(4), put(9), put(2)], (4,)), expected)
        self.assertEqual(allowed_of(store, [put(4), put(4)], (4,)), [words(4)] * 5)

    def test_ascending_order(self):
        expected = [words(9), words(7, 9), words(7, 9), words(7, 8, 9), words(7, 8, 9)]
        self.assertEqual(allowed_of(plain_store(1, False), [put(7), put(8)], (9,)), expected)
        expected = [((5, 5),)] + [((5, 1), (5, 5))] * 2 + [((3, 1), (5, 1), (5, 5))] * 2
        self.assertEqual(allowed_of(plain_store(2, False), [put(1, 1), put(3, 0)], (5, 5)), expected)

    def test_a_sync_first(self):
        expected = [words(0)] * 3 + [words(0, 6)] * 2
        self.assertEqual(allowed_of(plain_store(1, False), [SYNC, put(6)], (0,)), expected)

    def test_a_sync_in_the_middle(self):
        expected = [words(0)] + [words(0, 6)] * 3 + [words(6)] + [words(6, 7)] * 2
        self.assertEqual(allowed_of(plain_store(1, False), [put(6), SYNC, put(7)], (0,)), expected)

    def test_a_sync_last(self):
        expected = [words(0)] + [words(0, 6)] * 2 + [words(0, 6, 7)] * 3 + [words(7)]
        self.assertEqual(allowed_of(plain_store(1, False), [put(6), put(7), SYNC], (0,)), expected)

    def test_two_syncs_in_a_row(self):
        expected = [words(0)] + [words(0, 6)] * 3 + [words(6)] * 3 + [words(5, 6)] * 2
        self.assertEqual(allowed_of(plain_store(1, False), [put(6), SYNC, SYNC, put(5)], (0,)), expected)

    def test_two_syncs_with_puts_between(self):
        expected = [words(0)] + [words(0, 3)] * 3 + [words(3)] + [words(2, 3)] * 3 + [words(2)] + [words(1, 2)] * 2
        self.assertEqual(allowed_of(plain_store(1, False), [put(3), SYNC, put(2), SYNC, put(1)], (0,)), expected)

    def test_a_sync_without_cuts(self):
        store = make(put=[("write", ZERO, [("value",)])])
        self.assertEqual(allowed_of(store, [put(6), SYNC], (0,)), [words(0), words(0, 6), words(0, 6), words(6)])

    def test_another_base_than_the_mapping_of_the_machine(self):
        machine = Machine(plain_store(2, False), ((1,), (2,)))
        expected = [((8, 9),)] + [((5, 9), (8, 9))] * 2
        self.assertEqual(allowed_of(None, [put(5)], (8, 9), machine), expected)
        self.assertEqual(machine.mapping(), (5, 2))


class Arguments(unittest.TestCase):
    def test_nothing_but_the_machine_changes(self):
        for store in (plain_store(2, True), journal_store(2, False)):
            deeds, base, contents = [put(1), SYNC, put(2, 1)], (3, 4), blank(store[1], store[2])
            before = copy.deepcopy((store, deeds, base, contents))
            machine = Machine(store, contents)
            cuts = session_cuts(machine, deeds, base)
            self.assertEqual((store, deeds, base, contents), before)
            self.assertEqual(machine.store, store)
            self.assertEqual(machine.take_cuts(), [])
            again = session_cuts(Machine(store, contents), deeds, base)
            self.assertEqual(again, cuts)
            cuts.clear()
            self.assertNotEqual(again, [])
            self.assertEqual(deeds, before[1])


class Compared(unittest.TestCase):
    def compare(self, dice, store):
        contents = tuple(tuple(dice.randrange(16) for _ in range(store[2])) for _ in range(store[1]))
        deeds = [SYNC if dice.randrange(3) == 0 else put(dice.randrange(4), dice.randrange(store[3]))
                 for _ in range(dice.randint(0, 6))]
        base = tuple(dice.randrange(4) for _ in range(store[3]))
        machine, model = Machine(store, contents), Model(store, contents)
        for body in dice.choices((store[6], store[7]), k=dice.randrange(3)):
            machine.run(body, {})
            model.run(body, {})
        machine.take_cuts()
        before = copy.deepcopy((store, deeds))
        self.assertEqual(session_cuts(machine, deeds, base), expected_cuts(model, deeds, base), (store, deeds))
        self.assertEqual(machine.take_cuts(), [])
        self.assertEqual((store, deeds), before)

    def test_any_stores(self):
        dice = random.Random(61)
        maker = Maker(dice)
        for _ in range(120):
            self.compare(dice, maker.store())

    def test_the_catalogue(self):
        dice = random.Random(62)
        for flag in (False, True):
            for keys in (1, 2, 3):
                for store in (plain_store(keys, flag), journal_store(keys, flag), two_slots(flag)):
                    for _ in range(4):
                        self.compare(dice, store)


if __name__ == "__main__":
    unittest.main()
