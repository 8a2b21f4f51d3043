"""Runs of put, sync and recover one behind the other on one machine, for each store of the catalogue.

The cuts, the variables, the snapshot and the mapping are written out.
"""

import unittest

from salvor.catalogue import journal_store, plain_store, two_slots
from salvor.disks import blank
from salvor.machine import Machine

CLEAR = (0, 0, 0)
SYNC, RECOVER = ("sync",), ("recover",)


def put(key, word):
    return ("put", key, word)


def perform(machine, deed):
    """Runs put, sync or recover."""
    given = {"key": deed[1], "value": deed[2]} if deed[0] == "put" else {}
    machine.run(machine.store[("put", "sync", "recover").index(deed[0]) + 5], given)


class Catalogue(unittest.TestCase):
    def run_all(self, store, steps, variables, snapshot, mapping):
        """Runs deeds, each with its cuts, on a blank disk; then compares the state of the machine."""
        machine = Machine(store, blank(store[1], store[2]))
        for at, (deed, cuts) in enumerate(steps):
            twin = machine.duplicate()
            perform(machine, deed)
            self.assertEqual(machine.take_cuts(), cuts, (at, deed))
            self.assertEqual(machine.take_cuts(), [])
            perform(twin, deed)
            self.assertEqual(twin.take_cuts(), cuts, (at, deed))
        self.compare(machine, variables, snapshot, mapping)
        self.run_on(machine.duplicate())
        self.compare(machine, variables, snapshot, mapping)

    def compare(self, machine, variables, snapshot, mapping):
        self.assertEqual(machine.variables, variables)
        self.assertEqual(machine.disk.snapshot(), snapshot)
        self.assertEqual(machine.mapping(), mapping)
        self.assertEqual(machine.take_cuts(), [])

    def run_on(self, twin):
        for deed in (put(0, 11), RECOVER, put(0, 12), SYNC, put(0, 13)):
            perform(twin, deed)
        self.assertEqual(twin.mapping()[0], 13)

    def test_plain_with_one_key(self):
        cuts = [(((0,),), ((0, (5,)),)), (((0,),), ((0, (5,)), (0, (9,)))), (((9,),), ()), (((9,),), ((0, (3,)),))]
        steps = [(put(0, 5), cuts[:1]), (RECOVER, []), (put(0, 9), cuts[1:2]), (SYNC, cuts[2:3]), (put(0, 3), cuts[3:])]
        self.run_all(plain_store(1, False), steps, [], cuts[3], (3,))

    def test_plain_with_one_key_and_barriers(self):
        steps = [(put(0, 5), [(((0,),), ((0, (5,)),)), (((5,),), ())]),
                 (SYNC, [(((5,),), ())]),
                 (RECOVER, []),
                 (put(0, 5), [(((5,),), ((0, (5,)),)), (((5,),), ())])]
        self.run_all(plain_store(1, True), steps, [], (((5,),), ()), (5,))

    def test_plain_with_two_keys(self):
        none = ((0,), (0,))
        steps = [(put(1, 6), [(none, ((1, (6,)),))]),
                 (put(0, 5), [(none, ((1, (6,)), (0, (5,))))]),
                 (RECOVER, []),
                 (SYNC, [(((5,), (6,)), ())]),
                 (put(1, 0), [(((5,), (6,)), ((1, (0,)),))])]
        self.run_all(plain_store(2, False), steps, [], (((5,), (6,)), ((1, (0,)),)), (5, 0))

    def test_plain_with_two_keys_and_barriers(self):
        steps = [(put(0, 5), [(((0,), (0,)), ((0, (5,)),)), (((5,), (0,)), ())]),
                 (put(1, 6), [(((5,), (0,)), ((1, (6,)),)), (((5,), (6,)), ())]),
                 (SYNC, [(((5,), (6,)), ())]),
                 (RECOVER, [])]
        self.run_all(plain_store(2, True), steps, [], (((5,), (6,)), ()), (5, 6))

    def test_plain_with_three_keys(self):
        none = ((0,), (0,), (0,))
        pending = ((2, (7,)), (0, (1,)), (2, (8,)))
        steps = [(put(2, 7), [(none, pending[:1])]),
                 (put(0, 1), [(none, pending[:2])]),
                 (put(2, 8), [(none, pending)]),
                 (SYNC, [(((1,), (0,), (8,)), ())]),
                 (SYNC, [(((1,), (0,), (8,)), ())])]
        self.run_all(plain_store(3, False), steps, [], (((1,), (0,), (8,)), ()), (1, 0, 8))

    def test_plain_with_three_keys_and_barriers(self):
        steps = [(put(2, 15), [(((0,), (0,), (0,)), ((2, (15,)),)), (((0,), (0,), (15,)), ())]),
                 (RECOVER, []),
                 (put(1, 4), [(((0,), (0,), (15,)), ((1, (4,)),)), (((0,), (4,), (15,)), ())])]
        self.run_all(plain_store(3, True), steps, [], (((0,), (4,), (15,)), ()), (0, 4, 15))

    def test_two_slots(self):
        none = ((0, 0), (0, 0))
        pending = ((1, (1, 7)), (0, (2, 8)), (1, (3, 9)))
        full = ((2, 8), (3, 9))
        steps = [(put(0, 7), [(none, pending[:1])]),
                 (put(0, 8), [(none, pending[:2])]),
                 (put(0, 9), [(none, pending)]),
                 (SYNC, [(full, ())]),
                 (put(0, 6), [(full, ((0, (4, 6)),))]),
                 (RECOVER, [(((4, 6), (3, 9)), ())]),
                 (RECOVER, [(((4, 6), (3, 9)), ())])]
        self.run_all(two_slots(False), steps, [1, 0], (((4, 6), (3, 9)), ()), (6,))

    def test_two_slots_with_barriers(self):
        one, two = ((0, 0), (1, 7)), ((2, 8), (1, 7))
        steps = [(RECOVER, [(((0, 0), (0, 0)), ())]),
                 (put(0, 7), [(((0, 0), (0, 0)), ((1, (1, 7)),)), (one, ())]),
                 (put(0, 8), [(one, ((0, (2, 8)),)), (two, ())]),
                 (SYNC, [(two, ())]),
                 (put(0, 8), [(two, ((1, (3, 8)),)), (((2, 8), (3, 8)), ())])]
        self.run_all(two_slots(True), steps, [0, 1], (((2, 8), (3, 8)), ()), (8,))

    def test_journal_with_one_key(self):
        none = (CLEAR, CLEAR)
        pending = ((0, (1, 0, 9)), (1, (9, 0, 0)), (0, CLEAR), (0, (1, 0, 4)), (1, (4, 0, 0)), (0, CLEAR))
        steps = [(put(0, 9), [(none, pending[:many]) for many in (1, 2, 3)]),
                 (RECOVER, []),
                 (put(0, 4), [(none, pending[:many]) for many in (4, 5, 6)]),
                 (SYNC, [((CLEAR, (4, 0, 0)), ())])]
        self.run_all(journal_store(1, False), steps, [], ((CLEAR, (4, 0, 0)), ()), (4,))

    def test_an_ordered_journal_with_one_key(self):
        none, told = (CLEAR, CLEAR), ((1, 0, 9), CLEAR)
        both, done = ((1, 0, 9), (9, 0, 0)), (CLEAR, (9, 0, 0))
        cuts = [(none, ((0, (1, 0, 9)),)), (told, ()), (told, ((1, (9, 0, 0)),)), (both, ()),
                (both, ((0, CLEAR),)), (done, ())]
        steps = [(SYNC, [(none, ())]), (put(0, 9), cuts), (SYNC, [(done, ())]), (RECOVER, [])]
        self.run_all(journal_store(1, True), steps, [], (done, ()), (9,))

    def test_journal_with_two_keys(self):
        none = (CLEAR, CLEAR, CLEAR)
        pending = ((0, (1, 1, 9)), (2, (9, 0, 0)), (0, CLEAR))
        full = (CLEAR, CLEAR, (9, 0, 0))
        again = ((0, (1, 0, 3)), (1, (3, 0, 0)), (0, CLEAR))
        steps = [(put(1, 9), [(none, pending[:many]) for many in (1, 2, 3)]),
                 (SYNC, [(full, ())]),
                 (put(0, 3), [(full, again[:many]) for many in (1, 2, 3)]),
                 (RECOVER, [])]
        self.run_all(journal_store(2, False), steps, [], (full, again), (3, 9))

    def test_an_ordered_journal_with_two_keys(self):
        none, told = (CLEAR, CLEAR, CLEAR), ((1, 1, 9), CLEAR, CLEAR)
        both, done = ((1, 1, 9), CLEAR, (9, 0, 0)), (CLEAR, CLEAR, (9, 0, 0))
        cuts = [(none, ((0, (1, 1, 9)),)), (told, ()), (told, ((2, (9, 0, 0)),)), (both, ()),
                (both, ((0, CLEAR),)), (done, ())]
        self.run_all(journal_store(2, True), [(put(1, 9), cuts), (RECOVER, [])], [], (done, ()), (0, 9))

    def test_journal_with_three_keys(self):
        none = (CLEAR,) * 4
        pending = ((0, (1, 2, 15)), (3, (15, 0, 0)), (0, CLEAR), (0, (1, 0, 1)), (1, (1, 0, 0)), (0, CLEAR))
        steps = [(put(2, 15), [(none, pending[:many]) for many in (1, 2, 3)]),
                 (put(0, 1), [(none, pending[:many]) for many in (4, 5, 6)]),
                 (RECOVER, []),
                 (SYNC, [((CLEAR, (1, 0, 0), CLEAR, (15, 0, 0)), ())])]
        self.run_all(journal_store(3, False), steps, [], ((CLEAR, (1, 0, 0), CLEAR, (15, 0, 0)), ()), (1, 0, 15))

    def test_an_ordered_journal_with_three_keys(self):
        none, told = (CLEAR,) * 4, ((1, 2, 6), CLEAR, CLEAR, CLEAR)
        both, done = ((1, 2, 6), CLEAR, CLEAR, (6, 0, 0)), (CLEAR, CLEAR, CLEAR, (6, 0, 0))
        cuts = [(none, ((0, (1, 2, 6)),)), (told, ()), (told, ((3, (6, 0, 0)),)), (both, ()),
                (both, ((0, CLEAR),)), (done, ())]
        steps = [(put(2, 6), cuts), (SYNC, [(done, ())]), (RECOVER, [])]
        self.run_all(journal_store(3, True), steps, [], (done, ()), (0, 0, 6))


class Contents(unittest.TestCase):
    """Machines on disks that are not blank."""

    def test_a_journal_that_is_recovered(self):
        for ordered in (False, True):
            machine = Machine(journal_store(2, ordered), ((1, 1, 9), (4, 0, 0), CLEAR))
            self.assertEqual(machine.mapping(), (4, 0))
            perform(machine, RECOVER)
            full, done = ((1, 1, 9), (4, 0, 0), (9, 0, 0)), (CLEAR, (4, 0, 0), (9, 0, 0))
            self.assertEqual(machine.take_cuts(), [(((1, 1, 9), (4, 0, 0), CLEAR), ((2, (9, 0, 0)),)), (full, ()),
                                                   (full, ((0, CLEAR),)), (done, ())])
            self.assertEqual(machine.take_cuts(), [])
            self.assertEqual(machine.mapping(), (4, 9))
            perform(machine, RECOVER)
            self.assertEqual(machine.take_cuts(), [])

    def test_a_count_that_wraps(self):
        machine = Machine(two_slots(True), ((15, 3), (14, 4)))
        self.assertEqual(machine.mapping(), (3,))
        perform(machine, put(0, 6))
        self.assertEqual(machine.take_cuts(), [(((15, 3), (14, 4)), ((1, (0, 6)),)), (((15, 3), (0, 6)), ())])
        self.assertEqual(machine.variables, [0, 1])
        self.assertEqual(machine.mapping(), (3,))


if __name__ == "__main__":
    unittest.main()
