"""The stores of the catalogue: points 9.1 to 9.3, with the cuts that point 9.4 speaks of."""

import itertools
import unittest

from salvor.catalogue import journal_store, plain_store, two_slots
from salvor.machine import Machine
from salvor.stores import check
from tests.builders import lists_in

CLEAR = (0, 0, 0)
FLAGS = (False, True)
KEYS = (1, 2, 3)


def put(machine, key, word):
    """Runs put; returns its cuts."""
    machine.run(machine.store[5], {"key": key, "value": word})
    return machine.take_cuts()


def sync(machine):
    machine.run(machine.store[6], {})
    return machine.take_cuts()


def recover(machine):
    machine.run(machine.store[7], {})
    return machine.take_cuts()


class Stores(unittest.TestCase):
    def test_they_are_valid(self):
        for flag in FLAGS:
            self.assertIsNone(check(two_slots(flag)))
            for keys in KEYS:
                self.assertIsNone(check(plain_store(keys, flag)))
                self.assertIsNone(check(journal_store(keys, flag)))

    def test_their_numbers(self):
        for flag in FLAGS:
            self.assertEqual(two_slots(flag)[:5], ("store", 2, 2, 1, 2))
            for keys in KEYS:
                self.assertEqual(plain_store(keys, flag)[:5], ("store", keys, 1, keys, 0))
                self.assertEqual(journal_store(keys, flag)[:5], ("store", keys + 1, 3, keys, 0))

    def test_their_kinds(self):
        for store in (plain_store(2, True), two_slots(True), journal_store(2, True)):
            self.assertIs(type(store), tuple)
            self.assertEqual(len(store), 9)
            self.assertEqual([type(body) for body in store[5:8]], [list] * 3)
            self.assertEqual((type(store[8]), type(store[8][0]), len(store[8])), (tuple, list, 2))

    def test_no_list_is_shared(self):
        for make in (lambda: plain_store(2, True), lambda: two_slots(True), lambda: journal_store(2, True)):
            first, second = make(), make()
            self.assertEqual(first, second)
            lists = lists_in(first) + lists_in(second)
            self.assertEqual(len(set(id(found) for found in lists)), len(lists))
            first[5].clear()
            first[8][0].append(("barrier",))
            self.assertEqual(make(), second)


class Plain(unittest.TestCase):
    def test_put(self):
        for keys in KEYS:
            contents = ((1,), (2,), (3,))[:keys]
            for key in range(keys):
                changed = contents[:key] + ((9,),) + contents[key + 1:]
                cut = (contents, ((key, (9,)),))
                self.assertEqual(put(Machine(plain_store(keys, False), contents), key, 9), [cut])
                self.assertEqual(put(Machine(plain_store(keys, True), contents), key, 9), [cut, (changed, ())])

    def test_sync_and_recover(self):
        for keys, flag in itertools.product(KEYS, FLAGS):
            machine = Machine(plain_store(keys, flag), ((1,), (2,), (3,))[:keys])
            put(machine, keys - 1, 7)
            pending = machine.disk.snapshot()
            self.assertEqual(recover(machine), [])
            self.assertEqual(machine.disk.snapshot(), pending)
            self.assertEqual(sync(machine), [(((1,), (2,), (3,))[:keys - 1] + ((7,),), ())])

    def test_get(self):
        for keys, flag in itertools.product(KEYS, FLAGS):
            machine = Machine(plain_store(keys, flag), ((15,), (0,), (3,))[:keys])
            self.assertEqual(machine.mapping(), (15, 0, 3)[:keys])
            self.assertEqual(machine.variables, [])


class Slots(unittest.TestCase):
    def live_is(self, counts, live):
        """Tests get and put for two counts, when this slot is the live one."""
        contents = ((counts[0], 5), (counts[1], 6))
        other, count = 1 - live, (counts[live] + 1) % 16
        changed = tuple((count, 9) if slot == other else contents[slot] for slot in (0, 1))
        cut = (contents, ((other, (count, 9)),))
        for flag in FLAGS:
            machine = Machine(two_slots(flag), contents)
            self.assertEqual(machine.mapping(), (5 + live,), counts)
            self.assertEqual(put(machine, 0, 9), [cut, (changed, ())] if flag else [cut], counts)
            self.assertEqual(machine.mapping(), Machine(two_slots(flag), changed).mapping())

    def test_equal_counts(self):
        for count in (0, 1, 14, 15):
            self.live_is((count, count), 0)

    def test_a_less_count(self):
        for counts in ((0, 1), (3, 4), (0, 15), (14, 15), (7, 15)):
            self.live_is(counts, 1)

    def test_a_greater_count(self):
        for counts in ((1, 0), (4, 3), (15, 0), (15, 14), (2, 1)):
            self.live_is(counts, 0)

    def test_all_counts(self):
        for first, second in itertools.product(range(16), repeat=2):
            self.live_is((first, second), 1 if first < second else 0)

    def test_the_count_wraps(self):
        machine = Machine(two_slots(False), ((15, 5), (14, 6)))
        self.assertEqual(put(machine, 0, 9), [(((15, 5), (14, 6)), ((1, (0, 9)),))])
        self.assertEqual(machine.mapping(), (5,))
        machine = Machine(two_slots(False), ((14, 5), (15, 6)))
        self.assertEqual(put(machine, 0, 9), [(((14, 5), (15, 6)), ((0, (0, 9)),))])
        self.assertEqual(machine.mapping(), (6,))

    def test_sync_and_recover(self):
        for flag in FLAGS:
            machine = Machine(two_slots(flag), ((2, 5), (1, 6)))
            self.assertEqual(recover(machine), [(((2, 5), (1, 6)), ())])
            put(machine, 0, 9)
            self.assertEqual(sync(machine), [(((2, 5), (3, 9)), ())])
            put(machine, 0, 4)
            self.assertEqual(recover(machine), [(((4, 4), (3, 9)), ())])
            self.assertEqual(machine.mapping(), (4,))

    def test_the_live_slot_is_looked_for_each_time(self):
        machine = Machine(two_slots(False), ((1, 5), (0, 6)))
        machine.variables[:] = [9, 9]
        self.assertEqual(machine.mapping(), (5,))
        self.assertEqual([put(machine, 0, word)[-1][1][-1] for word in (1, 2, 3)],
                         [(1, (2, 1)), (0, (3, 2)), (1, (4, 3))])


class Journal(unittest.TestCase):
    def test_put(self):
        for keys, first in itertools.product(KEYS, (CLEAR, (1, 0, 4), (7, 8, 9))):
            contents = (first, (1, 2, 3), (4, 5, 6), (7, 8, 9))[:keys + 1]
            for key in range(keys):
                writes = ((0, (1, key, 13)), (key + 1, (13, 0, 0)), (0, CLEAR))
                loose = put(Machine(journal_store(keys, False), contents), key, 13)
                self.assertEqual(loose, [(contents, writes[:many]) for many in (1, 2, 3)])
                told = (writes[0][1],) + contents[1:]
                both = told[:key + 1] + ((13, 0, 0),) + told[key + 2:]
                self.assertEqual(put(Machine(journal_store(keys, True), contents), key, 13), [
                    (contents, writes[:1]), (told, ()), (told, writes[1:2]), (both, ()),
                    (both, writes[2:]), ((CLEAR,) + both[1:], ())])

    def test_sync(self):
        for keys, ordered in itertools.product(KEYS, FLAGS):
            machine = Machine(journal_store(keys, ordered), ((2, 0, 0),) + ((3, 3, 3),) * keys)
            machine.disk.write(keys, [8, 8, 8])
            self.assertEqual(sync(machine), [(((2, 0, 0),) + ((3, 3, 3),) * (keys - 1) + ((8, 8, 8),), ())])

    def test_recover_with_nothing_to_do(self):
        for keys, ordered in itertools.product(KEYS, FLAGS):
            contents = ((0, 1, 9),) + ((3, 3, 3),) * keys
            machine = Machine(journal_store(keys, ordered), contents)
            self.assertEqual(recover(machine), [])
            self.assertEqual(machine.disk.snapshot(), (contents, ()))

    def test_recover_with_a_put_to_finish(self):
        for keys, ordered, told in itertools.product(KEYS, FLAGS, (1, 2, 15)):
            for key in range(keys):
                first, rest = (told, key, 9), ((3, 4, 5),) * keys
                done = rest[:key] + ((9, 0, 0),) + rest[key + 1:]
                machine = Machine(journal_store(keys, ordered), (first,) + rest)
                self.assertEqual(recover(machine), [
                    ((first,) + rest, ((key + 1, (9, 0, 0)),)), ((first,) + done, ()),
                    ((first,) + done, ((0, CLEAR),)), ((CLEAR,) + done, ())])
                self.assertEqual(recover(machine), [])

    def test_recover_with_a_sector_that_is_no_key(self):
        machine = Machine(journal_store(2, True), ((1, 15, 9), (3, 4, 5), (6, 7, 8)))
        self.assertEqual(recover(machine)[1:], [(((9, 0, 0), (3, 4, 5), (6, 7, 8)), ()),
                                                (((9, 0, 0), (3, 4, 5), (6, 7, 8)), ((0, CLEAR),)),
                                                ((CLEAR, (3, 4, 5), (6, 7, 8)), ())])
        machine = Machine(journal_store(1, True), ((1, 2, 9), (3, 4, 5)))
        self.assertEqual(recover(machine)[-1], ((CLEAR, (9, 0, 0)), ()))

    def test_get(self):
        for keys, ordered in itertools.product(KEYS, FLAGS):
            machine = Machine(journal_store(keys, ordered), ((1, 0, 9), (4, 1, 1), (0, 5, 5), (15, 2, 2))[:keys + 1])
            self.assertEqual(machine.mapping(), (4, 0, 15)[:keys])
            self.assertEqual(machine.variables, [])


if __name__ == "__main__":
    unittest.main()
