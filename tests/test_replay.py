"""Promise 11: replaying paths (points 7.5 and 7.6)."""

import copy
import itertools
import random
import unittest

from salvor.catalogue import journal_store, plain_store, two_slots
from salvor.errors import PathError, SalvorError
from salvor.walks import joined_walk, replay
from tests.builders import ZERO, make
from tests.slow import expected_later, first, torn
from tests.variants import SYNC, catalogue, client, put, variant

LOOSE = plain_store(2, False)
SESSIONS = [[put(5), put(6, 1)]]


def slow_replay(store, sessions, tears, path):
    """Returns what replay returns, from the second machine."""
    state = first(store)
    for cut, row in path:
        session, snapshot, allowed = expected_later(store, sessions, state)[1][cut]
        image = tuple(torn(snapshot, sector, choice, tears) for sector, choice in enumerate(row))
        state = (session, image, allowed)
    return state, expected_later(store, sessions, state)[0]


class Paths(unittest.TestCase):
    def test_the_empty_path(self):
        self.assertEqual(replay(LOOSE, SESSIONS, False, ()), ((0, ((0,), (0,)), ((0, 0),)), (0, 0)))
        self.assertEqual(replay(make(found=("num", 4)), [[]], True, ()), ((0, ((0,),), ((0,),)), (4,)))

    def test_the_example_of_the_interface(self):
        found = replay(LOOSE, SESSIONS, False, ((3, (0, 1)),))
        self.assertEqual(found, ((1, ((0,), (6,)), ((0, 0), (5, 0), (5, 6))), (0, 6)))
        self.assertEqual([type(part) for part in (found,) + found], [tuple] * 3)

    def test_paths_that_go_on_behind_a_bad_state(self):
        path = ((3, (0, 1)), (0, (0, 0)))
        self.assertEqual(replay(LOOSE, SESSIONS, False, path), ((1, ((0,), (6,)), ((0, 6),)), (0, 6)))
        sessions = SESSIONS + [[put(7)]]
        path = ((4, (0, 1)), (2, (1, 0)), (0, (0, 0)), (0, (0, 0)))
        states = [(1, ((0,), (6,)), ((0, 0), (5, 0), (5, 6))), (2, ((7,), (6,)), ((0, 6), (7, 6))),
                  (2, ((7,), (6,)), ((7, 6),)), (2, ((7,), (6,)), ((7, 6),))]
        for many, state in enumerate(states):
            self.assertEqual(replay(LOOSE, sessions, False, path[:many + 1]), (state, state[1][0] + state[1][1]))

    def test_rows_that_are_not_the_first_ones(self):
        sessions = [[put(5), put(0), put(5)]]
        for row, word in (((0,), 0), ((1,), 5), ((2,), 0), ((3,), 5)):
            state = (1, ((word,),), ((0,), (5,)))
            self.assertEqual(replay(plain_store(1, False), sessions, False, ((6, row),)), (state, (word,)))
        blank = ((0, 0), (0, 0))
        slots = two_slots(False)
        self.assertEqual(replay(slots, [[put(0)]], True, ((2, (0, 1)),)), ((1, ((0, 0), (1, 0)), ((0,),)), (0,)))
        self.assertEqual(replay(slots, [[put(0)]], True, ((2, (0, 2)),)), ((1, ((0, 0), (1, 0)), ((0,),)), (0,)))
        self.assertEqual(replay(slots, [[put(0)]], True, ((2, (0, 0)),)), ((1, blank, ((0,),)), (0,)))

    def test_cuts_of_a_recovery(self):
        store, sessions = journal_store(1, True), [[put(9)], [put(4), SYNC]]
        clear, both = (0, 0, 0), ((0,), (9,))
        self.assertEqual(replay(store, sessions, False, ((1, (1, 0)),)), ((1, ((1, 0, 9), clear), both), (9,)))
        self.assertEqual(replay(store, sessions, False, ((1, (1, 0)), (0, (0, 1)))),
                         ((1, ((1, 0, 9), (9, 0, 0)), both), (9,)))
        self.assertEqual(replay(store, sessions, False, ((1, (1, 0)), (2, (1, 0)))),
                         ((1, (clear, (9, 0, 0)), both), (9,)))
        self.assertEqual(replay(store, sessions, False, ((1, (1, 0)), (3, (0, 0)), (0, (0, 0)))),
                         ((2, (clear, (9, 0, 0)), ((9,),)), (9,)))

    def test_the_paths_of_unsafe_verdicts(self):
        dice = random.Random(111)
        many = 0
        for _ in range(200):
            store = variant(dice, dice.choice(catalogue()))
            sessions, tears = client(dice, store[3], 2, 4), dice.randrange(2) == 1
            found = joined_walk(store, sessions, tears, 99999)
            if found[0] == "unsafe":
                state, mapping = replay(store, sessions, tears, found[1])
                self.assertEqual(mapping, found[2])
                self.assertNotIn(mapping, state[2])
                self.assertEqual((state, mapping), slow_replay(store, sessions, tears, found[1]))
                many += 1
        self.assertGreater(many, 20)

    def test_any_paths(self):
        dice = random.Random(112)
        for store, tears in itertools.product(catalogue(), (False, True)):
            for _ in range(4):
                sessions = client(dice, store[3], 3, 3)
                path = self.any_path(dice, store, sessions, tears)
                expected = slow_replay(store, sessions, tears, path)
                self.assertEqual(replay(store, sessions, tears, path), expected, (store, sessions, path))

    def any_path(self, dice, store, sessions, tears):
        path, times = (), store[2] if tears else 1
        for _ in range(dice.randint(0, 4)):
            cuts = expected_later(store, sessions, slow_replay(store, sessions, tears, path)[0])[1]
            cut = dice.randrange(len(cuts))
            pending = [sector for sector, _ in cuts[cut][1][1]]
            row = tuple(dice.randint(0, pending.count(sector) * times) for sector in range(store[1]))
            path += ((cut, row),)
        return path

    def test_nothing_changes(self):
        sessions, path = [[put(5), SYNC], [put(6, 1)]], ((1, (1, 0)), (0, (0, 0)))
        before = copy.deepcopy((LOOSE, sessions, path))
        replay(LOOSE, sessions, False, path)
        self.assertEqual((LOOSE, sessions, path), before)


class Wrong(unittest.TestCase):
    """A path of three crashes whose pairs are made wrong."""

    store, sessions = journal_store(1, True), [[put(9)], [put(4), SYNC]]
    path = ((1, (1, 0)), (2, (1, 0)), (1, (1, 0)))

    def at(self, path, tears=False):
        """Returns the index that the error tells, or None."""
        try:
            replay(self.store, self.sessions, tears, path)
        except PathError as error:
            self.assertIsInstance(error, SalvorError)
            return error.at
        return None

    def changed(self, at, pair):
        return self.path[:at] + (pair,) + self.path[at + 1:]

    def test_the_path_itself(self):
        self.assertIsNone(self.at(self.path))
        self.assertIsNone(self.at(()))

    def test_a_cut_that_does_not_exist(self):
        for at, most in enumerate((8, 14, 10)):
            row = (0, 0)
            for cut in (most, most + 1, 99, -1, -2, -most, -99):
                self.assertEqual(self.at(self.changed(at, (cut, row))[:at + 1]), at, (at, cut))
                self.assertEqual(self.at(self.changed(at, (cut, row))), at, (at, cut))
            self.assertIsNone(self.at(self.changed(at, (most - 1, row))[:at + 1]))
            self.assertIsNone(self.at(self.changed(at, (0, row))[:at + 1]))

    def test_a_row_of_another_length(self):
        for at, (cut, row) in enumerate(self.path):
            for wrong in ((), row[:1], row + (0,), row + (0, 0), (0,) * 6):
                self.assertEqual(self.at(self.changed(at, (cut, wrong))), at, (at, wrong))

    def test_a_choice_that_does_not_exist(self):
        for at, (cut, row) in enumerate(self.path):
            for wrong in ((2, 0), (99, 0), (-1, 0), (-2, 0), (0, -1), (1, -1), (0, 2), (0, 99)):
                self.assertEqual(self.at(self.changed(at, (cut, wrong))), at, (at, wrong))
            for right in ((0, 0), (1, 0)):
                self.assertIsNone(self.at(self.path[:at] + ((cut, right),)))

    def test_the_choices_of_a_disk_that_tears(self):
        for choice in range(4):
            self.assertIsNone(self.at(((1, (choice, 0)),), True))
        for row in ((4, 0), (5, 0), (-1, 0), (0, 1), (0, 3)):
            self.assertEqual(self.at(((1, row),), True), 0)
        for row in ((2, 0), (3, 0)):
            self.assertEqual(self.at(((1, row),), False), 0)

    def test_two_wrong_pairs(self):
        wrongs = ((99, (0, 0)), (-1, (0, 0)), (0, (0,)), (0, (0, 0, 0)), (0, (-1, 0)), (0, (0, 9)))
        for one, two in itertools.product(wrongs, repeat=2):
            for low, high in ((0, 1), (0, 2), (1, 2)):
                path = list(self.path)
                path[low], path[high] = one, two
                self.assertEqual(self.at(tuple(path)), low, path)

    def test_a_long_path(self):
        path = self.path + ((0, (0, 0)),) * 40
        self.assertIsNone(self.at(path))
        self.assertIsNone(self.at(path + ((4, (0, 0)),)))
        self.assertEqual(self.at(path + ((5, (0, 0)),)), 43)
        last = self.path[:2] + ((9, (0, 0)),) + ((0, (0, 0)),) * 40
        self.assertIsNone(self.at(last))
        self.assertEqual(self.at(last + ((1, (0, 0)),)), 43)

    def test_the_wrong_sector(self):
        store = make(3, 1, 1, 0, [("write", ("num", 1), [("value",)])], [], [], [], ZERO)
        for row in ((1, 0, 0), (0, 0, 1), (0, 2, 0)):
            with self.assertRaises(PathError) as caught:
                replay(store, [[put(1)]], True, ((0, (0, 0, 0)), (0, (0, 0, 0)), (1, row)))
            self.assertEqual(caught.exception.at, 2)


if __name__ == "__main__":
    unittest.main()
