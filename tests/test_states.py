"""Promise 8: states, the cuts that follow them, and the states that follow (points 7.1 and 7.2)."""

import copy
import itertools
import random
import unittest

from salvor.catalogue import journal_store, plain_store, two_slots
from salvor.states import first_state, later_cuts, successors
from tests.builders import ZERO, make
from tests.model import Maker
from tests.slow import expected_later, expected_successors

BARRIER = ("barrier",)
SYNC = ("sync",)
CLEAR = (0, 0, 0)


def put(word, key=0):
    return ("put", key, word)


class First(unittest.TestCase):
    def test_the_first_state(self):
        self.assertEqual(first_state(plain_store(1, False)), (0, ((0,),), ((0,),)))
        self.assertEqual(first_state(two_slots(True)), (0, ((0, 0), (0, 0)), ((0,),)))
        self.assertEqual(first_state(journal_store(2, True)), (0, (CLEAR, CLEAR, CLEAR), ((0, 0),)))
        self.assertEqual(first_state(make(6, 4, 3, 8)), (0, ((0, 0, 0, 0),) * 6, ((0, 0, 0),)))

    def test_it_is_a_tuple_of_tuples(self):
        state = first_state(plain_store(2, False))
        self.assertEqual([type(part) for part in state], [int, tuple, tuple])
        self.assertEqual([type(part) for part in state[1] + state[2]], [tuple] * 3)


class LaterCuts(unittest.TestCase):
    def test_a_session_behind_a_recovery_without_cuts(self):
        none = ((0,), (0,))
        state = (0, none, ((0, 0),))
        self.assertEqual(later_cuts(plain_store(2, False), [[put(5), put(6, 1)]], state), ((0, 0), [
            (1, (none, ()), ((0, 0),)),
            (1, (none, ((0, (5,)),)), ((0, 0), (5, 0))),
            (1, (none, ((0, (5,)),)), ((0, 0), (5, 0))),
            (1, (none, ((0, (5,)), (1, (6,)))), ((0, 0), (5, 0), (5, 6))),
            (1, (none, ((0, (5,)), (1, (6,)))), ((0, 0), (5, 0), (5, 6)))]))

    def test_a_session_behind_a_recovery_with_cuts(self):
        state = (1, ((2, 8), (1, 7)), ((6,), (8,)))
        full = ((2, 8), (1, 7))
        self.assertEqual(later_cuts(two_slots(False), [[SYNC], [put(4), SYNC]], state), ((8,), [
            (1, (full, ()), ((6,), (8,))),
            (2, (full, ()), ((8,),)),
            (2, (full, ((1, (3, 4)),)), ((4,), (8,))),
            (2, (full, ((1, (3, 4)),)), ((4,), (8,))),
            (2, (((2, 8), (3, 4)), ()), ((4,), (8,))),
            (2, (((2, 8), (3, 4)), ()), ((4,),))]))

    def test_a_session_without_deeds(self):
        state = (0, ((3,),), ((0,), (3,)))
        self.assertEqual(later_cuts(plain_store(1, True), [[], [SYNC]], state),
                         ((3,), [(1, (((3,),), ()), ((3,),))]))

    def test_no_session_is_left(self):
        for sessions in ([[SYNC]], [[put(9)]], [[]]):
            state = (1, ((3,),), ((3,), (4,)))
            self.assertEqual(later_cuts(plain_store(1, True), sessions, state), ((3,), [(1, (((3,),), ()), ((3,),))]))

    def test_no_session_is_left_behind_a_recovery_with_cuts(self):
        told, done = ((1, 0, 9), (4, 0, 0)), (CLEAR, (9, 0, 0))
        both = ((1, 0, 9), (9, 0, 0))
        allowed = ((4,), (9,))
        for ordered, sessions in itertools.product((False, True), ([[put(1)]], [[SYNC], [put(2)], []])):
            last = len(sessions)
            self.assertEqual(later_cuts(journal_store(1, ordered), sessions, (last, told, allowed)), ((9,), [
                (last, (told, ((1, (9, 0, 0)),)), allowed),
                (last, (both, ()), allowed),
                (last, (both, ((0, CLEAR),)), allowed),
                (last, (done, ()), allowed),
                (last, (done, ()), ((9,),))]))

    def test_a_recovery_that_leaves_writes_in_the_cache(self):
        store = make(put=[("write", ZERO, [("value",)])], recover=[("write", ZERO, [("num", 7)])],
                     found=("read", ZERO, ZERO))
        contents, writes = ((2,),), ((0, (7,)), (0, (5,)))
        self.assertEqual(later_cuts(store, [[put(5)]], (0, contents, ((2,), (7,)))), ((7,), [
            (0, (contents, writes[:1]), ((2,), (7,))),
            (1, (contents, writes[:1]), ((7,),)),
            (1, (contents, writes), ((5,), (7,))),
            (1, (contents, writes), ((5,), (7,)))]))
        self.assertEqual(later_cuts(store, [[put(5)]], (1, contents, ((2,), (7,)))), ((7,), [
            (1, (contents, writes[:1]), ((2,), (7,))),
            (1, (contents, writes[:1]), ((7,),))]))

    def test_the_variables_of_a_recovery_reach_the_session(self):
        store = make(put=[("write", ZERO, [("+", ("value",), ("var", 1))])], recover=[("set", 1, ("num", 3))],
                     found=("var", 1))
        mapping, cuts = later_cuts(store, [[put(5)]], (0, ((0,),), ((0,),)))
        self.assertEqual((mapping, cuts[0]), ((3,), (1, (((0,),), ()), ((3,),))))
        self.assertEqual(cuts[1:], [(1, (((0,),), ((0, (8,)),)), ((3,), (5,)))] * 2)

    def test_a_bad_state(self):
        state = (0, ((4,), (5,)), ((0, 0), (4, 0)))
        full = ((4,), (5,))
        self.assertEqual(later_cuts(plain_store(2, False), [[put(1)]], state), ((4, 5), [
            (1, (full, ()), ((4, 5),)),
            (1, (full, ((0, (1,)),)), ((1, 5), (4, 5))),
            (1, (full, ((0, (1,)),)), ((1, 5), (4, 5)))]))
        self.assertEqual(later_cuts(plain_store(2, False), [[put(1)]], (1,) + state[1:]),
                         ((4, 5), [(1, (full, ()), ((4, 5),))]))

    def test_allowed_mappings_in_any_order(self):
        allowed = ((9,), (8,), (9,))
        mapping, cuts = later_cuts(two_slots(True), [[]], (1, ((2, 8), (1, 7)), allowed))
        self.assertEqual([known for _, _, known in cuts], [allowed, ((8,),)])
        self.assertEqual(mapping, (8,))

    def test_kinds(self):
        found = later_cuts(two_slots(True), [[put(1)]], first_state(two_slots(True)))
        self.assertEqual((type(found), type(found[0]), type(found[1])), (tuple, tuple, list))
        self.assertEqual({type(cut) for cut in found[1]}, {tuple})


def moved(cuts, tears):
    """Returns the rows and images that follow each cut, without what the state takes from the cut."""
    found = []
    for cut, row, (session, image, allowed) in successors(cuts, tears):
        assert (session, allowed) == (cuts[cut][0], cuts[cut][2])
        found.append((cut, row, image))
    return found


class Successors(unittest.TestCase):
    def test_no_pending_writes(self):
        cuts = [(2, (((1, 2), (3, 4)), ()), ((7,), (8,)))]
        for tears in (False, True):
            self.assertEqual(successors(cuts, tears), [(0, (0, 0), (2, ((1, 2), (3, 4)), ((7,), (8,))))])

    def test_no_cuts(self):
        self.assertEqual(successors([], True), [])

    def test_several_writes_to_one_sector(self):
        cuts = [(1, (((1, 2),), ((0, (5, 6)), (0, (1, 2)))), ((7,),))]
        self.assertEqual(moved(cuts, False), [(0, (0,), ((1, 2),)), (0, (1,), ((5, 6),))])
        self.assertEqual(moved(cuts, True), [(0, (0,), ((1, 2),)), (0, (1,), ((5, 2),)), (0, (2,), ((5, 6),)),
                                             (0, (3,), ((1, 6),))])

    def test_several_sectors(self):
        cuts = [(1, (((1,), (2,)), ((1, (5,)), (0, (6,)), (1, (7,)))), ((7,),))]
        expected = [(0, (a, b), ((first,), (second,)))
                    for a, first in enumerate((1, 6)) for b, second in enumerate((2, 5, 7))]
        for tears in (False, True):
            self.assertEqual(moved(cuts, tears), expected)

    def test_torn_writes_to_several_sectors(self):
        cuts = [(0, (((0, 0), (1, 1)), ((1, (1, 2)), (0, (3, 0)))), ((7,),))]
        self.assertEqual(moved(cuts, False), [(0, (0, 0), ((0, 0), (1, 1))), (0, (0, 1), ((0, 0), (1, 2))),
                                              (0, (1, 0), ((3, 0), (1, 1))), (0, (1, 1), ((3, 0), (1, 2)))])
        self.assertEqual(moved(cuts, True), [(0, (0, 0), ((0, 0), (1, 1))), (0, (0, 2), ((0, 0), (1, 2))),
                                             (0, (1, 0), ((3, 0), (1, 1))), (0, (1, 2), ((3, 0), (1, 2)))])

    def test_words_that_the_sector_already_has(self):
        cuts = [(0, (((1, 2),), ((0, (1, 2)), (0, (1, 2)))), ((7,),)),
                (0, (((1, 2),), ((0, (1, 2)), (0, (1, 3)), (0, (1, 2)))), ((7,),))]
        self.assertEqual(moved(cuts, False), [(0, (0,), ((1, 2),)), (1, (0,), ((1, 2),)), (1, (2,), ((1, 3),))])
        self.assertEqual(moved(cuts, True), [(0, (0,), ((1, 2),)), (1, (0,), ((1, 2),)), (1, (4,), ((1, 3),))])

    def test_cuts_with_the_same_images(self):
        snapshot = (((1,), (2,)), ((0, (3,)),))
        cuts = [(1, snapshot, ((7, 7),)), (1, snapshot, ((7, 7),)), (2, snapshot, ((6, 6), (7, 7)))]
        self.assertEqual(successors(cuts, False), [
            (0, (0, 0), (1, ((1,), (2,)), ((7, 7),))), (0, (1, 0), (1, ((3,), (2,)), ((7, 7),))),
            (1, (0, 0), (1, ((1,), (2,)), ((7, 7),))), (1, (1, 0), (1, ((3,), (2,)), ((7, 7),))),
            (2, (0, 0), (2, ((1,), (2,)), ((6, 6), (7, 7)))), (2, (1, 0), (2, ((3,), (2,)), ((6, 6), (7, 7))))])

    def test_behind_a_state(self):
        store = plain_store(2, False)
        cuts = later_cuts(store, [[put(5), put(6, 1)]], first_state(store))[1]
        none, one, two, both = ((0,), (0,)), ((5,), (0,)), ((0,), (6,)), ((5,), (6,))
        begun, ended = ((0, 0), (5, 0)), ((0, 0), (5, 0), (5, 6))
        expected = [(0, (0, 0), (1, none, ((0, 0),)))]
        for cut in (1, 2):
            expected += [(cut, (0, 0), (1, none, begun)), (cut, (1, 0), (1, one, begun))]
        for cut in (3, 4):
            expected += [(cut, row, (1, left, ended))
                         for row, left in (((0, 0), none), ((0, 1), two), ((1, 0), one), ((1, 1), both))]
        self.assertEqual(successors(cuts, False), expected)


class Arguments(unittest.TestCase):
    def test_nothing_changes_and_no_list_is_shared(self):
        for store in (plain_store(2, True), journal_store(2, False)):
            sessions = [[put(1), SYNC], [put(2, 1)]]
            before = copy.deepcopy((store, sessions))
            state = first_state(store)
            first, second = later_cuts(store, sessions, state), later_cuts(store, sessions, state)
            self.assertEqual(first, second)
            one, two = successors(first[1], True), successors(first[1], True)
            self.assertEqual((first, one), (second, two))
            one.clear()
            first[1].clear()
            self.assertEqual(successors(second[1], True), two)
            self.assertEqual(later_cuts(store, sessions, state), second)
            self.assertEqual((store, sessions), before)
            self.assertEqual(state, first_state(store))


class Compared(unittest.TestCase):
    def compare(self, dice, store, tears):
        sessions = [[SYNC if dice.randrange(4) == 0 else put(dice.randrange(4), dice.randrange(store[3]))
                     for _ in range(dice.randint(0, 2))] for _ in range(dice.randint(1, 3))]
        state = first_state(store)
        for _ in range(3):
            mapping, cuts = later_cuts(store, sessions, state)
            self.assertEqual((mapping, cuts), expected_later(store, sessions, state), (store, sessions, state))
            few = [cut for cut in cuts if len(cut[1][1]) < 5]
            self.assertEqual(successors(few, tears), expected_successors(few, tears), (store, sessions, state))
            states = [later for _, _, later in successors(few, tears)]
            if not states:
                break
            state = dice.choice(states)

    def test_any_stores(self):
        dice = random.Random(71)
        maker = Maker(dice)
        for _ in range(60):
            self.compare(dice, maker.store(), dice.randrange(2) == 1)

    def test_the_catalogue(self):
        dice = random.Random(72)
        for flag, tears in itertools.product((False, True), (False, True)):
            for keys in (1, 2, 3):
                for store in (plain_store(keys, flag), journal_store(keys, flag), two_slots(flag)):
                    self.compare(dice, store, tears)


if __name__ == "__main__":
    unittest.main()
