"""Promises 9 and 10: the joined walk and the plain walk (points 7.3, 7.4 and 7.6)."""

import copy
import itertools
import random
import unittest

from salvor.catalogue import journal_store, plain_store, two_slots
from salvor.errors import LimitError, SalvorError
from salvor.walks import joined_walk, plain_walk
from tests.builders import ZERO, make
from tests.model import Maker
from tests.slow import slow_walk
from tests.variants import BARRIER, SYNC, catalogue, client, put, variant


def verdict(store, sessions, tears, limit):
    """Returns the verdict of the joined walk, or ("limit", the number that the error tells)."""
    try:
        return joined_walk(store, sessions, tears, limit)
    except LimitError as error:
        return "limit", error.limit


def forgetful():
    """Returns a journal whose recovery has no barriers: two crashes show that it is unsafe."""
    store = journal_store(1, True)
    kept, e, body, other = store[7][0]
    return store[:7] + ([(kept, e, [part for part in body if part != BARRIER], other)],) + store[8:]


def slow_to_fail():
    """Returns a store whose recovery counts up: behind three crashes in it the client finds another word."""
    count = ("read", ZERO, ZERO)
    recover = [("write", ZERO, [("+", count, ("num", 1))]), BARRIER]
    return make(1, 1, 1, 0, [], [], recover, [], ("<", ("num", 3), count))


class Joined(unittest.TestCase):
    def test_the_examples_of_the_interface(self):
        found = joined_walk(plain_store(2, False), [[put(5), put(6, 1)]], False, 99)
        self.assertEqual(found, ("unsafe", ((3, (0, 1)),), (0, 6)))
        found = joined_walk(plain_store(1, False), [[]], False, 99)
        self.assertEqual(found, ("safe", [(0, ((0,),), ((0,),)), (1, ((0,),), ((0,),))]))

    def test_kinds(self):
        found = joined_walk(plain_store(2, False), [[put(5), put(6, 1)]], False, 99)
        self.assertEqual([type(part) for part in found], [str, tuple, tuple])
        self.assertEqual([type(part) for part in found[1][0]], [int, tuple])
        found = joined_walk(plain_store(1, False), [[]], False, 99)
        self.assertEqual([type(part) for part in found], [str, list])

    def test_the_states_of_one_session(self):
        found = joined_walk(plain_store(1, True), [[put(5), SYNC]], False, 99)
        both = ((0,), (5,))
        self.assertEqual(found, ("safe", [
            (0, ((0,),), ((0,),)), (1, ((0,),), ((0,),)),
            (1, ((0,),), both), (1, ((5,),), both), (1, ((5,),), ((5,),))]))

    def test_the_states_of_several_sessions(self):
        found = joined_walk(plain_store(1, False), [[], [put(5)], []], True, 99)
        both = ((0,), (5,))
        self.assertEqual(found, ("safe", [
            (0, ((0,),), ((0,),)), (1, ((0,),), ((0,),)), (2, ((0,),), ((0,),)),
            (2, ((0,),), both), (2, ((5,),), both),
            (3, ((0,),), ((0,),)), (3, ((5,),), ((5,),))]))

    def test_a_bad_first_state(self):
        store = make(1, 1, 2, 0, found=("num", 4))
        for limit in (1, 2, 99):
            for sessions in ([[]], [[put(4), SYNC], [put(4)]]):
                self.assertEqual(joined_walk(store, sessions, True, limit), ("unsafe", (), (4, 4)))

    def test_only_the_mapping_decides(self):
        store = make(1, 1, 1, 0, recover=[("write", ZERO, [("num", 4)])], found=("read", ZERO, ZERO))
        self.assertEqual(joined_walk(store, [[]], False, 1), ("unsafe", (), (4,)))
        store = make(1, 1, 1, 0, recover=[("write", ZERO, [("num", 4)])], found=ZERO)
        self.assertEqual(joined_walk(store, [[]], False, 9)[0], "safe")

    def test_a_path_of_two_crashes(self):
        found = joined_walk(forgetful(), [[put(9)]], False, 999)
        self.assertEqual(found, ("unsafe", ((1, (1, 0)), (2, (1, 0))), (0,)))

    def test_a_path_of_three_crashes(self):
        for sessions in ([[]], [[SYNC], []]):
            found = joined_walk(slow_to_fail(), sessions, False, 999)
            self.assertEqual(found, ("unsafe", ((0, (1,)),) * 3, (1,)))

    def test_torn_writes(self):
        sessions = [[put(7), SYNC, put(8)]]
        self.assertEqual(joined_walk(two_slots(True), sessions, True, 999), ("unsafe", ((7, (1, 0)),), (0,)))
        self.assertEqual(joined_walk(two_slots(True), sessions, False, 999)[0], "safe")

    def test_nothing_changes_and_no_list_is_shared(self):
        for store in (plain_store(2, True), journal_store(2, True)):
            sessions = [[put(1), SYNC], [put(2, 1)]]
            before = copy.deepcopy((store, sessions))
            first, second = joined_walk(store, sessions, False, 999), joined_walk(store, sessions, False, 999)
            self.assertEqual(first, second)
            first[1].clear()
            self.assertEqual(joined_walk(store, sessions, False, 999), second)
            plain_walk(store, sessions, False, 1)
            self.assertEqual((store, sessions), before)


class Limits(unittest.TestCase):
    def test_limit_one(self):
        with self.assertRaises(LimitError) as caught:
            joined_walk(plain_store(1, True), [[]], False, 1)
        self.assertEqual(caught.exception.limit, 1)
        self.assertIsInstance(caught.exception, SalvorError)

    def test_just_the_number_of_states_and_one_less(self):
        for store, tears in ((plain_store(2, True), True), (journal_store(1, True), False), (two_slots(False), False)):
            for sessions in ([[]], [[put(5)]], [[put(5), SYNC], [put(6)], []]):
                states = joined_walk(store, sessions, tears, 9999)[1]
                self.assertEqual(joined_walk(store, sessions, tears, len(states)), ("safe", states))
                for limit in range(1, len(states)):
                    self.assertEqual(verdict(store, sessions, tears, limit), ("limit", limit))

    def test_a_bad_state_and_the_limit(self):
        # Eight states are found behind the first one and with it, the bad one among them. A ninth is found
        # before the bad one is visited.
        store, sessions = plain_store(2, False), [[put(5), put(6, 1)]]
        for limit in range(1, 9):
            self.assertEqual(verdict(store, sessions, False, limit), ("limit", limit))
        for limit in (9, 10, 11, 99):
            self.assertEqual(verdict(store, sessions, False, limit), ("unsafe", ((3, (0, 1)),), (0, 6)))

    def test_a_bad_state_behind_the_limit(self):
        store, sessions = slow_to_fail(), [[put(1), put(2), put(3)]]
        results = [slow_walk(store, sessions, False, limit) for limit in range(1, 30)]
        self.assertEqual([verdict(store, sessions, False, limit) for limit in range(1, 30)], results)
        self.assertEqual({result[0] for result in results}, {"limit", "unsafe"})

    def test_a_cut_with_very_many_images(self):
        rounds = ("loop", 0, 8, [("write", ("num", at), [("+", ("var", 0), ("num", 1))] * 4) for at in range(6)])
        store = make(6, 4, 1, 1, [rounds], [BARRIER], [], [], ZERO)
        self.assertEqual(verdict(store, [[put(1)]], True, 500), ("limit", 500))


class Searched(unittest.TestCase):
    """The joined walk against a slow search that shares nothing with it."""

    def compare(self, store, sessions, tears, limit):
        expected = slow_walk(store, sessions, tears, limit)
        self.assertEqual(verdict(store, sessions, tears, limit), expected, (store, sessions, tears, limit))
        return expected[0]

    def test_the_catalogue(self):
        found = set()
        for store, tears, limit in itertools.product(catalogue(), (False, True), (8, 60)):
            last = store[3] - 1
            for sessions in ([[]], [[put(5), SYNC, put(6, last)]], [[put(5)], [put(3, last)]], [[], [SYNC], [put(9)]]):
                found.add(self.compare(store, sessions, tears, limit))
        self.assertEqual(found, {"safe", "unsafe", "limit"})

    def test_stores_like_those_of_the_catalogue(self):
        dice = random.Random(91)
        for _ in range(150):
            store = variant(dice, dice.choice(catalogue()))
            sessions = client(dice, store[3], 3, 3)
            self.compare(store, sessions, dice.randrange(2) == 1, dice.choice((1, 3, 8, 20, 40)))

    def test_any_stores(self):
        dice = random.Random(92)
        maker = Maker(dice)
        for _ in range(60):
            store = maker.store()
            store = store[:5] + tuple(body[:2] for body in store[5:8]) + store[8:]
            sessions = client(dice, store[3], 2, 1)
            if sum(len(str(body)) for body in store[5:8]) < 900:
                self.compare(store, sessions, False, 12)


class Plain(unittest.TestCase):
    def test_a_bad_first_state(self):
        store = make(1, 1, 1, 0, found=("num", 4))
        for crashes in (0, 1, 5):
            self.assertEqual(plain_walk(store, [[put(4)]], False, crashes), ((), (4,)))

    def test_no_crashes(self):
        self.assertIsNone(plain_walk(plain_store(2, False), [[put(5), put(6, 1)]], False, 0))

    def test_the_first_path(self):
        expected = (((3, (0, 1)),), (0, 6))
        for crashes in (1, 2):
            self.assertEqual(plain_walk(plain_store(2, False), [[put(5), put(6, 1)]], False, crashes), expected)

    def test_a_path_of_several_crashes(self):
        self.assertIsNone(plain_walk(forgetful(), [[put(9)]], False, 1))
        for crashes in (2, 3):
            self.assertEqual(plain_walk(forgetful(), [[put(9)]], False, crashes),
                             (((1, (1, 0)), (2, (1, 0))), (0,)))
        self.assertIsNone(plain_walk(slow_to_fail(), [[]], False, 2))
        for crashes in (3, 4):
            self.assertEqual(plain_walk(slow_to_fail(), [[]], False, crashes), (((0, (1,)),) * 3, (1,)))

    def test_many_crashes(self):
        self.assertIsNone(plain_walk(plain_store(1, True), [[]], False, 1500))

    def test_kinds(self):
        found = plain_walk(plain_store(2, False), [[put(5), put(6, 1)]], False, 1)
        self.assertEqual([type(part) for part in (found,) + found], [tuple] * 3)


class Together(unittest.TestCase):
    """Promise 10: the two walks against each other."""

    def compare(self, store, sessions, tears, most):
        found = joined_walk(store, sessions, tears, 99999)
        if found[0] == "unsafe":
            path, mapping = found[1:]
            self.assertEqual(plain_walk(store, sessions, tears, len(path)), (path, mapping), (store, sessions))
            if path:
                self.assertIsNone(plain_walk(store, sessions, tears, len(path) - 1), (store, sessions))
        else:
            for crashes in range(most + 1):
                self.assertIsNone(plain_walk(store, sessions, tears, crashes), (store, sessions))
        return found[0]

    def test_the_catalogue(self):
        found = set()
        for store, tears in itertools.product(catalogue(), (False, True)):
            last = store[3] - 1
            found.add(self.compare(store, [[put(5), put(6, last)]], tears, 1))
            found.add(self.compare(store, [[put(5), SYNC, put(6, last)], [put(4)]], tears, 1))
            found.add(self.compare(store, [[put(5)], [SYNC]], tears, 2))
            found.add(self.compare(store, [[], [put(5, last)], []], tears, 3))
        self.assertEqual(found, {"safe", "unsafe"})

    def test_bad_first_states_and_long_paths(self):
        for sessions in ([[]], [[put(4)]], [[put(4)], [SYNC]]):
            self.assertEqual(self.compare(make(found=("num", 4)), sessions, True, 2), "unsafe")
            self.assertEqual(self.compare(slow_to_fail(), sessions, False, 2), "unsafe")
        self.assertEqual(self.compare(forgetful(), [[put(9)]], False, 2), "unsafe")

    def test_stores_like_those_of_the_catalogue(self):
        dice = random.Random(101)
        found = []
        for _ in range(150):
            store = variant(dice, dice.choice(catalogue()))
            found.append(self.compare(store, client(dice, store[3], 2, 4), dice.randrange(2) == 1, 1))
        self.assertGreater(min(found.count("safe"), found.count("unsafe")), 25)


if __name__ == "__main__":
    unittest.main()
