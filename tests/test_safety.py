"""Promises 14 and 15: which stores are safe, and what the client of a safe one finds (points 0.7 to 0.9)."""

import itertools
import random
import unittest

from salvor.catalogue import journal_store, plain_store, two_slots
from salvor.walks import joined_walk
from tests.model import Model
from tests.slow import torn
from tests.variants import SYNC, catalogue, client, put, variant

PUT, RECOVER = 5, 7


def is_safe(store, sessions, tears):
    return joined_walk(store, sessions, tears, 99999)[0] == "safe"


def clients(keys):
    """Returns sessions, one and two of them."""
    last = keys - 1
    one = [put(5), put(6, last)]
    return [[one], [[put(3, last), SYNC, put(4), put(7, last)]], [one, [SYNC]], [one, one[::-1]],
            [[put(9), SYNC], one], [[put(1), put(2), put(3)], [put(4, last), put(1)]], [[], []]]


class Catalogue(unittest.TestCase):
    """Promise 14."""

    def test_plain_stores_with_barriers(self):
        for keys, tears in itertools.product((1, 2, 3), (False, True)):
            for sessions in clients(keys):
                self.assertTrue(is_safe(plain_store(keys, True), sessions, tears), (keys, sessions))

    def test_plain_stores_with_one_key(self):
        for sessions, tears in itertools.product(clients(1), (False, True)):
            self.assertTrue(is_safe(plain_store(1, False), sessions, tears), sessions)

    def test_plain_stores_without_barriers(self):
        for keys, tears in itertools.product((2, 3), (False, True)):
            last, store = keys - 1, plain_store(keys, False)
            for unsafe in ([[put(5), put(6, last)]], [[SYNC, put(5), SYNC, put(6), put(7, last), SYNC]],
                           [[SYNC], [put(5, last), put(6)]], [[], [put(5, last), put(5, last), put(6)]],
                           [[put(5), SYNC], [put(6, last), put(4), SYNC]]):
                self.assertFalse(is_safe(store, unsafe, tears), (keys, unsafe))
            for safe in ([[put(5), SYNC, put(6, last)]], [[put(5)], [put(6, last)]], [[put(5), put(0, last)]],
                         [[put(5), put(6), SYNC, put(7, last)]], [[]], [[SYNC, SYNC], []]):
                self.assertTrue(is_safe(store, safe, tears), (keys, safe))

    def test_two_slots_without_tears(self):
        for flag in (False, True):
            for sessions in clients(1) + [[[put(word) for word in range(1, 7)]] * 2]:
                self.assertTrue(is_safe(two_slots(flag), sessions, False), sessions)

    def test_two_slots_with_tears(self):
        for flag in (False, True):
            for safe in ([[]], [[put(5)]], [[SYNC, put(5), SYNC]], [[], [put(5)]]):
                self.assertTrue(is_safe(two_slots(flag), safe, True), safe)
            for unsafe in ([[put(5), SYNC, put(6)]], [[put(5)], [put(6)]], [[put(5), SYNC], [put(6)]]):
                self.assertFalse(is_safe(two_slots(flag), unsafe, True), unsafe)

    def test_ordered_journals_without_tears(self):
        for keys in (1, 2, 3):
            for sessions in clients(keys):
                self.assertTrue(is_safe(journal_store(keys, True), sessions, False), (keys, sessions))

    def test_ordered_journals_with_tears(self):
        for keys in (1, 2, 3):
            self.assertTrue(is_safe(journal_store(keys, True), [[put(5)], [SYNC]], True))
            self.assertFalse(is_safe(journal_store(keys, True), [[put(5), SYNC, put(6)]], True))
            self.assertFalse(is_safe(journal_store(keys, True), [[put(5)], [put(6, keys - 1)]], True))

    def test_journals_that_are_not_ordered(self):
        for keys, tears in itertools.product((1, 2, 3), (False, True)):
            store, last = journal_store(keys, False), keys - 1
            self.assertTrue(is_safe(store, [[put(5)], [SYNC]], tears))
            self.assertEqual(is_safe(store, [[put(5), put(6, last)]], tears), keys == 1)
        self.assertTrue(is_safe(journal_store(2, False), [[put(5), SYNC, put(6, 1)]], False))
        self.assertFalse(is_safe(journal_store(2, False), [[put(5), SYNC, put(6, 1)]], True))


class Client:
    """A client of a store, whose disk loses and tears writes. It knows nothing of states and cuts of sessions."""

    def __init__(self, store, tears, dice):
        self.store, self.tears, self.dice = store, tears, dice
        self.image = ((0,) * store[2],) * store[1]
        self.allowed = {(0,) * store[3]}
        self.found = None

    def crash(self, snapshot):
        """Leaves something of a snapshot on the disk."""
        times = self.store[2] if self.tears else 1
        pending = [sector for sector, _ in snapshot[1]]
        row = [self.dice.randint(0, pending.count(sector) * times) for sector in range(self.store[1])]
        self.image = tuple(torn(snapshot, sector, choice, self.tears) for sector, choice in enumerate(row))

    def now(self, model):
        return tuple(model.state["durable"]), tuple(model.state["pending"])

    def recover(self):
        """Recovers, also in several attempts; then reads all keys."""
        for _ in range(self.dice.randint(0, 3)):
            model = Model(self.store, self.image)
            model.run(self.store[RECOVER], {})
            self.crash(self.dice.choice(model.state["cuts"] + [self.now(model)]))
        model = Model(self.store, self.image)
        model.run(self.store[RECOVER], {})
        self.found = model.mapping()
        return model

    def perform(self, model, deeds):
        """Performs the deeds up to a crash; then tells itself what it may find."""
        stop = self.dice.randint(0, len(deeds))
        begun, synced, snapshot = 0, 0, self.now(model)
        for deed in deeds[:stop]:
            seen = len(model.state["cuts"])
            begun += 1
            model.run(self.store[PUT if deed[0] == "put" else PUT + 1], dict(zip(("key", "value"), deed[1:])))
            cuts, snapshot = model.state["cuts"][seen:], self.now(model)
            if begun == stop and cuts and self.dice.randrange(2):
                snapshot = self.dice.choice(cuts)
            elif deed == SYNC:
                synced = begun
        self.allowed = {self.after(deeds[:many]) for many in range(synced, begun + 1)}
        self.crash(snapshot)

    def after(self, deeds):
        mapping = dict(enumerate(self.found))
        mapping.update({deed[1]: deed[2] for deed in deeds if deed[0] == "put"})
        return tuple(mapping[key] for key in sorted(mapping))


class Histories(unittest.TestCase):
    """Promise 15: histories of crashes, run apart from the walks."""

    def history(self, dice, store, sessions, tears):
        """Tells whether a client finds what it may find in one history of crashes."""
        one = Client(store, tears, dice)
        for deeds in sessions + [[]] * 3:
            model = one.recover()
            if one.found not in one.allowed:
                return False
            one.perform(model, deeds)
            if not deeds:
                self.assertEqual(one.allowed, {one.found})
        return True

    def test_the_catalogue(self):
        dice = random.Random(151)
        many = 0
        for store, tears in itertools.product(catalogue(), (False, True)):
            for sessions in clients(store[3]) + [[[put(5), SYNC, put(6)], [put(7)], [SYNC, put(8)]]]:
                if is_safe(store, sessions, tears):
                    many += 1
                    for _ in range(4):
                        self.assertTrue(self.history(dice, store, sessions, tears), (store, sessions, tears))
        self.assertGreater(many, 100)

    def test_stores_like_those_of_the_catalogue(self):
        dice = random.Random(152)
        many = 0
        for _ in range(250):
            store = variant(dice, dice.choice(catalogue()))
            sessions, tears = client(dice, store[3], 3, 4), dice.randrange(3) == 0
            if is_safe(store, sessions, tears):
                many += 1
                for _ in range(4):
                    self.assertTrue(self.history(dice, store, sessions, tears), (store, sessions, tears))
        self.assertGreater(many, 100)

    def test_the_histories_find_what_is_unsafe(self):
        dice = random.Random(153)
        for store, sessions, tears in ((plain_store(2, False), [[put(5), put(6, 1)]], False),
                                       (two_slots(True), [[put(5), SYNC, put(6)]], True),
                                       (journal_store(2, False), [[put(5), put(6, 1)]], False)):
            self.assertFalse(is_safe(store, sessions, tears))
            results = [self.history(dice, store, sessions, tears) for _ in range(300)]
            self.assertEqual(set(results), {False, True})


if __name__ == "__main__":
    unittest.main()
