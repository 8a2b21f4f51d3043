"""Promise 17: places for barriers, and repairs (points 11.1 and 11.2)."""

import copy
import itertools
import random
import unittest

from salvor.catalogue import journal_store, plain_store, two_slots
from salvor.repairs import places, repair, with_barriers
from salvor.stores import check
from salvor.walks import joined_walk
from tests.builders import ZERO, make
from tests.model import Maker
from tests.slow import slow_repair
from tests.variants import BARRIER, SYNC, catalogue, client, put, variant

SET = ("set", 0, ZERO)
OTHER = ("set", 1, ("num", 1))
NESTED = ("if", ZERO, [SET, SET, SET], [("loop", 0, 2, [SET, OTHER])])


def bare(store):
    """Returns a store without any barriers."""
    def strip(body):
        body = [part for part in body if part != BARRIER]
        return [part[:2] + (strip(part[2]), strip(part[3])) if part[0] == "if" else part for part in body]
    return store[:5] + tuple(strip(body) for body in store[5:8]) + store[8:]


class Places(unittest.TestCase):
    def test_empty_bodies(self):
        self.assertEqual(places(make()), [(5, 0), (6, 0), (7, 0)])

    def test_the_catalogue(self):
        self.assertEqual(places(plain_store(1, False)), [(5, 0), (5, 1), (6, 0), (6, 1), (7, 0)])
        self.assertEqual(places(plain_store(3, True)), [(5, 0), (5, 1), (5, 2), (6, 0), (6, 1), (7, 0)])

    def test_nested_statements_do_not_count(self):
        store = make(put=[NESTED], sync=[SET, NESTED, NESTED], recover=[("loop", 0, 1, [])], get=[SET, SET])
        self.assertEqual(places(store), [(5, 0), (5, 1), (6, 0), (6, 1), (6, 2), (6, 3), (7, 0), (7, 1)])

    def test_long_bodies(self):
        store = make(put=[SET] * 50, sync=[SET] * 50, recover=[SET] * 50)
        self.assertEqual(places(store), [(b, i) for b in (5, 6, 7) for i in range(51)])

    def test_kinds(self):
        found = places(make())
        self.assertEqual((type(found), {type(place) for place in found}), (list, {tuple}))


class WithBarriers(unittest.TestCase):
    store = make(put=[SET, NESTED, OTHER], sync=[OTHER], recover=[], get=[SET], found=("key",))

    def bodies(self, chosen):
        """Returns put, sync and recover with barriers; the rest of the store must be as before."""
        found = with_barriers(self.store, chosen)
        self.assertEqual(found[:5] + found[8:], self.store[:5] + self.store[8:])
        self.assertEqual([type(part) for part in found], [type(part) for part in self.store])
        return found[5:8]

    def test_no_place(self):
        self.assertEqual(with_barriers(self.store, []), self.store)

    def test_one_place(self):
        put_body, sync, recover = self.store[5:8]
        self.assertEqual(self.bodies([(5, 0)]), ([BARRIER, SET, NESTED, OTHER], sync, recover))
        self.assertEqual(self.bodies([(5, 1)]), ([SET, BARRIER, NESTED, OTHER], sync, recover))
        self.assertEqual(self.bodies([(5, 2)]), ([SET, NESTED, BARRIER, OTHER], sync, recover))
        self.assertEqual(self.bodies([(5, 3)]), ([SET, NESTED, OTHER, BARRIER], sync, recover))
        self.assertEqual(self.bodies([(6, 0)]), (put_body, [BARRIER, OTHER], recover))
        self.assertEqual(self.bodies([(6, 1)]), (put_body, [OTHER, BARRIER], recover))
        self.assertEqual(self.bodies([(7, 0)]), (put_body, sync, [BARRIER]))

    def test_several_places_in_one_body(self):
        self.assertEqual(self.bodies([(5, 0), (5, 2), (5, 3)])[0], [BARRIER, SET, NESTED, BARRIER, OTHER, BARRIER])
        self.assertEqual(self.bodies([(5, 1), (5, 2)])[0], [SET, BARRIER, NESTED, BARRIER, OTHER])
        self.assertEqual(self.bodies([(5, 3), (6, 0), (6, 1)])[:2],
                         ([SET, NESTED, OTHER, BARRIER], [BARRIER, OTHER, BARRIER]))

    def test_all_places(self):
        self.assertEqual(self.bodies(places(self.store)), (
            [BARRIER, SET, BARRIER, NESTED, BARRIER, OTHER, BARRIER], [BARRIER, OTHER, BARRIER], [BARRIER]))

    def test_the_repaired_store_is_valid(self):
        store = make(put=[SET] * 50, sync=[SET] * 50, recover=[SET] * 50)
        self.assertIsNone(check(with_barriers(store, [(5, 0), (5, 50), (7, 3), (7, 4)])))

    def test_no_list_is_shared(self):
        before, chosen = copy.deepcopy(self.store), [(5, 1)]
        for picked in ([], chosen):
            first, second = with_barriers(self.store, picked), with_barriers(self.store, picked)
            first[5][-1:] = []
            first[5][-1][2].clear()
            first[6].clear()
            first[7].append(SET)
            first[8][0].clear()
            self.assertEqual(second[6:], before[6:])
            self.assertEqual(with_barriers(self.store, picked), second)
        self.assertEqual(self.store, before)
        self.assertEqual(chosen, [(5, 1)])


class Repairs(unittest.TestCase):
    two_puts = [[put(5), put(6, 1)]]

    def test_the_example_of_the_interface(self):
        self.assertEqual(repair(plain_store(2, False), self.two_puts, False, 99, 2), [(5, 0)])

    def test_none_is_needed(self):
        for store, tears in ((plain_store(2, True), True), (two_slots(False), False), (journal_store(2, True), False)):
            for most in range(5):
                self.assertEqual(repair(store, [[put(5, 0), SYNC]], tears, 999, most), [])

    def test_one_place_is_needed(self):
        for most in (1, 2, 3, 4):
            self.assertEqual(repair(plain_store(2, False), self.two_puts, True, 99, most), [(5, 0)])
        sessions = [[put(5), SYNC]]
        store = bare(plain_store(1, True))
        self.assertEqual(repair(store, sessions, False, 99, 1), [(5, 1)])
        self.assertEqual(repair(store, [[put(5), SYNC, put(6), put(7)]], False, 99, 1), [(5, 1)])

    def test_a_place_in_recover_is_needed(self):
        store = journal_store(1, True)
        store = store[:7] + bare(store)[7:]
        self.assertEqual(self.check(store, [[put(9)]], False, 99, 2), [(7, 1)])

    def test_two_places_are_needed(self):
        journal = bare(journal_store(2, True))
        sessions = [[put(5), put(6, 1), SYNC, put(7)]] * 2
        for most in (0, 1):
            self.assertIsNone(repair(journal, sessions, False, 999, most))
        for most in (2, 3, 4):
            self.assertEqual(repair(journal, sessions, False, 999, most), [(5, 2), (7, 1)])

    def in_order(self, sectors):
        """Returns a store that writes a word into each sector, and finds whether one reached the disk too early."""
        writes = [("write", ("num", at), [("value",)]) for at in range(sectors)]
        words = [("read", ("num", at), ZERO) for at in range(sectors)]
        found = [("<", earlier, later) for earlier, later in zip(words, words[1:])] or [ZERO]
        while len(found) > 1:
            found = found[2:] + [("or", found[0], found[1])]
        store = make(sectors, 1, 1, 0, writes, [], [], [], found[0])
        check(store)
        return store

    def test_as_many_places_as_are_asked_for(self):
        for sectors in (1, 2, 3, 4):
            store = self.in_order(sectors)
            for most in range(4):
                best = [(5, at) for at in range(1, sectors)]
                self.assertEqual(repair(store, [[put(3)]], False, 99, most), best if len(best) <= most else None)
        self.check(self.in_order(3), [[put(3), put(5)]], True, 99, 3)

    def test_four_places(self):
        store = self.in_order(5)
        self.assertIsNone(repair(store, [[put(3)]], False, 99, 3))
        self.assertEqual(repair(store, [[put(3)]], False, 99, 4), [(5, 1), (5, 2), (5, 3), (5, 4)])

    def test_a_bad_state_that_several_cuts_lead_to(self):
        # Each time that both sectors change, a barrier must stand between. One barrier alone closes none of the ways.
        writes = [("write", ("num", at), [e]) for at, e in ((0, ("value",)), (1, ("value",)), (1, ZERO), (0, ZERO))]
        words = [("read", ("num", at), ZERO) for at in (0, 1)]
        store = make(2, 1, 1, 0, writes + writes[:2], [], [], [], ("*", ("num", 3), ("<", words[0], words[1])))
        self.assertIsNone(repair(store, [[put(5)]], False, 99, 2))
        self.assertEqual(repair(store, [[put(5)]], False, 99, 3), [(5, 1), (5, 3), (5, 5)])

    def test_most_is_too_small(self):
        self.assertIsNone(repair(plain_store(2, False), self.two_puts, False, 99, 0))
        self.assertIsNone(repair(bare(journal_store(2, True)), [[put(5), put(6, 1), SYNC, put(7)]], False, 999, 1))

    def test_nothing_helps(self):
        sessions = [[put(5), SYNC, put(6)]]
        for most in range(5):
            self.assertIsNone(repair(two_slots(False), sessions, True, 999, most))
            self.assertIsNone(repair(make(found=("num", 4)), sessions, True, 999, most))

    def test_the_limit_is_too_small(self):
        least = len(joined_walk(plain_store(2, True), self.two_puts, False, 999)[1])
        store = plain_store(2, False)
        for limit in range(1, least + 3):
            found = repair(store, self.two_puts, False, limit, 2)
            self.assertEqual(found, slow_repair(store, self.two_puts, False, limit, 2), limit)
        self.assertIsNone(repair(store, self.two_puts, False, 1, 4))
        self.assertIsNone(repair(plain_store(1, True), [[]], False, 1, 2))
        self.assertEqual(repair(plain_store(1, True), [[]], False, 2, 2), [])

    def test_the_limit_decides_which_repair_is_the_best(self):
        store, sessions = bare(journal_store(2, True)), [[put(5), put(6, 1), SYNC, put(7)]]
        found = [self.check(store, sessions, False, limit, 2) for limit in (16, 17, 21, 22, 23)]
        self.assertEqual(found, [None] + [[(5, 3), (7, 1)]] * 2 + [[(5, 2), (7, 1)]] * 2)

    def test_the_first_of_several(self):
        store = plain_store(2, False)
        best = [[place] for place in places(store) if self.is_repair(store, [place])]
        self.assertEqual(best, [[(5, 0)], [(5, 1)]])
        self.assertEqual(repair(store, self.two_puts, False, 99, 1), best[0])

    def is_repair(self, store, chosen):
        return joined_walk(with_barriers(store, chosen), self.two_puts, False, 99)[0] == "safe"

    def test_long_bodies(self):
        pad = [SET] * 16
        put_body = pad + bare(journal_store(2, True))[5][:1] + pad + bare(journal_store(2, True))[5][1:] + pad[:14]
        store = bare(journal_store(2, True))
        store = store[:4] + (1, put_body[:50]) + store[6:]
        sessions = [[put(5), put(6, 1), SYNC, put(7)]]
        for most in (2, 4):
            found = repair(store, sessions, False, 999, most)
            self.assertEqual(joined_walk(with_barriers(store, found), sessions, False, 999)[0], "safe")
            self.assertEqual(len(found), 2)

    def test_nothing_helps_long_bodies(self):
        # There are millions of lists of four places: the first bad path must show that all are in vain.
        store = two_slots(True)
        store = store[:5] + tuple(body + [SET] * (50 - len(body)) for body in store[5:8]) + store[8:]
        self.assertIsNone(repair(store, [[put(5), SYNC, put(6)]], True, 999, 4))

    def check(self, store, sessions, tears, limit, most):
        before = copy.deepcopy((store, sessions))
        found = repair(store, sessions, tears, limit, most)
        self.assertEqual(found, slow_repair(store, sessions, tears, limit, most), (store, sessions, tears, limit, most))
        self.assertEqual((store, sessions), before)
        return found

    def test_against_a_slow_search(self):
        dice = random.Random(171)
        sizes = []
        bases = [plain_store(2, True), plain_store(3, True), two_slots(True), journal_store(1, True), plain_store(1, True)]
        for _ in range(120):
            store = variant(dice, bare(dice.choice(bases)))
            sessions = client(dice, store[3], 2, 3)
            found = self.check(store, sessions, dice.randrange(4) == 0, dice.choice((4, 10, 25)), dice.choice((1, 2, 2, 3)))
            sizes.append(-1 if found is None else len(found))
        self.assertEqual(set(sizes) & {-1, 0, 1, 2}, {-1, 0, 1, 2})

    def test_any_stores(self):
        dice = random.Random(172)
        maker = Maker(dice)
        for _ in range(40):
            store = maker.store()
            store = store[:5] + tuple(body[:1] for body in store[5:8]) + store[8:]
            if sum(len(str(body)) for body in store[5:8]) < 600:
                self.check(store, client(dice, store[3], 2, 1), False, 12, 2)


class Barriers(unittest.TestCase):
    """What the search for repairs builds on: barriers never make a safe store unsafe."""

    def test_barriers_keep_a_store_safe(self):
        dice = random.Random(173)
        many = 0
        for _ in range(150):
            store = variant(dice, dice.choice(catalogue()))
            sessions, tears = client(dice, store[3], 2, 4), dice.randrange(2) == 1
            if joined_walk(store, sessions, tears, 9999)[0] == "safe":
                many += 1
                spots = places(store)
                for _ in range(3):
                    chosen = sorted(dice.sample(spots, dice.randint(1, len(spots))))
                    repaired = with_barriers(store, chosen)
                    self.assertEqual(joined_walk(repaired, sessions, tears, 9999)[0], "safe", (store, chosen))
        self.assertGreater(many, 60)


if __name__ == "__main__":
    unittest.main()
