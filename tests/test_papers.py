"""Promises 12 and 13: papers (points 8.1 to 8.3)."""

import copy
import itertools
import random
import unittest

from salvor.catalogue import plain_store, two_slots
from salvor.papers import audit
from salvor.walks import joined_walk, plain_walk
from tests.builders import make
from tests.slow import slow_audit
from tests.variants import SYNC, catalogue, client, put, variant

NONE, FIVE = ((0,),), ((5,),)
STORE = plain_store(1, True)
SESSIONS = [[put(5), SYNC]]
PAPER = [(0, NONE, ((0,),)), (1, NONE, ((0,),)), (1, NONE, ((0,), (5,))), (1, FIVE, ((0,), (5,))),
         (1, FIVE, ((5,),))]


def without(states, at):
    return states[:at] + states[at + 1:]


def safe_verdicts():
    """Returns stores with sessions, tears, and the states of a safe verdict."""
    found = []
    for store, tears in itertools.product(catalogue(), (False, True)):
        last = store[3] - 1
        for sessions in ([[put(5), SYNC, put(6, last)]], [[put(5)], [put(3, last)]], [[]]):
            verdict = joined_walk(store, sessions, tears, 9999)
            found += [(store, sessions, tears, verdict[1])] if verdict[0] == "safe" else []
    return found


class Accepted(unittest.TestCase):
    """Promise 12."""

    def test_the_states_of_safe_verdicts(self):
        dice = random.Random(121)
        verdicts = safe_verdicts()
        self.assertGreater(len(verdicts), 40)
        for store, sessions, tears, states in verdicts:
            mixed = dice.sample(states, len(states))
            for paper in (states, states[::-1], states * 2, states + states[::-1], mixed):
                self.assertIs(audit(store, sessions, tears, paper), True)

    def test_fewer_states_that_are_enough(self):
        paper = [PAPER[0], PAPER[1], PAPER[4]]
        self.assertIs(audit(STORE, SESSIONS, False, paper), True)
        self.assertIs(slow_audit(STORE, SESSIONS, False, paper), True)

    def test_states_that_no_path_leads_to(self):
        for more in ([(0, ((7,),), ((7,),))], [(0, ((7,),), ((7,),)), (1, ((7,),), ((7,),))]):
            paper = PAPER + more
            self.assertEqual(audit(STORE, SESSIONS, False, paper), slow_audit(STORE, SESSIONS, False, paper))
        self.assertIs(audit(STORE, SESSIONS, False, PAPER + [(1, ((7,),), ((7,),))]), True)
        self.assertIs(audit(STORE, SESSIONS, False, PAPER + [(1, ((7,),), ((7,), (9,)))]), False)
        self.assertIs(audit(STORE, SESSIONS, False, PAPER + [(1, ((7,),), ((7,), (9,))), (1, ((7,),), ((7,),))]), True)

    def test_no_paper_for_an_unsafe_store(self):
        store, sessions = plain_store(2, False), [[put(5), put(6, 1)]]
        contents = [((a,), (b,)) for a in (0, 5) for b in (0, 6)]
        mappings = [(a, b) for a in (0, 5) for b in (0, 6)]
        allowed = [tuple(kept) for many in (1, 2, 3, 4) for kept in itertools.combinations(mappings, many)]
        paper = [(s, image, known) for s in (0, 1) for image in contents for known in allowed]
        self.assertIs(audit(store, sessions, False, paper), False)
        good = [state for state in paper if (state[1][0][0], state[1][1][0]) in state[2]]
        self.assertIs(audit(store, sessions, False, good), False)


class Checked(unittest.TestCase):
    def check(self, store, sessions, tears, paper):
        """Returns what audit says, behind a comparison with a slow check that looks through the whole paper."""
        found = audit(store, sessions, tears, paper)
        self.assertIs(type(found), bool)
        self.assertEqual(found, slow_audit(store, sessions, tears, paper), (store, sessions, tears, paper))
        return found


class Refused(Checked):
    """Promise 13."""

    def test_an_empty_paper(self):
        for store in catalogue():
            self.assertIs(audit(store, [[]], False, []), False)

    def test_each_state_left_out(self):
        accepted = [at for at in range(len(PAPER)) if self.check(STORE, SESSIONS, False, without(PAPER, at))]
        self.assertEqual(accepted, [2, 3])

    def test_the_first_state_is_not_covered(self):
        self.assertFalse(self.check(STORE, SESSIONS, False, [(0, NONE, ((0,), (1,)))] + PAPER[1:]))
        self.assertFalse(self.check(STORE, SESSIONS, False, [(0, NONE, ((1,),))] + PAPER[1:]))
        self.assertFalse(self.check(STORE, SESSIONS, False, [(0, FIVE, ((5,),))] + PAPER[1:]))
        self.assertFalse(self.check(STORE, SESSIONS, False, PAPER[1:]))

    def test_the_first_state_need_not_be_the_first_of_the_paper(self):
        for at in range(len(PAPER) + 1):
            self.assertTrue(self.check(STORE, SESSIONS, False, PAPER[1:][:at] + PAPER[:1] + PAPER[1:][at:]))

    def test_a_bad_state(self):
        for bad in ((1, FIVE, ((0,),)), (0, FIVE, ((0,), (4,))), (1, NONE, ())):
            for at in (0, 2, len(PAPER)):
                self.assertFalse(self.check(STORE, SESSIONS, False, PAPER[:at] + [bad] + PAPER[at:]))

    def test_a_bad_first_state(self):
        store = make(found=("num", 4))
        self.assertFalse(self.check(store, [[]], False, [(0, NONE, ((0,),)), (1, NONE, ((4,),))]))

    def test_fewer_allowed_mappings_cover_more(self):
        # What is allowed in the paper must be allowed in the state, not the other way round.
        self.assertTrue(self.check(STORE, SESSIONS, False, PAPER[:2] + [(1, FIVE, ((5,),))]))
        self.assertFalse(self.check(STORE, SESSIONS, False, PAPER[:2] + [(1, FIVE, ((0,), (5,)))]))
        self.assertFalse(self.check(STORE, SESSIONS, False, PAPER[:2] + [(1, FIVE, ((5,), (9,)))]))

    def test_allowed_mappings_in_any_order(self):
        twice = [(s, image, allowed[::-1] + allowed) for s, image, allowed in PAPER]
        self.assertTrue(self.check(STORE, SESSIONS, False, twice))

    def test_the_session_and_the_image_count(self):
        self.assertFalse(self.check(STORE, SESSIONS, False, PAPER[:4] + [(0, FIVE, ((5,),))]))
        self.assertFalse(self.check(STORE, SESSIONS, False, PAPER[:4] + [(1, ((6,),), ((5,),))]))

    def test_tears_count(self):
        sessions = [[put(7), SYNC, put(8)]]
        states = joined_walk(two_slots(True), sessions, False, 999)[1]
        self.assertTrue(self.check(two_slots(True), sessions, False, states))
        self.assertFalse(self.check(two_slots(True), sessions, True, states))

    def test_other_sessions_than_those_of_the_paper(self):
        self.assertFalse(self.check(STORE, [[put(6), SYNC]], False, PAPER))
        self.assertFalse(self.check(STORE, [[put(5), SYNC], []], False, PAPER))
        self.assertTrue(self.check(STORE, [[put(5)]], False, PAPER))
        self.assertTrue(self.check(STORE, [[]], False, PAPER))

    def test_a_cut_with_very_many_images(self):
        rounds = ("loop", 0, 8, [("write", ("num", at), [("+", ("var", 0), ("num", 1))] * 4) for at in range(6)])
        store = make(6, 4, 1, 1, [rounds], [], [], [], ("num", 0))
        first = (0, ((0,) * 4,) * 6, ((0,),))
        self.assertIs(audit(store, [[put(1)]], True, [first, (1,) + first[1:]]), False)

    def test_nothing_changes(self):
        sessions, paper = copy.deepcopy(SESSIONS), list(PAPER)
        before = copy.deepcopy((STORE, sessions, paper))
        audit(STORE, sessions, False, paper)
        self.assertEqual((STORE, sessions, paper), before)


class Changed(Checked):
    """Papers that differ a little from those of safe verdicts."""

    def test_one_state_left_out(self):
        found = []
        for store, sessions, tears, states in safe_verdicts():
            if len(states) < 15:
                found += [self.check(store, sessions, tears, without(states, at)) for at in range(len(states))]
        self.assertEqual(set(found), {False, True})

    def test_one_allowed_mapping_more_or_fewer(self):
        found = []
        for store, sessions, tears, states in safe_verdicts():
            if len(states) < 12:
                for at, (session, image, allowed) in enumerate(states):
                    others = [allowed + ((9,) * store[3],)] + [without(allowed, k) for k in range(len(allowed))]
                    for other in others:
                        paper = states[:at] + [(session, image, other)] + states[at + 1:]
                        found.append(self.check(store, sessions, tears, paper))
        self.assertEqual(set(found), {False, True})

    def test_any_changes(self):
        dice = random.Random(131)
        found = []
        for _ in range(120):
            store = variant(dice, dice.choice(catalogue()))
            sessions, tears = client(dice, store[3], 2, 2), dice.randrange(3) == 0
            verdict = joined_walk(store, sessions, tears, 9999)
            if verdict[0] == "safe" and len(verdict[1]) < 30:
                paper = dice.sample(verdict[1], len(verdict[1]))
                for _ in range(dice.randrange(3)):
                    paper = self.one_change(dice, paper)
                found.append(self.check(store, sessions, tears, paper))
                if found[-1]:
                    self.assertIsNone(plain_walk(store, sessions, tears, 2))
        self.assertGreater(min(found.count(True), found.count(False)), 20)

    def one_change(self, dice, paper):
        at = dice.randrange(len(paper))
        session, image, allowed = paper[at]
        kind = dice.randrange(4)
        if kind == 0 and len(paper) > 1:
            return without(paper, at)
        if kind == 1:
            return paper[:at] + [(session, image, without(allowed, dice.randrange(len(allowed))))] + paper[at + 1:] \
                if allowed else paper
        if kind == 2:
            return paper + [(session, image, allowed + tuple(paper[0][2]))]
        return paper + [(session, dice.choice(paper)[1], allowed)]


if __name__ == "__main__":
    unittest.main()
