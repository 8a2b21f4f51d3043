"""Promise 16: the lines of verdicts and states (points 10.1 and 10.2)."""

import copy
import random
import unittest

from salvor.catalogue import journal_store, plain_store
from salvor.report import report, state_lines
from salvor.walks import joined_walk
from tests.builders import make
from tests.variants import SYNC, put

UNSAFE = ("unsafe", ((3, (0, 1)),), (0, 6))


class Verdicts(unittest.TestCase):
    def test_the_example_of_the_interface(self):
        self.assertEqual(report(UNSAFE), ["unsafe: 1 crashes", "crash at 3 with 0 1", "found 0 6"])

    def test_safe_verdicts(self):
        state = (0, ((0,),), ((0,),))
        self.assertEqual(report(("safe", [state])), ["safe: 1 states"])
        self.assertEqual(report(("safe", [state, (1,) + state[1:]])), ["safe: 2 states"])
        self.assertEqual(report(("safe", [state] * 1234)), ["safe: 1234 states"])

    def test_no_crashes(self):
        self.assertEqual(report(("unsafe", (), (4,))), ["unsafe: 0 crashes", "found 4"])
        self.assertEqual(report(joined_walk(make(found=("num", 15)), [[]], True, 9)),
                         ["unsafe: 0 crashes", "found 15"])

    def test_several_crashes(self):
        path = ((1, (1, 0)), (12, (10, 0)), (0, (0, 24)), (101, (3, 4)))
        self.assertEqual(report(("unsafe", path, (10, 0, 15))), [
            "unsafe: 4 crashes", "crash at 1 with 1 0", "crash at 12 with 10 0", "crash at 0 with 0 24",
            "crash at 101 with 3 4", "found 10 0 15"])

    def test_rows_and_mappings_of_one_number(self):
        self.assertEqual(report(("unsafe", ((7, (11,)), (0, (0,))), (9,))),
                         ["unsafe: 2 crashes", "crash at 7 with 11", "crash at 0 with 0", "found 9"])

    def test_rows_of_many_numbers(self):
        self.assertEqual(report(("unsafe", ((2, (0, 1, 2, 3, 40, 5)),), (1, 2, 3))),
                         ["unsafe: 1 crashes", "crash at 2 with 0 1 2 3 40 5", "found 1 2 3"])

    def test_verdicts_of_walks(self):
        found = joined_walk(plain_store(2, False), [[put(5), put(6, 1)]], False, 99)
        self.assertEqual(report(found), report(UNSAFE))
        found = joined_walk(plain_store(1, True), [[put(5), SYNC]], False, 99)
        self.assertEqual(report(found), ["safe: 5 states"])


class States(unittest.TestCase):
    def test_the_example_of_the_interface(self):
        self.assertEqual(state_lines([(1, ((0, 2), (6, 1)), ((0, 0), (5, 0)))]),
                         ["session 1 disk 0 2 | 6 1 allowed 0 0, 5 0"])

    def test_no_states(self):
        self.assertEqual(state_lines([]), [])

    def test_one_of_everything(self):
        self.assertEqual(state_lines([(0, ((0,),), ((0,),))]), ["session 0 disk 0 allowed 0"])

    def test_one_sector_and_several_words(self):
        self.assertEqual(state_lines([(2, ((0, 10, 15, 3),), ((12,), (13,), (14,)))]),
                         ["session 2 disk 0 10 15 3 allowed 12, 13, 14"])

    def test_several_sectors_of_one_word(self):
        self.assertEqual(state_lines([(3, ((1,), (0,), (15,)), ((1, 2, 3),))]),
                         ["session 3 disk 1 | 0 | 15 allowed 1 2 3"])

    def test_several_states(self):
        states = joined_walk(plain_store(1, True), [[put(5), SYNC]], False, 99)[1]
        self.assertEqual(state_lines(states), [
            "session 0 disk 0 allowed 0", "session 1 disk 0 allowed 0", "session 1 disk 0 allowed 0, 5",
            "session 1 disk 5 allowed 0, 5", "session 1 disk 5 allowed 5"])

    def test_the_order_of_the_arguments_is_kept(self):
        self.assertEqual(state_lines([(1, ((2,),), ((9,), (4,), (9,))), (0, ((1,),), ((0,),))]),
                         ["session 1 disk 2 allowed 9, 4, 9", "session 0 disk 1 allowed 0"])

    def test_a_journal(self):
        lines = state_lines(joined_walk(journal_store(1, True), [[put(9)]], False, 99)[1])
        self.assertEqual(lines[:4], [
            "session 0 disk 0 0 0 | 0 0 0 allowed 0", "session 1 disk 0 0 0 | 0 0 0 allowed 0",
            "session 1 disk 0 0 0 | 0 0 0 allowed 0, 9", "session 1 disk 1 0 9 | 0 0 0 allowed 0, 9"])


class Both(unittest.TestCase):
    def test_nothing_changes_and_no_list_is_shared(self):
        states = [(1, ((0, 2), (6, 1)), ((0, 0), (5, 0)))]
        verdict = ("safe", states)
        before = copy.deepcopy(verdict)
        for made in (lambda: report(verdict), lambda: state_lines(states), lambda: report(UNSAFE)):
            lines = made()
            kept = list(lines)
            lines.clear()
            self.assertEqual(made(), kept)
        self.assertEqual(verdict, before)

    def test_lines_can_be_read_back(self):
        dice = random.Random(161)
        for _ in range(100):
            sectors, width, keys = dice.randint(1, 6), dice.randint(1, 4), dice.randint(1, 3)
            image = tuple(tuple(dice.randrange(16) for _ in range(width)) for _ in range(sectors))
            allowed = tuple(tuple(dice.randrange(16) for _ in range(keys)) for _ in range(dice.randint(1, 4)))
            session = dice.randint(0, 3)
            words = state_lines([(session, image, allowed)])[0].split(" ")
            disk, mappings = " ".join(words[3:]).split(" allowed ")
            self.assertEqual(words[:3], ["session", str(session), "disk"])
            self.assertEqual(image, tuple(tuple(map(int, part.split(" "))) for part in disk.split(" | ")))
            self.assertEqual(allowed, tuple(tuple(map(int, part.split(" "))) for part in mappings.split(", ")))


if __name__ == "__main__":
    unittest.main()
