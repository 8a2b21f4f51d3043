"""The whole program: points 0.1 and 0.2, and the modules one behind the other (points 7.6 and 8.3)."""

import ast
import copy
import itertools
import os
import pathlib
import subprocess
import sys
import unittest

from salvor.catalogue import journal_store, plain_store, two_slots
from salvor.papers import audit
from salvor.repairs import places, repair, with_barriers
from salvor.report import report, state_lines
from salvor.states import first_state, later_cuts, successors
from salvor.walks import joined_walk, plain_walk, replay
from tests.builders import lists_in
from tests.variants import SYNC, catalogue, put

ROOT = pathlib.Path(__file__).resolve().parent.parent
FILES = sorted((ROOT / "salvor").rglob("*.py"))
BARRED = ("open", "print", "input", "eval", "exec", "compile", "hash", "id", "vars", "globals", "locals",
          "__import__", "breakpoint")
SCRIPT = """
from salvor.report import report, state_lines
from salvor.repairs import repair
from salvor.walks import joined_walk
from tests.variants import catalogue, put, SYNC
for store in catalogue():
    for tears in (False, True):
        sessions = [[put(5), put(9, store[3] - 1), put(3), SYNC], [put(4)]]
        verdict = joined_walk(store, sessions, tears, 999)
        print(report(verdict), repair(store, sessions, tears, 300, 2))
        print(state_lines(verdict[1]) if verdict[0] == "safe" else verdict)
"""


class Outside(unittest.TestCase):
    """Point 0.1: no clock, no random numbers, no files."""

    def test_nothing_but_the_package_and_itertools_is_imported(self):
        for path in FILES:
            for node in ast.walk(ast.parse(path.read_text())):
                self.assertNotIsInstance(node, ast.Import, path)
                if isinstance(node, ast.ImportFrom):
                    names = [name.name for name in node.names]
                    self.assertTrue(node.module.startswith("salvor.") or
                                    (node.module, names) == ("itertools", ["combinations"]), (path, node.module))

    def test_nothing_that_reads_or_writes_is_called(self):
        for path in FILES:
            names = {node.id for node in ast.walk(ast.parse(path.read_text())) if isinstance(node, ast.Name)}
            self.assertEqual(names.intersection(BARRED), set(), path)

    def test_the_same_with_every_seed_of_strings(self):
        found = set()
        for seed in ("0", "1", "77"):
            run = subprocess.run([sys.executable, "-c", SCRIPT], cwd=ROOT, capture_output=True, text=True, check=True,
                                 env=dict(os.environ, PYTHONHASHSEED=seed, PYTHONPATH=str(ROOT)))
            found.add(run.stdout)
        self.assertEqual(len(found), 1)
        self.assertEqual(len(found.pop().splitlines()), 4 * len(catalogue()))


class Lists(unittest.TestCase):
    """Point 0.2: no argument changes, and no list is shared."""

    def calls(self, store):
        sessions = [[put(5), SYNC], [put(6, store[3] - 1)]]
        state = first_state(store)
        cuts = later_cuts(store, sessions, state)[1]
        paper = joined_walk(plain_store(1, True), sessions[:1], False, 99)[1]
        path = ((0, (0,) * store[1]), (0, (0,) * store[1]))
        return [(later_cuts, (store, sessions, state)), (successors, (cuts, True)),
                (joined_walk, (store, sessions, False, 9999)), (plain_walk, (store, sessions, True, 1)),
                (replay, (store, sessions, True, path)), (audit, (plain_store(1, True), sessions[:1], False, paper)),
                (report, (("safe", paper),)), (state_lines, (paper,)), (places, (store,)),
                (with_barriers, (store, [(5, 0), (6, 1), (7, 0)])), (repair, (store, sessions, False, 999, 1)),
                (first_state, (store,))]

    def test_each_function(self):
        for store in catalogue():
            for function, arguments in self.calls(store):
                before = copy.deepcopy(arguments)
                first, second = function(*arguments), function(*arguments)
                self.assertEqual(arguments, before, function)
                self.assertEqual(first, second, function)
                lists = lists_in(first) + lists_in(second)
                self.assertEqual(len({id(found) for found in lists}), len(lists), function)
                given = {id(found) for found in lists_in(arguments)}
                self.assertEqual([found for found in lists if id(found) in given], [], function)

    def test_bodies_that_are_used_twice(self):
        # A store may hold one list in several places; what with_barriers returns is changed in one of them only.
        body = [("barrier",)]
        store = ("store", 1, 1, 1, 0, body, body, body, ([], ("num", 0)))
        found = with_barriers(store, [(6, 0)])
        self.assertEqual([len(part) for part in found[5:8]], [1, 2, 1])
        self.assertEqual(body, [("barrier",)])


class Together(unittest.TestCase):
    def test_verdicts_papers_paths_and_repairs(self):
        for store, tears in itertools.product(catalogue(), (False, True)):
            sessions = [[put(5), SYNC, put(6, store[3] - 1)], [put(7)]]
            verdict = joined_walk(store, sessions, tears, 9999)
            found = repair(store, sessions, tears, 9999, 2)
            if verdict[0] == "safe":
                self.assertTrue(audit(store, sessions, tears, verdict[1]))
                self.assertEqual(found, [])
                self.assertEqual(len(state_lines(verdict[1])), len(verdict[1]))
            else:
                state, mapping = replay(store, sessions, tears, verdict[1])
                self.assertEqual(mapping, verdict[2])
                self.assertNotIn(mapping, state[2])
                self.assertEqual(len(report(verdict)), len(verdict[1]) + 2)
                self.assertNotEqual(found, [])

    def test_a_repaired_store_has_a_paper(self):
        store, sessions = plain_store(3, False), [[put(5), put(6, 1), SYNC, put(7, 2)], [put(1), put(2, 2)]]
        self.assertEqual(joined_walk(store, sessions, False, 999)[0], "unsafe")
        chosen = repair(store, sessions, False, 999, 4)
        self.assertEqual(chosen, [(5, 0)])
        repaired = with_barriers(store, chosen)
        states = joined_walk(repaired, sessions, False, 999)[1]
        self.assertTrue(audit(repaired, sessions, False, states))
        self.assertFalse(audit(store, sessions, False, states))

    def test_counts_that_wrap(self):
        # Point 9.2 has counts modulo 16, so that eighteen puts are too many for two slots without barriers.
        sessions = [[put(word) for word in range(1, 7)]] * 3
        verdict = joined_walk(two_slots(False), sessions, False, 9999)
        self.assertEqual((verdict[0], len(verdict[1])), ("unsafe", 3))
        self.assertEqual(joined_walk(two_slots(False), sessions[:2], False, 9999)[0], "safe")

    def test_three_keys_and_three_sessions(self):
        sessions = [[put(5), put(6, 1), put(7, 2), SYNC, put(8), put(9, 1)]] * 3
        verdict = joined_walk(journal_store(3, True), sessions, False, 9999)
        self.assertEqual(verdict[0], "safe")
        self.assertTrue(audit(journal_store(3, True), sessions, False, verdict[1]))


if __name__ == "__main__":
    unittest.main()
