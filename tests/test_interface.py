"""The names, arguments and places that the interface lists."""

import importlib
import inspect
import unittest

FUNCTIONS = {
    "salvor.words": {"wrap": ["n"], "combine": ["operator", "a", "b"]},
    "salvor.stores": {"check": ["store"], "depth": ["e"]},
    "salvor.disks": {"blank": ["sectors", "width"]},
    "salvor.images": {"choices": ["snapshot", "sector", "tears"], "image": ["snapshot", "tears", "row"],
                      "rows": ["snapshot", "tears"], "distinct": ["snapshot", "tears"]},
    "salvor.sessions": {"after": ["mapping", "deed"], "session_cuts": ["machine", "deeds", "base"]},
    "salvor.states": {"first_state": ["store"], "later_cuts": ["store", "sessions", "state"],
                      "successors": ["cuts", "tears"]},
    "salvor.catalogue": {"plain_store": ["keys", "barriers"], "two_slots": ["barriers"],
                         "journal_store": ["keys", "ordered"]},
    "salvor.walks": {"plain_walk": ["store", "sessions", "tears", "crashes"],
                     "joined_walk": ["store", "sessions", "tears", "limit"],
                     "replay": ["store", "sessions", "tears", "path"]},
    "salvor.papers": {"audit": ["store", "sessions", "tears", "states"]},
    "salvor.report": {"report": ["verdict"], "state_lines": ["states"]},
    "salvor.repairs": {"places": ["store"], "with_barriers": ["store", "chosen"],
                       "repair": ["store", "sessions", "tears", "limit", "most"]},
}
CLASSES = {
    "salvor.errors": {"SalvorError": {}, "StoreError": {}, "LimitError": {}, "PathError": {}},
    "salvor.disks": {"Disk": {"__init__": ["contents"], "look": ["sector"], "write": ["sector", "words"],
                              "barrier": [], "snapshot": []}},
    "salvor.machine": {"Machine": {"__init__": ["store", "contents"], "run": ["body", "given"],
                                   "value": ["e", "given"], "take_cuts": [], "mapping": [], "duplicate": []}},
}


class Interface(unittest.TestCase):
    def test_functions(self):
        for where, functions in FUNCTIONS.items():
            for name, arguments in functions.items():
                function = vars(importlib.import_module(where))[name]
                self.assertEqual(function.__module__, where, name)
                self.assertEqual(list(inspect.signature(function).parameters), arguments, name)

    def test_classes(self):
        for where, classes in CLASSES.items():
            for name, methods in classes.items():
                found = vars(importlib.import_module(where))[name]
                self.assertEqual(found.__module__, where, name)
                for method, arguments in methods.items():
                    listed = list(inspect.signature(vars(found)[method]).parameters)
                    self.assertEqual(listed, ["self"] + arguments, (name, method))


if __name__ == "__main__":
    unittest.main()
