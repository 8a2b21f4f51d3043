"""A second machine for the tests, and any valid stores to run on both.

It shares no way of working with the first one: a store is written out as a program of Python, and what
a reader sees is searched for in the list of all writes.
"""

import copy
import functools

from salvor.errors import StoreError
from salvor.stores import check
from tests.builders import make

OPERATORS = ("+", "-", "*", "==", "<", "and", "or")
HELPERS = """
def sector(n): return n % len(durable)
def look(n): return [words for at, words in enumerate_all() if at == sector(n)][-1]
def enumerate_all(): return list(enumerate(durable)) + pending
def cut(): cuts.append((tuple(durable), tuple(pending)))
def barrier(): durable[:] = [look(n) for n in range(len(durable))]; pending.clear()
"""


def expression(e):
    """Returns an expression as text of Python."""
    kind = e[0]
    if kind == "num":
        return str(e[1])
    if kind == "var":
        return f"v[{e[1]}]"
    if kind in ("key", "value"):
        return f"given['{kind}']"
    parts = [expression(part) for part in e[1:]]
    if kind == "read":
        return f"look({parts[0]})[({parts[1]}) % len(durable[0])]"
    if kind == "sum":
        return f"(sum(look({parts[0]})) & 15)"
    if kind == "not":
        return f"[1, 0][bool({parts[0]})]"
    if kind in ("and", "or"):
        return f"(1 if ({parts[0]}) {kind} ({parts[1]}) else 0)"
    return f"(({parts[0]} {kind} {parts[1]}) & 15)"


def lines(body, margin):
    """Returns the lines of a body as a program of Python."""
    found = [margin + "pass"]
    for statement in body:
        kind = statement[0]
        if kind == "set":
            found += [f"{margin}v[{statement[1]}] = {expression(statement[2])}"]
        elif kind == "if":
            found += [f"{margin}if {expression(statement[1])} != 0:"] + lines(statement[2], margin + " ")
            found += [margin + "else:"] + lines(statement[3], margin + " ")
        elif kind == "loop":
            rounds = ", ".join(str(k) for k in range(statement[2]))
            found += [f"{margin}for v[{statement[1]}] in [{rounds}]:"] + lines(statement[3], margin + " ")
        else:
            change = "barrier()"
            if kind == "write":
                words = "".join(expression(word) + ", " for word in statement[2])
                change = f"pending.append((sector({expression(statement[1])}), ({words})))"
            found += [f"{margin}{change}; cut()"]
    return found


@functools.lru_cache(5000)
def code(text, mode="exec"):
    """Returns a program of Python, which many machines run."""
    return compile(text, "model", mode)


class Model:
    """The state of the second machine."""

    def __init__(self, store, contents):
        self.store = store
        self.state = {"durable": list(contents), "pending": [], "v": [0] * store[4], "cuts": []}
        exec(code(HELPERS), self.state)

    def run(self, body, given):
        exec(code("\n".join(lines(body, ""))), self.state, {"given": given})

    def value(self, e, given):
        return int(eval(code(expression(e), "eval"), self.state, {"given": given}))

    def mapping(self):
        found = []
        for key in range(self.store[3]):
            twin = Model(self.store, self.state["durable"])
            for name in ("pending", "v"):
                twin.state[name] = copy.deepcopy(self.state[name])
            twin.run(self.store[8][0], {"key": key})
            found.append(twin.value(self.store[8][1], {"key": key}))
        return tuple(found)

    def described(self):
        """Returns the variables, the snapshot, the cuts and the mapping."""
        state = self.state
        return (state["v"], (tuple(state["durable"]), tuple(state["pending"])), state["cuts"], self.mapping())


class Maker:
    """Makes any valid stores, with a given source of numbers."""

    def __init__(self, dice):
        self.dice = dice

    def store(self):
        """Returns a valid store: a body that breaks a rule is made anew."""
        dice = self.dice
        while True:
            self.width, self.variables = dice.randint(1, 4), dice.randint(1, 8)
            numbers = (dice.randint(1, 6), self.width, dice.randint(1, 3), self.variables)
            both = [("key",), ("value",)]
            store = make(*numbers, self.body(3, both), self.body(2, []), self.body(3, []),
                         self.body(2, both[:1], False), self.expression(3, both[:1]))
            try:
                check(store)
            except StoreError:
                continue
            return store

    def body(self, levels, arguments, writes=True):
        return [self.statement(levels, arguments, writes) for _ in range(self.dice.randint(0, 5))]

    def statement(self, levels, arguments, writes):
        dice = self.dice
        kinds = ["set", "set"] + ["write", "write", "write", "barrier"] * writes + ["if", "loop"] * (levels > 0)
        kind = dice.choice(kinds)
        e, v = self.expression(dice.randint(0, 3), arguments), dice.randrange(self.variables)
        if kind == "set":
            return ("set", v, e)
        if kind == "write":
            return ("write", e, [self.expression(2, arguments) for _ in range(self.width)])
        if kind == "if":
            return ("if", e, self.body(levels - 1, arguments, writes), self.body(levels - 1, arguments, writes))
        if kind == "loop":
            return ("loop", v, dice.randint(1, 8), self.body(levels - 1, arguments, writes))
        return ("barrier",)

    def expression(self, levels, arguments):
        dice = self.dice
        if levels == 0 or dice.randrange(4) == 0:
            leaves = [("num", dice.randrange(16)), ("var", dice.randrange(self.variables))] + arguments
            return dice.choice(leaves)
        kind = dice.choice(OPERATORS + ("read", "read", "sum", "not"))
        many = 1 if kind in ("sum", "not") else 2
        return (kind,) + tuple(self.expression(levels - 1, arguments) for _ in range(many))
