"""Stores that the tests of machines run: points 9.1 to 9.3 say what they do."""

from tests.builders import ZERO, make

ONE = ("num", 1)
BARRIER = ("barrier",)


def plain(keys, barriers):
    """A word for each key."""
    put = [("write", ("key",), [("value",)])] + [BARRIER] * barriers
    return make(keys, 1, keys, 0, put, [BARRIER], [], [], ("read", ("key",), ZERO))


def slots(barriers):
    """One key in two slots, each with a count and a value."""
    counts = ("read", ZERO, ZERO), ("read", ONE, ZERO)
    live = ("set", 0, ("<",) + counts)
    other = ("set", 1, ("not", ("var", 0)))
    count = ("+", ("read", ("var", 0), ZERO), ONE)
    put = [live, other, ("write", ("var", 1), [count, ("value",)])] + [BARRIER] * barriers
    return make(2, 2, 1, 2, put, [BARRIER], [BARRIER], [live], ("read", ("var", 0), ONE))


def journal(keys, ordered):
    """A sector for each key, behind one that holds the put that is under way."""
    own = ("+", ("key",), ONE)
    clear = ("write", ZERO, [ZERO] * 3)
    steps = [("write", ZERO, [ONE, ("key",), ("value",)]), ("write", own, [("value",), ZERO, ZERO]), clear]
    put = [part for step in steps for part in [step] + [BARRIER] * ordered]
    home = ("+", ("read", ZERO, ONE), ONE)
    again = ("write", home, [("read", ZERO, ("num", 2)), ZERO, ZERO])
    recover = [("if", ("read", ZERO, ZERO), [again, BARRIER, clear, BARRIER], [])]
    return make(keys + 1, 3, keys, 0, put, [BARRIER], recover, [], ("read", own, ZERO))
