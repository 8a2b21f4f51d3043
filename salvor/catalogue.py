"""Some stores (points 9.1 to 9.3 of the document)."""

ZERO = ("num", 0)
ONE = ("num", 1)
TWO = ("num", 2)
BARRIER = ("barrier",)


def plain_store(keys, barriers):
    """Returns a store with a sector of one word for each key."""
    put = and_barrier(("write", ("key",), [("value",)]), barriers)
    return ("store", keys, 1, keys, 0, put, [BARRIER], [], ([], ("read", ("key",), ZERO)))


def two_slots(barriers):
    """Returns a store for one key that writes into two slots in turn, each with a count and a value."""
    live = ("var", 0)
    other = ("var", 1)
    count = ("+", ("read", live, ZERO), ONE)
    put = [find_live(), ("set", 1, ("not", live))] + and_barrier(("write", other, [count, ("value",)]), barriers)
    return ("store", 2, 2, 1, 2, put, [BARRIER], [BARRIER], ([find_live()], ("read", live, ONE)))


def journal_store(keys, ordered):
    """Returns a store that first writes what it is about to do into sector 0."""
    home = ("+", ("key",), ONE)
    steps = [("write", ZERO, [ONE, ("key",), ("value",)]), ("write", home, [("value",), ZERO, ZERO]), clear_journal()]
    put = [statement for step in steps for statement in and_barrier(step, ordered)]
    recover = [("if", ("read", ZERO, ZERO), finish_put(), [])]
    return ("store", keys + 1, 3, keys, 0, put, [BARRIER], recover, ([], ("read", home, ZERO)))


def and_barrier(statement, wanted):
    """Returns a body with a statement, and a barrier behind it if one is wanted."""
    if wanted:
        return [statement, BARRIER]
    return [statement]


def find_live():
    """Returns a statement that sets the first variable to the live slot."""
    return ("set", 0, ("<", ("read", ZERO, ZERO), ("read", ONE, ZERO)))


def clear_journal():
    """Returns a statement that writes zeros into the sector of the journal."""
    return ("write", ZERO, [ZERO, ZERO, ZERO])


def finish_put():
    """Returns a body that does what the journal says, and clears it."""
    home = ("+", ("read", ZERO, ONE), ONE)
    return [("write", home, [("read", ZERO, TWO), ZERO, ZERO]), BARRIER, clear_journal(), BARRIER]
