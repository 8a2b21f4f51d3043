"""Builds stores for the tests, and tells the rule that decides about one."""

from salvor.errors import StoreError
from salvor.stores import check

ZERO = ("num", 0)
BODIES = ("put", "sync", "recover", "get")
WRITING = ("put", "sync", "recover")


def make(sectors=1, width=1, keys=1, variables=2, put=(), sync=(), recover=(), get=(), found=ZERO):
    """Returns a store: `get` is the body of get, `found` its expression."""
    bodies = (list(put), list(sync), list(recover))
    return ("store", sectors, width, keys, variables) + bodies + ((list(get), found),)


def rule(store):
    """Returns the name of the rule that decides, or None for a valid store."""
    try:
        assert check(store) is None
    except StoreError as error:
        return error.rule
    return None


def rule_of_body(where, body, **rest):
    """Returns the rule that decides about a store with this body."""
    return rule(make(**{where: body}, **rest))


def nested_in(statement):
    """Returns bodies with a statement at the top, inside an "if", inside a "loop", and inside both.

    There is room inside them for a "loop" or an "if" with empty bodies.
    """
    return [
        [statement],
        [("set", 0, ZERO), statement],
        [("if", ZERO, [statement], [])],
        [("if", ZERO, [], [statement])],
        [("loop", 0, 1, [statement])],
        [("loop", 0, 1, [("if", ZERO, [], [("set", 0, ZERO), statement])])],
    ]


def holders(e, where):
    """Returns statements with an expression at each place where one may stand in this body."""
    found = [("set", 0, e), ("if", e, [], [])]
    if where != "get":
        found += [("write", e, [ZERO]), ("write", ZERO, [e])]
    return found


def around(e):
    """Returns expressions with an expression at each place where one may stand in another one."""
    operators = [(operator, a, b) for operator in ("+", "-", "*", "==", "<", "and", "or")
                 for a, b in ((e, ZERO), (ZERO, e))]
    return [e, ("read", e, ZERO), ("read", ZERO, e), ("sum", e), ("not", e), ("not", ("sum", e))] + operators


def deep(levels, leaf=ZERO):
    """Returns an expression with this depth."""
    e = leaf
    for _ in range(levels - 1):
        e = ("not", e)
    return e


def body_deep(levels):
    """Returns a body that is nested this deep, with one statement in each body."""
    body = [("set", 0, ZERO)]
    for _ in range(levels - 1):
        body = [("if", ZERO, body, [])]
    return body


def loops_deep(levels):
    """Returns a body with loops nested this deep."""
    body = []
    for _ in range(levels):
        body = [("loop", 0, 1, body)]
    return body


def lists_in(part):
    """Returns all lists in a value, the lists in lists too."""
    if not isinstance(part, (list, tuple)):
        return []
    return [part] * isinstance(part, list) + [found for inner in part for found in lists_in(inner)]
