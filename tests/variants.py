"""Clients, and stores that are like those of the catalogue: some are safe, some are not."""

import itertools

from salvor.catalogue import journal_store, plain_store, two_slots

BARRIER = ("barrier",)
SYNC = ("sync",)


def put(word, key=0):
    return ("put", key, word)


def catalogue():
    """Returns each store of the catalogue with each of its options."""
    found = [two_slots(flag) for flag in (False, True)]
    for keys, flag in itertools.product((1, 2, 3), (False, True)):
        found += [plain_store(keys, flag), journal_store(keys, flag)]
    return found


def client(dice, keys, sessions=2, deeds=3):
    """Returns sessions with any deeds."""
    return [[SYNC if dice.randrange(4) == 0 else put(dice.randrange(1, 4), dice.randrange(keys))
             for _ in range(dice.randint(0, deeds))] for _ in range(dice.randint(1, sessions))]


def changed(dice, body):
    """Returns a body that differs in one place, or in none."""
    at = dice.randint(0, len(body))
    kind = dice.randrange(5)
    if kind == 0:
        return body[:at] + [BARRIER] + body[at:]
    if kind == 1:
        return body[:at] + body[at + 1:]
    if kind == 2:
        return body[:at] + body[at:at + 2][::-1] + body[at + 2:]
    if kind == 3:
        return body[:at] + body[at:at + 1] * 2 + body[at + 1:]
    return body


def variant(dice, store):
    """Returns a store whose bodies differ in some places."""
    parts = list(store)
    for _ in range(dice.randrange(4)):
        b = dice.choice((5, 5, 6, 7))
        parts[b] = changed(dice, parts[b])
    return tuple(parts)
