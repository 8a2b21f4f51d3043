"""Walks through all crashes (points 7.3 to 7.6 of the document)."""

from salvor.errors import LimitError, PathError
from salvor.images import choices, image
from salvor.states import first_state, following, found_mapping, is_allowed, later_cuts


class Findings:
    """The different states that a walk has found, in order, and the first way to each of them."""

    def __init__(self, limit):
        self.states = []
        self._limit = limit
        # For each state, the state before it on the first way to it, and the pair that leads on from there.
        self._origins = {}

    def note(self, state, before, pair):
        """Notes a state, unless it was found before."""
        if state in self._origins:
            return
        if len(self.states) >= self._limit:
            raise LimitError(self._limit)
        self.states.append(state)
        self._origins[state] = (before, pair)

    def path(self, state):
        """Returns the first path to a state that was found."""
        pairs = []
        before, pair = self._origins[state]
        while before is not None:
            pairs.append(pair)
            before, pair = self._origins[before]
        return tuple(reversed(pairs))


def joined_walk(store, sessions, tears, limit):
    """Returns the verdict of the joined walk, or raises LimitError."""
    findings = Findings(limit)
    findings.note(first_state(store), None, None)
    visited = 0
    while visited < len(findings.states):
        state = findings.states[visited]
        mapping, cuts = later_cuts(store, sessions, state)
        if not is_allowed(mapping, state):
            return "unsafe", findings.path(state), mapping
        for cut, row, later in following(cuts, tears):
            findings.note(later, state, (cut, row))
        visited += 1
    return "safe", findings.states


def plain_walk(store, sessions, tears, crashes):
    """Returns the first path of at most that many crashes to a bad state, and the mapping, or None."""
    first = first_state(store)
    mapping = found_mapping(store, first)
    if not is_allowed(mapping, first):
        return (), mapping
    layer = [((), first)]
    for left in reversed(range(crashes)):
        kept = []
        for path, state in longer(store, sessions, tears, layer):
            mapping = found_mapping(store, state)
            if not is_allowed(mapping, state):
                return path, mapping
            # The longest paths, by far the most of all, need not be kept: nothing goes on from them.
            if left > 0:
                kept.append((path, state))
        layer = kept
    return None


def longer(store, sessions, tears, layer):
    """Yields the paths with one more crash than those of a layer, each with the state that it leads to."""
    for path, state in layer:
        _, cuts = later_cuts(store, sessions, state)
        for cut, row, later in following(cuts, tears):
            yield path + ((cut, row),), later


def replay(store, sessions, tears, path):
    """Returns the state that a path leads to and the mapping after its recovery, or raises PathError."""
    last = states_on(store, sessions, tears, path)[-1]
    return last, found_mapping(store, last)


def states_on(store, sessions, tears, path):
    """Returns the list of the states on a path, the first state among them, or raises PathError."""
    states = [first_state(store)]
    for at, (cut, row) in enumerate(path):
        _, cuts = later_cuts(store, sessions, states[-1])
        if not leads_on(cuts, tears, cut, row):
            raise PathError(at)
        session, snapshot, allowed = cuts[cut]
        states.append((session, image(snapshot, tears, row), allowed))
    return states


def leads_on(cuts, tears, cut, row):
    """Tells whether a cut and a row of choices exist."""
    return 0 <= cut < len(cuts) and is_row(cuts[cut][1], tears, row)


def is_row(snapshot, tears, row):
    """Tells whether a row has a choice that exists for each sector."""
    if len(row) != len(snapshot[0]):
        return False
    return all([0 <= choice < choices(snapshot, sector, tears) for sector, choice in enumerate(row)])
