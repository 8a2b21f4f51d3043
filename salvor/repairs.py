"""Barriers that make a store safe (points 11.1 and 11.2 of the document)."""

from itertools import combinations

from salvor.errors import LimitError
from salvor.images import can_leave
from salvor.states import later_cuts
from salvor.stores import PUT, RECOVER, SYNC, copy_store
from salvor.walks import joined_walk, states_on


def places(store):
    """Returns the list of all places for a barrier in ascending order."""
    return [(b, i) for b in (PUT, SYNC, RECOVER) for i in range(len(store[b]) + 1)]


def with_barriers(store, chosen):
    """Returns the store with barriers at a list of places."""
    copied = copy_store(store)
    bodies = [body_with_barriers(copied[b], [i for other, i in chosen if other == b]) for b in (PUT, SYNC, RECOVER)]
    return copied[:PUT] + tuple(bodies) + copied[RECOVER + 1:]


def body_with_barriers(body, chosen):
    """Returns a body with barriers before the statements with these indices, or at the end."""
    found = []
    for i in range(len(body) + 1):
        if i in chosen:
            found.append(("barrier",))
        found.extend(body[i:i + 1])
    return found


def repair(store, sessions, tears, limit, most):
    """Returns the best repair that has at most `most` places, or None."""
    spots = places(store)
    # Each of these lists has a place of every repair, so that most choices need no walk.
    needs = []
    for size in range(most + 1):
        for chosen in combinations(spots, size):
            if not meets(chosen, needs):
                continue
            verdict = verdict_within(with_barriers(store, chosen), sessions, tears, limit)
            if verdict[0] == "safe":
                return list(chosen)
            if verdict[0] == "unsafe":
                needs.append(needed_places(store, sessions, tears, chosen, verdict[1]))
            if [] in needs:
                return None
    return None


def meets(chosen, needs):
    """Tells whether a place of each need is chosen."""
    return all([any([place in chosen for place in needed]) for needed in needs])


def verdict_within(store, sessions, tears, limit):
    """Returns the verdict of the joined walk, or one that is neither safe nor unsafe."""
    try:
        return joined_walk(store, sessions, tears, limit)
    except LimitError:
        return ("unknown",)


def needed_places(store, sessions, tears, chosen, path):
    """Returns places of which every repair has one, as a path to a bad state with the chosen ones shows."""
    # A barrier takes away from what a crash can leave and adds nothing. So if the path is still there with more
    # barriers, there is a bad state with any part of them, too: every repair has a place that is not among them.
    states = states_on(with_barriers(store, chosen), sessions, tears, path)
    others = [place for place in places(store) if place not in chosen]
    harmless = list(chosen)
    needed = []
    for other in others:
        if leads_through(with_barriers(store, harmless + [other]), sessions, tears, states):
            harmless.append(other)
        else:
            needed.append(other)
    return needed


def leads_through(store, sessions, tears, states):
    """Tells whether each of these states is followed by the next one."""
    for state, later in zip(states, states[1:]):
        _, cuts = later_cuts(store, sessions, state)
        if not is_among(cuts, tears, later):
            return False
    return True


def is_among(cuts, tears, state):
    """Tells whether a state follows at one of these cuts."""
    session, left, allowed = state
    return any([(at, known) == (session, allowed) and can_leave(snapshot, tears, left) for at, snapshot, known in cuts])
