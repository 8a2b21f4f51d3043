"""Papers that show that a store is safe (points 8.1 and 8.2 of the document)."""

from salvor.states import first_state, following, is_allowed, later_cuts


def audit(store, sessions, tears, states):
    """Tells whether a paper is accepted."""
    paper = sorted_by_disk(states)
    if not is_covered(paper, first_state(store)):
        return False
    for state in states:
        if not is_closed(store, sessions, tears, state, paper):
            return False
    return True


def sorted_by_disk(states):
    """Returns a dict that has for each session and image the list of what the states allow there."""
    paper = {}
    for session, left, allowed in states:
        paper.setdefault((session, left), []).append(allowed)
    return paper


def is_covered(paper, state):
    """Tells whether a state of the paper covers a state."""
    session, left, allowed = state
    for known in paper.get((session, left), []):
        if all([mapping in allowed for mapping in known]):
            return True
    return False


def is_closed(store, sessions, tears, state, paper):
    """Tells whether a state is not bad and each state that follows it is covered."""
    mapping, cuts = later_cuts(store, sessions, state)
    if not is_allowed(mapping, state):
        return False
    for _, _, later in following(cuts, tears):
        if not is_covered(paper, later):
            return False
    return True
