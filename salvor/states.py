"""States between two crashes, and those that follow them (points 7.1 and 7.2 of the document)."""

from salvor.disks import blank
from salvor.images import leftovers
from salvor.machine import Machine
from salvor.sessions import session_cuts
from salvor.stores import RECOVER


def first_state(store):
    """Returns the first state."""
    return 0, blank(store[1], store[2]), ((0,) * store[3],)


def later_cuts(store, sessions, state):
    """Returns the mapping after the recovery of a state, and the list of the cuts that follow the state."""
    session, _, allowed = state
    machine = recovered(store, state)
    cuts = [(session, cut, allowed) for cut in machine.take_cuts()]
    mapping = machine.mapping()
    if session < len(sessions):
        performed = session_cuts(machine, sessions[session], mapping)
        cuts.extend([(session + 1, cut, known) for cut, known in performed])
    else:
        cuts.append((session, machine.disk.snapshot(), (mapping,)))
    return mapping, cuts


def successors(cuts, tears):
    """Returns the list of the states that follow, each behind its cut and its first row of choices."""
    return list(following(cuts, tears))


def following(cuts, tears):
    """Yields what successors returns, one by one: there may be far more than anyone looks at."""
    for cut, (session, snapshot, allowed) in enumerate(cuts):
        for row, left in leftovers(snapshot, tears):
            yield cut, row, (session, left, allowed)


def recovered(store, state):
    """Returns a machine on the image of a state, after its recovery."""
    machine = Machine(store, state[1])
    machine.run(machine.store[RECOVER], {})
    return machine


def found_mapping(store, state):
    """Returns the mapping after the recovery of a state."""
    return recovered(store, state).mapping()


def is_allowed(mapping, state):
    """Tells whether a mapping that was found after the recovery of a state is allowed: otherwise it is bad."""
    return mapping in state[2]
