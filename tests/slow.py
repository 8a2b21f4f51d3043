"""What follows a state, once more for the tests: on the second machine, and without any short cuts."""

import itertools

from tests.model import Model


def expected_cuts(model, deeds, base):
    """Returns the cuts of a session on the second machine, with allowed mappings that are searched for one by one."""
    def snapshot():
        return tuple(model.state["durable"]), tuple(model.state["pending"])

    def allowed(low, high):
        found = []
        for many in range(low, high + 1):
            mapping = list(base)
            for deed in deeds[:many]:
                if deed[0] == "put":
                    mapping[deed[1]] = deed[2]
            found += [tuple(mapping)] if tuple(mapping) not in found else []
        return tuple(sorted(found))

    found = [(snapshot(), allowed(0, 0))]
    for k, deed in enumerate(deeds):
        syncs = [at for at in range(k) if deeds[at] == ("sync",)]
        low = syncs[-1] + 1 if syncs else 0
        seen = len(model.state["cuts"])
        model.run(model.store[5 if deed[0] == "put" else 6], dict(zip(("key", "value"), deed[1:])))
        found += [(cut, allowed(low, k + 1)) for cut in model.state["cuts"][seen:]]
        found += [(snapshot(), allowed(k + 1 if deed == ("sync",) else low, k + 1))]
    return found


def expected_later(store, sessions, state):
    """Returns what follows a state on the second machine."""
    session, image, allowed = state
    model = Model(store, image)
    model.run(store[7], {})
    cuts = [(session, cut, allowed) for cut in model.state["cuts"]]
    mapping = model.mapping()
    if session == len(sessions):
        last = tuple(model.state["durable"]), tuple(model.state["pending"])
        return mapping, cuts + [(session, last, (mapping,))]
    return mapping, cuts + [(session + 1,) + pair for pair in expected_cuts(model, sessions[session], mapping)]


def torn(snapshot, sector, choice, tears):
    """Returns the words that a choice leaves, as point 4.1 says."""
    contents, pending = snapshot
    width = len(contents[sector])
    whole = [contents[sector]] + [words for at, words in pending if at == sector]
    if not tears:
        return whole[choice]
    kept, part = whole[choice // width], choice % width
    return whole[choice // width + 1][:part] + kept[part:] if part else kept


def expected_successors(cuts, tears):
    """Returns the states that follow, from all rows of choices: a repeated image of a cut is left out."""
    found = []
    for cut, (session, snapshot, allowed) in enumerate(cuts):
        contents, pending = snapshot
        times = len(contents[0]) if tears else 1
        many = [sum(at == sector for at, _ in pending) * times + 1 for sector in range(len(contents))]
        seen = []
        for row in itertools.product(*[range(most) for most in many]):
            image = tuple(torn(snapshot, sector, choice, tears) for sector, choice in enumerate(row))
            if image not in seen:
                seen.append(image)
                found.append((cut, row, (session, image, allowed)))
    return found


def first(store):
    """Returns the first state."""
    return 0, ((0,) * store[2],) * store[1], ((0,) * store[3],)


def slow_walk(store, sessions, tears, limit):
    """Returns the verdict of the joined walk, or ("limit", limit)."""
    states = [first(store)]
    paths = [()]
    for at in itertools.count():
        if at == len(states):
            return "safe", states
        mapping, cuts = expected_later(store, sessions, states[at])
        if mapping not in states[at][2]:
            return "unsafe", paths[at], mapping
        for cut, row, later in expected_successors(cuts, tears):
            if later not in states:
                if len(states) == limit:
                    return "limit", limit
                states.append(later)
                paths.append(paths[at] + ((cut, row),))


def slow_audit(store, sessions, tears, states):
    """Tells whether a paper is accepted: it looks through the whole paper for each state."""
    def covered(state):
        return any(known[:2] == state[:2] and all(mapping in state[2] for mapping in known[2]) for known in states)

    def kept(state):
        mapping, cuts = expected_later(store, sessions, state)
        return mapping in state[2] and all(covered(later) for _, _, later in expected_successors(cuts, tears))

    return covered(first(store)) and all(kept(state) for state in states)


def slow_repair(store, sessions, tears, limit, most):
    """Returns the best repair: it tries all lists of places, and each by a slow walk."""
    spots = [(b, i) for b in (5, 6, 7) for i in range(len(store[b]) + 1)]
    for size in range(most + 1):
        for chosen in itertools.combinations(spots, size):
            repaired = list(store)
            for b, i in reversed(chosen):
                repaired[b] = repaired[b][:i] + [("barrier",)] + repaired[b][i:]
            if slow_walk(tuple(repaired), sessions, tears, limit)[0] == "safe":
                return list(chosen)
    return None
