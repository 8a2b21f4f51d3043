"""Sessions of a client, and what he may find after a crash in one (points 6.1 and 6.2 of the document)."""

from salvor.stores import PUT, SYNC


def after(mapping, deed):
    """Returns the mapping changed by a deed."""
    if deed[0] == "sync":
        return mapping
    _, key, word = deed
    return tuple([word if at == key else old for at, old in enumerate(mapping)])


def session_cuts(machine, deeds, base):
    """Performs the deeds on the machine; returns the pairs of a cut and its allowed mappings, in order."""
    prefixes = prefixes_of(base, deeds)
    cuts = [(machine.disk.snapshot(), span(prefixes, 0, 0))]
    low = 0
    for k, deed in enumerate(deeds):
        perform(machine, deed)
        under_way = span(prefixes, low, k + 1)
        cuts.extend([(cut, under_way) for cut in machine.take_cuts()])
        # A sync promises nothing before it is completed, so its own cuts have the old low.
        if deed[0] == "sync":
            low = k + 1
        cuts.append((machine.disk.snapshot(), span(prefixes, low, k + 1)))
    return cuts


def prefixes_of(base, deeds):
    """Returns the list of the mappings that the first deeds make of a mapping, from none of them to all."""
    prefixes = [base]
    for deed in deeds:
        prefixes.append(after(prefixes[-1], deed))
    return prefixes


def span(prefixes, low, high):
    """Returns the prefixes from low to high as allowed mappings: in ascending order, without duplicates."""
    return tuple(sorted(set(prefixes[low:high + 1])))


def perform(machine, deed):
    """Executes the body of a deed."""
    if deed[0] == "sync":
        machine.run(machine.store[SYNC], {})
    else:
        _, key, word = deed
        machine.run(machine.store[PUT], {"key": key, "value": word})
