"""Disks with a volatile write cache (points 0.6 and 3.1 of the document)."""


def blank(sectors, width):
    """Returns the contents of a blank disk."""
    return tuple([(0,) * width for _ in range(sectors)])


class Disk:
    """A disk: its durable sectors, and the writes in its cache."""

    def __init__(self, contents):
        self._durable = contents
        self._pending = []
        # What a reader sees of each sector, so that no reader has to search the cache.
        self._visible = list(contents)

    def look(self, sector):
        """Returns the list of the words that a reader of a sector sees."""
        return list(self._visible[sector])

    def write(self, sector, words):
        """Writes a list of words to a sector, into the cache."""
        # A tuple is kept: the caller may change his list afterwards.
        kept = tuple(words)
        self._pending.append((sector, kept))
        self._visible[sector] = kept

    def barrier(self):
        """Makes all writes in the cache durable."""
        # The last write to a sector decides, and that is what a reader sees.
        self._durable = tuple(self._visible)
        self._pending = []

    def snapshot(self):
        """Returns the pair of the durable contents and the pending writes."""
        return self._durable, tuple(self._pending)
