"""The machine that executes the bodies of a store (points 5.1 to 5.3 of the document)."""

from salvor.disks import Disk
from salvor.stores import copy_store
from salvor.words import combine, wrap


class Machine:
    """A disk and the variables of a store, and the cuts of the bodies that were executed."""

    def __init__(self, store, contents):
        # A store holds lists, and neither the caller nor a duplicate may share them.
        self.store = copy_store(store)
        self.disk = Disk(contents)
        self.variables = [0] * store[4]
        self._cuts = []

    def run(self, body, given):
        """Executes a body; `given` has the values of "key" and "value" as far as the body may use them."""
        for statement in body:
            self.execute(statement, given)

    def execute(self, statement, given):
        """Executes a statement."""
        kind = statement[0]
        if kind == "set":
            self.variables[statement[1]] = self.value(statement[2], given)
        elif kind == "if":
            self.run(self.taken(statement, given), given)
        elif kind == "loop":
            self.repeat(statement, given)
        else:
            self.change_disk(statement, given)
            self._cuts.append(self.disk.snapshot())

    def taken(self, statement, given):
        """Returns the body of an "if" that is to be executed."""
        _, e, first, second = statement
        return first if self.value(e, given) != 0 else second

    def repeat(self, statement, given):
        """Executes a "loop"."""
        _, v, count, body = statement
        for turn in range(count):
            self.variables[v] = turn
            self.run(body, given)

    def change_disk(self, statement, given):
        """Executes a "write" or a "barrier"."""
        if statement[0] == "barrier":
            self.disk.barrier()
            return
        _, e, words = statement
        sector = self.sector(self.value(e, given))
        self.disk.write(sector, [self.value(word, given) for word in words])

    def sector(self, number):
        """Returns the sector that a word stands for."""
        return number % self.store[1]

    def value(self, e, given):
        """Returns the value of an expression."""
        kind = e[0]
        if kind == "num":
            return e[1]
        if kind == "var":
            return self.variables[e[1]]
        if kind in ("key", "value"):
            return given[kind]
        return self.outcome(kind, [self.value(part, given) for part in e[1:]])

    def outcome(self, kind, values):
        """Returns the value of an expression from the values of the expressions directly in it."""
        if kind == "read":
            words = self.disk.look(self.sector(values[0]))
            return words[values[1] % self.store[2]]
        if kind == "sum":
            return wrap(sum(self.disk.look(self.sector(values[0]))))
        if kind == "not":
            return int(values[0] == 0)
        return combine(kind, values[0], values[1])

    def take_cuts(self):
        """Returns the list of the cuts since the last call, in order."""
        cuts = self._cuts
        self._cuts = []
        return cuts

    def mapping(self):
        """Returns the tuple of the words that get finds for the keys."""
        return tuple([self.look_up(key) for key in range(self.store[3])])

    def look_up(self, key):
        """Returns the word that get finds for a key."""
        # Variables of its own make a duplicate here: get changes nothing else, as it may not write.
        kept = self.variables
        self.variables = list(kept)
        body, e = self.store[8]
        given = {"key": key}
        self.run(body, given)
        word = self.value(e, given)
        self.variables = kept
        return word

    def duplicate(self):
        """Returns a machine in the same state that has no cuts."""
        durable, pending = self.disk.snapshot()
        twin = Machine(self.store, durable)
        for sector, words in pending:
            twin.disk.write(sector, list(words))
        twin.variables = list(self.variables)
        return twin
