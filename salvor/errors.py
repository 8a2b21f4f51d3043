"""The errors of the program."""


class SalvorError(ValueError):
    """The base class of all errors of the program."""


class StoreError(SalvorError):
    """A store breaks a rule, whose name is kept as `rule`."""

    def __init__(self, rule):
        super().__init__(f"the store breaks the rule {rule}")
        self.rule = rule


class LimitError(SalvorError):
    """A walk would find more different states than `limit`."""

    def __init__(self, limit):
        super().__init__(f"there are more than {limit} states")
        self.limit = limit


class PathError(SalvorError):
    """A path cannot be replayed from the pair with the index `at` on."""

    def __init__(self, at):
        super().__init__(f"the path breaks off at its pair {at}")
        self.at = at
