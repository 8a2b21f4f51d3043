"""The rules of stores (points 2.1 to 2.3 of the document)."""

from salvor.errors import StoreError
from salvor.words import WORDS

# Where the bodies stand in a store.
PUT = 5
SYNC = 6
RECOVER = 7
LEAVES = ("num", "var", "key", "value")
MOST_SECTORS = 6
MOST_WIDTH = 4
MOST_KEYS = 3
MOST_VARIABLES = 8
MOST_STATEMENTS = 60
MOST_ROUNDS = 8
DEEPEST_BODY = 4
DEEPEST_LOOP = 2
DEEPEST_EXPRESSION = 5


class Scope:
    """What may stand in one of the bodies of a store."""

    def __init__(self, width, variables, arguments, writes):
        self.width = width
        self.variables = variables
        self.arguments = arguments
        self.writes = writes


def check(store):
    """Returns None for a valid store, otherwise raises StoreError with the rule that decides."""
    sectors, width, keys, variables, put, sync, recover, get = store[1:]
    require(1 <= sectors <= MOST_SECTORS, "sectors")
    require(1 <= width <= MOST_WIDTH, "width")
    require(1 <= keys <= MOST_KEYS, "keys")
    require(0 <= variables <= MOST_VARIABLES, "variables")
    without_arguments = Scope(width, variables, (), True)
    check_body(put, Scope(width, variables, ("key", "value"), True))
    check_body(sync, without_arguments)
    check_body(recover, without_arguments)
    check_get(get, Scope(width, variables, ("key",), False))


def depth(e):
    """Returns the depth of an expression."""
    levels = 0
    layer = [e]
    while layer:
        levels += 1
        layer = expressions_below(layer)
    return levels


def copy_store(store):
    """Returns an equal store that shares no list with this one."""
    return copy_parts(store[:-1]) + (copy_parts(store[-1]),)


def copy_parts(parts):
    """Returns an equal tuple whose lists are new ones, and the lists in these too."""
    return tuple([copy_list(part) if isinstance(part, list) else part for part in parts])


def copy_list(items):
    """Returns an equal list of statements or expressions."""
    return [copy_parts(item) for item in items]


def require(kept, rule):
    """Raises StoreError with the name of a rule that is not kept."""
    if not kept:
        raise StoreError(rule)


def check_get(get, scope):
    """Checks the body of get, then its expression."""
    body, e = get
    check_body(body, scope)
    check_expression(e, scope)


def check_body(body, scope):
    """Checks the size of a body, then its statements."""
    require(fits(body), "size")
    check_statements(body, scope)


def fits(body):
    """Tells whether a body keeps the limits of its statements and of its nesting."""
    many = 0
    layer = [(body, 0)]
    # It stops below the deepest layer that is allowed, so that no nesting is too deep for it.
    for _ in range(DEEPEST_BODY):
        many += sum([len(inner) for inner, loops in layer])
        if many > MOST_STATEMENTS or any([loops > DEEPEST_LOOP for inner, loops in layer]):
            return False
        layer = bodies_below(layer)
    return not layer


def bodies_below(layer):
    """Returns the bodies directly in the statements of bodies, each with the number of loops around it."""
    below = []
    for body, loops in layer:
        for statement in body:
            around = loops + 1 if statement[0] == "loop" else loops
            below.extend([(inner, around) for inner in bodies_in(statement)])
    return below


def bodies_in(statement):
    """Returns the bodies directly in a statement."""
    if statement[0] == "if":
        return [statement[2], statement[3]]
    if statement[0] == "loop":
        return [statement[3]]
    return []


def check_statements(body, scope):
    """Checks each statement of a body and the statements inside it, in order."""
    for statement in body:
        check_statement(statement, scope)
        for inner in bodies_in(statement):
            check_statements(inner, scope)


def check_statement(statement, scope):
    """Checks a statement without the statements inside it."""
    kind = statement[0]
    if kind == "set":
        check_variable(statement[1], scope)
        check_expression(statement[2], scope)
    elif kind == "write":
        check_write(statement, scope)
    elif kind == "barrier":
        require(scope.writes, "write")
    elif kind == "if":
        check_expression(statement[1], scope)
    else:
        check_variable(statement[1], scope)
        require(1 <= statement[2] <= MOST_ROUNDS, "size")


def check_write(statement, scope):
    """Checks a "write"."""
    _, sector, words = statement
    require(scope.writes, "write")
    check_expression(sector, scope)
    require(len(words) == scope.width, "width")
    for e in words:
        check_expression(e, scope)


def check_variable(v, scope):
    """Checks a variable number."""
    require(0 <= v < scope.variables, "variable")


def check_expression(e, scope):
    """Checks the depth of an expression, then everything that stands in it."""
    require(not too_deep(e), "size")
    check_leaves(e, scope)


def too_deep(e):
    """Tells whether an expression is deeper than a store may have it."""
    layer = [e]
    # Unlike depth, it looks no further than it must: one store may name the same deep expression many times.
    for _ in range(DEEPEST_EXPRESSION):
        layer = expressions_below(layer)
    return len(layer) > 0


def expressions_below(layer):
    """Returns the expressions directly in expressions."""
    return [part for e in layer for part in expressions_in(e)]


def expressions_in(e):
    """Returns the expressions directly in an expression, from left to right."""
    if e[0] in LEAVES:
        return []
    return list(e[1:])


def check_leaves(e, scope):
    """Checks the word, variable or argument of an expression, then those of the expressions in it."""
    kind = e[0]
    if kind == "num":
        require(0 <= e[1] < WORDS, "word")
    elif kind == "var":
        check_variable(e[1], scope)
    elif kind in ("key", "value"):
        require(kind in scope.arguments, "argument")
    for part in expressions_in(e):
        check_leaves(part, scope)
