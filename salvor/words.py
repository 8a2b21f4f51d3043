"""Words: the integers from 0 to 15, and the operators over them."""

WORDS = 16


def wrap(n):
    """Returns the integer n modulo 16."""
    return n % WORDS


def combine(operator, a, b):
    """Returns the word that an operator gives for two words."""
    if operator == "+":
        return wrap(a + b)
    if operator == "-":
        return wrap(a - b)
    if operator == "*":
        return wrap(a * b)
    if operator == "==":
        return int(a == b)
    if operator == "<":
        return int(a < b)
    if operator == "and":
        return int(a != 0 and b != 0)
    return int(a != 0 or b != 0)
