"""The lines of verdicts and states (points 10.1 and 10.2 of the document)."""


def report(verdict):
    """Returns the list of the lines of a verdict of the joined walk."""
    if verdict[0] == "safe":
        return [f"safe: {len(verdict[1])} states"]
    _, path, mapping = verdict
    crashes = [f"crash at {cut} with {numbers(row)}" for cut, row in path]
    return [f"unsafe: {len(path)} crashes"] + crashes + [f"found {numbers(mapping)}"]


def state_lines(states):
    """Returns the list of the lines of states."""
    return [state_line(state) for state in states]


def state_line(state):
    """Returns the line of a state."""
    session, left, allowed = state
    disk = " | ".join([numbers(words) for words in left])
    mappings = ", ".join([numbers(mapping) for mapping in allowed])
    return f"session {session} disk {disk} allowed {mappings}"


def numbers(words):
    """Returns numbers with single spaces between them."""
    return " ".join([str(word) for word in words])
