"""What a crash can leave on a disk (points 0.7, 4.1 and 4.2 of the document)."""


def choices(snapshot, sector, tears):
    """Returns the number of choices for a sector."""
    return len(outcomes(snapshot, sector, tears))


def image(snapshot, tears, row):
    """Returns the image of a row of choices."""
    return tuple([outcomes(snapshot, sector, tears)[choice] for sector, choice in enumerate(row)])


def can_leave(snapshot, tears, left):
    """Tells whether a crash can leave an image."""
    return all([words in outcomes(snapshot, sector, tears) for sector, words in enumerate(left)])


def rows(snapshot, tears):
    """Returns the list of all rows of choices in ascending order."""
    found = [()]
    for sector in range(len(snapshot[0])):
        many = choices(snapshot, sector, tears)
        found = [row + (choice,) for row in found for choice in range(many)]
    return found


def distinct(snapshot, tears):
    """Returns the pairs of a row and its image for the different images, in ascending order of the rows."""
    return list(leftovers(snapshot, tears))


def leftovers(snapshot, tears):
    """Yields what distinct returns, one by one: there may be far more than anyone looks at."""
    # The sectors are independent: the first row of an image has the first choice of each of its sectors.
    firsts = [first_choices(snapshot, sector, tears) for sector in range(len(snapshot[0]))]
    yield from combined(firsts)


def combined(firsts):
    """Yields the rows and images that the pairs of a choice and its words make, one pair for each sector."""
    if not firsts:
        yield (), ()
    else:
        rest = firsts[1:]
        for choice, words in firsts[0]:
            for row, left in combined(rest):
                yield (choice,) + row, (words,) + left


def first_choices(snapshot, sector, tears):
    """Returns the pairs of a choice for a sector and its words, for the different words, in ascending order."""
    firsts = {}
    for choice, words in enumerate(outcomes(snapshot, sector, tears)):
        firsts.setdefault(words, choice)
    return [(choice, words) for words, choice in firsts.items()]


def outcomes(snapshot, sector, tears):
    """Returns the list of the words that the choices for a sector leave, in the order of the choices."""
    contents, pending = snapshot
    whole = [contents[sector]] + [words for at, words in pending if at == sector]
    if not tears:
        return whole
    torn = []
    for old, new in zip(whole, whole[1:]):
        torn.extend([new[:many] + old[many:] for many in range(len(old))])
    return torn + whole[-1:]
