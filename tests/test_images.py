"""What a crash can leave: points 0.7, 4.1 and 4.2."""

import itertools
import random
import unittest

from salvor.images import choices, distinct, image, rows

THREE = (((1, 2, 3), (9, 9, 9)), ((0, (4, 5, 6)), (1, (7, 7, 7)), (0, (10, 11, 12)), (0, (13, 14, 15))))


def left_by(snapshot, sector, tears, choice):
    """Returns the words that a choice leaves, found by performing the writes one after the other."""
    contents, pending = snapshot
    words = list(contents[sector])
    steps = choice
    for at, new in pending:
        if at != sector:
            continue
        if tears:
            many = min(steps, len(words))
        else:
            many = len(words) if steps > 0 else 0
        words[:many] = new[:many]
        steps -= many if tears else 1
        if steps <= 0:
            break
    return tuple(words)


def all_rows(snapshot, tears):
    """Returns all rows of choices."""
    contents, pending = snapshot
    step = len(contents[0]) if tears else 1
    return list(itertools.product(*[range(len([at for at, _ in pending if at == sector]) * step + 1)
                                    for sector in range(len(contents))]))


def all_images(snapshot, tears):
    """Returns the pairs of each row and its image."""
    return [(row, tuple(left_by(snapshot, sector, tears, choice) for sector, choice in enumerate(row)))
            for row in all_rows(snapshot, tears)]


def first_images(snapshot, tears):
    """Returns the pairs of a row and its image for the images that no earlier row leaves."""
    found = []
    for row, left in all_images(snapshot, tears):
        if left not in [other for _, other in found]:
            found.append((row, left))
    return found


class Example(unittest.TestCase):
    def test_of_the_interface(self):
        snapshot = (((1, 2), (3, 4)), ((0, (5, 6)), (0, (1, 2))))
        self.assertEqual(rows(snapshot, False), [(0, 0), (1, 0), (2, 0)])
        self.assertEqual(distinct(snapshot, True), [((0, 0), ((1, 2), (3, 4))), ((1, 0), ((5, 2), (3, 4))),
                                                    ((2, 0), ((5, 6), (3, 4))), ((3, 0), ((1, 6), (3, 4)))])
        self.assertEqual(distinct(snapshot, False), [((0, 0), ((1, 2), (3, 4))), ((1, 0), ((5, 6), (3, 4)))])


class Choices(unittest.TestCase):
    def test_number(self):
        for width in range(1, 5):
            for many in (0, 1, 3):
                pending = ((1, (5,) * width), (0, (6,) * width), (1, (5,) * width), (1, (7,) * width))
                mine = tuple(write for write in pending if write[0] == 1)[:many]
                snapshot = (((0,) * width,) * 3, ((0, (1,) * width),) + mine + ((2, (2,) * width),) * 2)
                self.assertEqual(choices(snapshot, 1, False), many + 1)
                self.assertEqual(choices(snapshot, 1, True), many * width + 1)
                self.assertEqual(choices(snapshot, 0, True), width + 1)
                self.assertEqual(choices(snapshot, 2, False), 3)

    def test_no_pending_writes(self):
        snapshot = (((1, 2), (3, 4)), ())
        for tears in (False, True):
            self.assertEqual([choices(snapshot, sector, tears) for sector in range(2)], [1, 1])
            self.assertEqual(image(snapshot, tears, (0, 0)), ((1, 2), (3, 4)))
            self.assertEqual(rows(snapshot, tears), [(0, 0)])
            self.assertEqual(distinct(snapshot, tears), [((0, 0), ((1, 2), (3, 4)))])

    def test_a_disk_that_does_not_tear(self):
        lefts = [image(THREE, False, (choice, 0)) for choice in range(4)]
        self.assertEqual(lefts, [(words, (9, 9, 9)) for words in ((1, 2, 3), (4, 5, 6), (10, 11, 12), (13, 14, 15))])
        self.assertEqual(image(THREE, False, (2, 1)), ((10, 11, 12), (7, 7, 7)))

    def test_a_disk_that_tears(self):
        lefts = [image(THREE, True, (choice, 0))[0] for choice in range(10)]
        self.assertEqual(lefts, [(1, 2, 3), (4, 2, 3), (4, 5, 3), (4, 5, 6), (10, 5, 6), (10, 11, 6), (10, 11, 12),
                                 (13, 11, 12), (13, 14, 12), (13, 14, 15)])
        self.assertEqual(image(THREE, True, (5, 2)), ((10, 11, 6), (7, 7, 9)))

    def test_one_word_does_not_tear(self):
        snapshot = (((0,), (3,)), ((0, (5,)), (1, (4,)), (0, (6,)), (0, (0,))))
        for sector in range(2):
            self.assertEqual(choices(snapshot, sector, True), choices(snapshot, sector, False))
        self.assertEqual(rows(snapshot, True), rows(snapshot, False))
        self.assertEqual(distinct(snapshot, True), distinct(snapshot, False))
        for row in rows(snapshot, True):
            self.assertEqual(image(snapshot, True, row), image(snapshot, False, row))
        self.assertEqual([image(snapshot, True, (c, 1))[0] for c in range(4)], [(0,), (5,), (6,), (0,)])


class Rows(unittest.TestCase):
    def test_order(self):
        snapshot = (((0,), (0,), (0,)), ((2, (1,)), (0, (2,)), (2, (3,))))
        self.assertEqual(rows(snapshot, False), [(0, 0, 0), (0, 0, 1), (0, 0, 2), (1, 0, 0), (1, 0, 1), (1, 0, 2)])

    def test_order_on_a_disk_that_tears(self):
        snapshot = (((0, 0), (0, 0)), ((1, (1, 2)), (0, (3, 4))))
        self.assertEqual(rows(snapshot, True), [(a, b) for a in range(3) for b in range(3)])

    def test_rows_that_leave_the_same_image_all_count(self):
        snapshot = (((5,),), ((0, (5,)), (0, (5,))))
        for tears in (False, True):
            self.assertEqual(rows(snapshot, tears), [(0,), (1,), (2,)])

    def test_order_of_choices_of_two_digits(self):
        snapshot = (((0, 0, 0, 0),), tuple((0, (k, k, k, k)) for k in range(1, 4)))
        self.assertEqual(rows(snapshot, True), [(k,) for k in range(13)])


class Distinct(unittest.TestCase):
    def test_words_that_the_sector_has_already(self):
        snapshot = (((5, 6), (7, 8)), ((0, (5, 6)), (1, (7, 9))))
        self.assertEqual(distinct(snapshot, True), [((0, 0), ((5, 6), (7, 8))), ((0, 2), ((5, 6), (7, 9)))])
        self.assertEqual(distinct(snapshot, False), [((0, 0), ((5, 6), (7, 8))), ((0, 1), ((5, 6), (7, 9)))])

    def test_order_with_two_sectors(self):
        snapshot = (((0,), (0,)), ((1, (1,)), (0, (2,)), (1, (0,)), (1, (3,))))
        expected = [((0, 0), ((0,), (0,))), ((0, 1), ((0,), (1,))), ((0, 3), ((0,), (3,))),
                    ((1, 0), ((2,), (0,))), ((1, 1), ((2,), (1,))), ((1, 3), ((2,), (3,)))]
        for tears in (False, True):
            self.assertEqual(distinct(snapshot, tears), expected)

    def test_words_that_come_back_later(self):
        snapshot = (((0, 0),), ((0, (1, 1)), (0, (0, 0)), (0, (1, 1)), (0, (1, 0))))
        expected = [((0,), ((0, 0),)), ((1,), ((1, 0),)), ((2,), ((1, 1),)), ((3,), ((0, 1),))]
        self.assertEqual(distinct(snapshot, True), expected)
        self.assertEqual(distinct(snapshot, False), [expected[0], ((1,), ((1, 1),)), ((4,), ((1, 0),))])

    def test_many_rows_with_few_images(self):
        # 25 ** 6 rows: only the different images can be listed.
        words = (1, 2, 3, 4)
        snapshot = ((words,) * 6, tuple((sector, words) for sector in range(6)) * 6)
        self.assertEqual(distinct(snapshot, True), [((0,) * 6, (words,) * 6)])


class Kinds(unittest.TestCase):
    def test_tuples_in_new_lists(self):
        for tears in (False, True):
            for listed in (rows, distinct):
                one, other = listed(THREE, tears), listed(THREE, tears)
                self.assertIs(type(one), list)
                one.clear()
                self.assertEqual(listed(THREE, tears), other)
                self.assertTrue(all(type(member) is tuple for member in other))
            for row, left in distinct(THREE, tears):
                for whole in (row, left) + left:
                    self.assertIs(type(whole), tuple)
            for whole in (image(THREE, tears, (1, 1)),) + image(THREE, tears, (1, 1)):
                self.assertIs(type(whole), tuple)


class Compared(unittest.TestCase):
    """Any snapshots, against lists of rows and images that are made here."""

    def compare(self, snapshot):
        for tears in (False, True):
            self.assertEqual(rows(snapshot, tears), all_rows(snapshot, tears))
            self.assertEqual([choices(snapshot, sector, tears) for sector in range(len(snapshot[0]))],
                             [choice + 1 for choice in all_rows(snapshot, tears)[-1]])
            for row, left in all_images(snapshot, tears):
                self.assertEqual(image(snapshot, tears, row), left, (snapshot, tears, row))
            self.assertEqual(distinct(snapshot, tears), first_images(snapshot, tears), (snapshot, tears))

    def test_the_model_itself(self):
        self.assertEqual(left_by(THREE, 0, True, 5), (10, 11, 6))
        self.assertEqual(left_by(THREE, 0, False, 2), (10, 11, 12))
        self.assertEqual(left_by(THREE, 1, True, 0), (9, 9, 9))

    def test_few_writes_of_few_words(self):
        for width in (1, 2):
            blocks = list(itertools.product((0, 1), repeat=width))
            writes = [(sector, words) for sector in (0, 1) for words in blocks]
            for many in range(3):
                for pending in itertools.product(writes, repeat=many):
                    self.compare((((0,) * width,) * 2, pending))

    def test_any_snapshots(self):
        dice = random.Random(41)
        for sectors in range(1, 7):
            for width in range(1, 5):
                for many in (0, 1, 3, 4):
                    values = dice.choice((2, 16))
                    words = [tuple(dice.randrange(values) for _ in range(width)) for _ in range(sectors + many)]
                    pending = tuple((dice.randrange(sectors), block) for block in words[sectors:])
                    self.compare((tuple(words[:sectors]), pending))


if __name__ == "__main__":
    unittest.main()
