"""Disks: points 0.6 and 3.1."""

import random
import unittest

from salvor.disks import Disk, blank


def described(disk, sectors):
    """Returns all that can be seen of a disk."""
    return [disk.look(sector) for sector in range(sectors)], disk.snapshot()


class Blank(unittest.TestCase):
    def test_all_sizes(self):
        for sectors in range(1, 7):
            for width in range(1, 5):
                contents = blank(sectors, width)
                self.assertIs(type(contents), tuple)
                self.assertEqual(len(contents), sectors)
                for words in contents:
                    self.assertIs(type(words), tuple)
                    self.assertEqual(words, tuple([0] * width))

    def test_written_out(self):
        self.assertEqual(blank(1, 1), ((0,),))
        self.assertEqual(blank(3, 2), ((0, 0), (0, 0), (0, 0)))

    def test_somewhat_beyond_the_limits(self):
        self.assertEqual(blank(7, 5), ((0, 0, 0, 0, 0),) * 7)


class Written(unittest.TestCase):
    def test_example_of_the_interface(self):
        disk = Disk(blank(2, 1))
        self.assertIsNone(disk.write(1, [7]))
        self.assertEqual([disk.look(1), disk.snapshot()], [[7], (((0,), (0,)), ((1, (7,)),))])

    def test_first_contents(self):
        for contents in (((9,),), ((1, 2, 3, 4),), tuple((k,) for k in range(6)),
                         tuple((k, 15 - k, 0, k + 1) for k in range(6))):
            disk = Disk(contents)
            self.assertEqual([disk.look(sector) for sector in range(len(contents))], [list(c) for c in contents])
            self.assertEqual(disk.snapshot(), (contents, ()))

    def test_kinds(self):
        disk = Disk(((1, 2), (3, 4)))
        disk.write(0, [5, 6])
        self.assertIs(type(disk.look(0)), list)
        self.assertIs(type(disk.look(1)), list)
        snapshot = disk.snapshot()
        for whole in (snapshot, snapshot[0], snapshot[0][0], snapshot[1], snapshot[1][0], snapshot[1][0][1]):
            self.assertIs(type(whole), tuple)

    def test_the_last_write_is_seen(self):
        disk = Disk(((1, 2), (3, 4), (5, 6)))
        disk.write(1, [7, 8])
        self.assertEqual([disk.look(k) for k in range(3)], [[1, 2], [7, 8], [5, 6]])
        disk.write(1, [9, 10])
        disk.write(2, [11, 12])
        disk.write(1, [3, 4])
        self.assertEqual([disk.look(k) for k in range(3)], [[1, 2], [3, 4], [11, 12]])
        self.assertEqual(disk.snapshot(), (((1, 2), (3, 4), (5, 6)),
                                           ((1, (7, 8)), (1, (9, 10)), (2, (11, 12)), (1, (3, 4)))))

    def test_equal_writes_are_kept_apart(self):
        disk = Disk(((0,),))
        for _ in range(3):
            disk.write(0, [0])
        self.assertEqual(disk.snapshot(), (((0,),), ((0, (0,)),) * 3))


class Barriers(unittest.TestCase):
    def test_before_between_and_behind_writes(self):
        disk = Disk(((1,), (2,)))
        self.assertIsNone(disk.barrier())
        self.assertEqual(described(disk, 2), ([[1], [2]], (((1,), (2,)), ())))
        disk.write(0, [3])
        disk.write(0, [4])
        self.assertEqual(described(disk, 2), ([[4], [2]], (((1,), (2,)), ((0, (3,)), (0, (4,))))))
        disk.barrier()
        self.assertEqual(described(disk, 2), ([[4], [2]], (((4,), (2,)), ())))
        disk.write(0, [5])
        disk.write(1, [6])
        disk.write(0, [4])
        self.assertEqual(described(disk, 2), ([[4], [6]], (((4,), (2,)), ((0, (5,)), (1, (6,)), (0, (4,))))))
        disk.barrier()
        disk.barrier()
        self.assertEqual(described(disk, 2), ([[4], [6]], (((4,), (6,)), ())))

    def test_what_is_only_durable_is_seen_beside_the_cache(self):
        disk = Disk(((0, 0), (0, 0)))
        disk.write(0, [1, 2])
        disk.barrier()
        disk.write(1, [3, 4])
        self.assertEqual([disk.look(0), disk.look(1)], [[1, 2], [3, 4]])

    def test_disks_of_the_greatest_size(self):
        disk = Disk(blank(6, 4))
        for sector in range(6):
            disk.write(sector, [sector] * 4)
            if sector == 2:
                disk.barrier()
        durable = ((0,) * 4, (1,) * 4, (2,) * 4) + ((0,) * 4,) * 3
        pending = ((3, (3,) * 4), (4, (4,) * 4), (5, (5,) * 4))
        self.assertEqual(described(disk, 6), ([[k] * 4 for k in range(6)], (durable, pending)))


class Shared(unittest.TestCase):
    """No list is shared, and a snapshot stays as it was."""

    def test_the_list_of_a_write(self):
        disk = Disk(((0, 0),))
        words = [1, 2]
        disk.write(0, words)
        words[0] = 9
        words.append(3)
        self.assertEqual(described(disk, 1), ([[1, 2]], (((0, 0),), ((0, (1, 2)),))))
        disk.barrier()
        words[1] = 9
        self.assertEqual(described(disk, 1), ([[1, 2]], (((1, 2),), ())))

    def test_one_list_for_several_writes(self):
        disk = Disk(((0,), (0,)))
        words = [1]
        disk.write(0, words)
        words[0] = 2
        disk.write(1, words)
        self.assertEqual(words, [2])
        self.assertEqual(disk.snapshot()[1], ((0, (1,)), (1, (2,))))

    def test_the_list_of_a_look(self):
        disk = Disk(((1, 2), (3, 4)))
        disk.write(1, [5, 6])
        for sector, expected in ((0, [1, 2]), (1, [5, 6])):
            words = disk.look(sector)
            words[0] = 9
            words.append(9)
            self.assertEqual(disk.look(sector), expected)
            self.assertIsNot(disk.look(sector), disk.look(sector))
        self.assertEqual(disk.snapshot(), (((1, 2), (3, 4)), ((1, (5, 6)),)))

    def test_a_list_of_a_look_that_is_written_again(self):
        disk = Disk(((1, 2), (3, 4)))
        words = disk.look(0)
        words[1] = 7
        disk.write(1, words)
        disk.write(0, disk.look(1))
        self.assertEqual(disk.snapshot()[1], ((1, (1, 7)), (0, (1, 7))))

    def test_an_earlier_snapshot(self):
        contents = ((0,), (0,))
        disk = Disk(contents)
        first = disk.snapshot()
        disk.write(1, [7])
        second = disk.snapshot()
        disk.write(1, [8])
        disk.barrier()
        disk.write(0, [9])
        self.assertEqual(first, (((0,), (0,)), ()))
        self.assertEqual(second, (((0,), (0,)), ((1, (7,)),)))
        self.assertEqual(contents, ((0,), (0,)))

    def test_two_disks_with_the_same_contents(self):
        contents = blank(2, 1)
        one, other = Disk(contents), Disk(contents)
        one.write(0, [5])
        one.barrier()
        one.write(1, [6])
        self.assertEqual(described(other, 2), ([[0], [0]], (contents, ())))


class Long(unittest.TestCase):
    """Many writes and barriers, against a list of all that was done."""

    def test_any_writes_and_barriers(self):
        dice = random.Random(31)
        for sectors in range(1, 7):
            for width in range(1, 5):
                self.compare(dice, sectors, width)

    def compare(self, dice, sectors, width):
        first = tuple(tuple(dice.randrange(16) for _ in range(width)) for _ in range(sectors))
        disk = Disk(first)
        done = []
        for _ in range(40):
            if dice.randrange(5) == 0:
                disk.barrier()
                done.append(None)
            else:
                sector, words = dice.randrange(sectors), [dice.randrange(3) for _ in range(width)]
                disk.write(sector, words)
                done.append((sector, tuple(words)))
            last = max([at + 1 for at, step in enumerate(done) if step is None], default=0)
            durable = dict(enumerate(first)) | dict(step for step in done[:last] if step is not None)
            seen = durable | dict(done[last:])
            expected = ([list(seen[k]) for k in range(sectors)],
                        (tuple(durable[k] for k in range(sectors)), tuple(done[last:])))
            self.assertEqual(described(disk, sectors), expected)


if __name__ == "__main__":
    unittest.main()
