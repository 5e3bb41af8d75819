"""Points 72 and 73: the radar desk."""
import copy
import random
import unittest

from skyapart.bias import corrected, narrowed
from skyapart.desk import Desk
from skyapart.path import Path
from skyapart.reflected import encode
from skyapart.wire import frame_of, read_stream
from tests.samples import line_chart, small_rules

RULES = small_rules(radar=20, radius=3)
NO_OFFSET = (0, 0, 0, 0)
PATH = Path(line_chart(0, 100, 1000), ("A", "B", "C"))


def sent(x, y, height, count):
    """Return the frame of a plot whose height is sent as a reflected code."""
    return frame_of((x, y, encode(height + 1000) - 32768), count)


def shown(desk, radars):
    return [(desk.estimate(radar), desk.left(radar), desk.lost(radar), desk.held_back(radar)) for radar in range(radars)]


class ReceiveTest(unittest.TestCase):
    def setUp(self):
        self.desk = Desk(RULES, [20, 5], [NO_OFFSET, (10, 10, -7, -7)])

    def test_beginning(self):
        self.assertEqual(shown(self.desk, 2), [(NO_OFFSET, [], 0, 0), ((10, 10, -7, -7), [], 0, 0)])
        self.assertEqual(self.desk.receive(0, []), [])
        self.assertEqual(self.desk.receive(1, []), [])
        self.assertEqual(shown(self.desk, 2), [(NO_OFFSET, [], 0, 0), ((10, 10, -7, -7), [], 0, 0)])

    def test_plots(self):
        self.assertEqual(self.desk.receive(0, sent(5, -6, 100, 0)), [(5, -6, 100)])
        self.assertEqual(self.desk.receive(0, sent(7, 8, 101, 1) + sent(1, 2, 300, 2)), [(7, 8, 101), (1, 2, 300)])
        self.assertEqual(shown(self.desk, 1), [(NO_OFFSET, [], 0, 0)])

    def test_offset(self):
        self.assertEqual(self.desk.receive(1, sent(5, -6, 100, 0) + sent(0, 0, 7, 1)), [(-5, 1, 100), (-10, 7, 7)])

    def test_heights(self):
        for height in (-1000, -999, -1, 0, 1, 24, 100, 599, 31767, 31768, 64535):
            desk = Desk(RULES, [0], [NO_OFFSET])
            self.assertEqual(desk.receive(0, sent(1, 2, height, 0)), [(1, 2, height)])
        # The code 0 is that of the number 0, and 1 that of 1; 3 is that of 2, and 2 that of 3.
        for z, height in ((-32768, -1000), (-32767, -999), (-32765, -998), (-32766, -997), (0, 64535), (32767, 42690)):
            desk = Desk(RULES, [0], [NO_OFFSET])
            self.assertEqual(desk.receive(0, frame_of((0, 0, z), 0)), [(0, 0, height)])

    def test_two_radars_in_turn(self):
        first = sent(1, 1, 10, 0) + sent(2, 2, 20, 1) + sent(3, 3, 30, 4)
        second = sent(100, 100, 10, 200) + sent(200, 200, 20, 202) + sent(300, 300, 30, 203)
        found = {0: [], 1: []}
        for at in range(0, 33, 3):
            found[0] += self.desk.receive(0, first[at:at + 3])
            found[1] += self.desk.receive(1, second[at:at + 3])
        self.assertEqual(found[0], [(1, 1, 10), (2, 2, 20), (3, 3, 30)])
        self.assertEqual(found[1], [(90, 107, 10), (190, 207, 20), (290, 307, 30)])
        self.assertEqual((self.desk.lost(0), self.desk.lost(1)), (2, 1))
        self.assertEqual((self.desk.left(0), self.desk.left(1)), ([], []))

    def test_left(self):
        frame = sent(5, -6, 100, 0)
        for many in range(11):
            desk = Desk(RULES, [0], [NO_OFFSET])
            self.assertEqual(desk.receive(0, frame[:many]), [])
            self.assertEqual(desk.left(0), frame[:many])
            self.assertEqual(desk.receive(0, frame[many:] + [1, 2, 3]), [(5, -6, 100)])
            self.assertEqual(desk.left(0), [1, 2, 3])

    def test_left_behind_bytes_that_are_no_frame(self):
        # The first place at which fewer than 11 bytes follow: the last ten bytes are left, if no frame is there.
        desk = Desk(RULES, [0], [NO_OFFSET])
        numbers = list(range(30))
        self.assertEqual(desk.receive(0, numbers[:10]), [])
        self.assertEqual(desk.left(0), numbers[:10])
        self.assertEqual(desk.receive(0, numbers[10:11]), [])
        self.assertEqual(desk.left(0), numbers[1:11])
        self.assertEqual(desk.receive(0, numbers[11:]), [])
        self.assertEqual(desk.left(0), numbers[20:])
        self.assertEqual(desk.receive(0, []), [])
        self.assertEqual(desk.left(0), numbers[20:])

    def stream(self):
        """Return a stream with counts that jump, bytes between frames, a damaged frame and marks."""
        damaged = sent(5, 5, 50, 253)
        damaged[4] ^= 9
        return ([170, 3] + sent(1, 1, 10, 250) + sent(2, 2, 20, 252) + damaged + [170] * 13 + sent(3, 3, -30, 1)
                + sent(3, 3, -30, 1)[:7] + sent(4, 4, 40, 1) + sent(170, 170, 170, 170) + [170, 170, 0])

    def test_cut_at_every_place(self):
        numbers = self.stream()
        whole = Desk(RULES, [4], [(3, 5, 0, 9)])
        plots = whole.receive(0, numbers)
        self.assertEqual([z for _, _, z in plots], [10, 20, -30, 40, 170])
        self.assertEqual(whole.lost(0), 1 + 4 + 255 + 168)
        for at in range(len(numbers) + 1):
            desk = Desk(RULES, [4], [(3, 5, 0, 9)])
            self.assertEqual(desk.receive(0, numbers[:at]) + desk.receive(0, numbers[at:]), plots)
            self.assertEqual(shown(desk, 1), shown(whole, 1))

    def test_cut_into_many_pieces(self):
        chance = random.Random(1)
        numbers = self.stream() * 3
        whole = Desk(RULES, [4], [(3, 5, 0, 9)])
        plots = whole.receive(0, numbers)
        for most in (1, 2, 5, 11, 12, 25):
            desk, found, at = Desk(RULES, [4], [(3, 5, 0, 9)]), [], 0
            while at < len(numbers):
                many = chance.randint(0 if most > 1 else 1, most)
                found += desk.receive(0, numbers[at:at + many])
                at += many
            self.assertEqual(found, plots)
            self.assertEqual(shown(desk, 1), shown(whole, 1))

    def test_same_frames_as_a_stream(self):
        chance = random.Random(2)
        for _ in range(100):
            numbers = []
            for _ in range(chance.randint(0, 6)):
                numbers += chance.choice((sent(chance.randint(-9, 9), 0, chance.randint(-9, 9), chance.randint(0, 255)),
                                          [chance.choice((170, 0, 1)) for _ in range(chance.randint(0, 12))]))
            desk = Desk(RULES, [0], [NO_OFFSET])
            heights = {encode(height + 1000) - 32768: height for height in range(-1000, 1000)}
            expected = [(x, y, z) for (x, y, z), _ in read_stream(numbers)]
            found = desk.receive(0, numbers)
            self.assertEqual([plot[:2] for plot in found], [plot[:2] for plot in expected])
            for (_, _, height), (_, _, z) in zip(found, expected):
                if z in heights:
                    self.assertEqual(height, heights[z])


class LostTest(unittest.TestCase):
    def lost(self, *counts):
        desk = Desk(RULES, [0], [NO_OFFSET])
        together = Desk(RULES, [0], [NO_OFFSET])
        for count in counts:
            desk.receive(0, sent(0, 0, 0, count))
        together.receive(0, [number for count in counts for number in sent(0, 0, 0, count)])
        self.assertEqual(desk.lost(0), together.lost(0))
        return desk.lost(0)

    def test_first_frame(self):
        for count in (0, 1, 100, 255):
            self.assertEqual(self.lost(count), 0)

    def test_none_lost(self):
        self.assertEqual(self.lost(0, 1, 2, 3), 0)
        self.assertEqual(self.lost(253, 254, 255, 0, 1), 0)

    def test_left_out(self):
        self.assertEqual(self.lost(0, 2), 1)
        self.assertEqual(self.lost(0, 255), 254)
        self.assertEqual(self.lost(254, 0), 1)
        self.assertEqual(self.lost(250, 3), 8)
        self.assertEqual(self.lost(1, 3, 5, 9), 1 + 1 + 3)

    def test_repeated(self):
        self.assertEqual(self.lost(7, 7), 255)
        self.assertEqual(self.lost(7, 7, 8), 255)
        self.assertEqual(self.lost(7, 6), 254)
        self.assertEqual(self.lost(0, 0, 0), 510)

    def test_around(self):
        self.assertEqual(self.lost(*[index % 256 for index in range(700)]), 0)
        self.assertEqual(self.lost(*[3 * index % 256 for index in range(300)]), 598)

    def test_held_back_frames_count(self):
        desk = Desk(RULES, [20], [(0, 99, 0, 0)])
        desk.receive(0, sent(0, 0, 0, 5) + sent(0, 0, 0, 8))
        self.assertEqual((desk.lost(0), desk.held_back(0)), (2, 2))


class PassedOnTest(unittest.TestCase):
    def test_error_at_the_bound(self):
        # With the error 10 of the radar and a width of 2 * 10 the error is 20, which is "radar".
        for error, estimate, passed in (
            (10, (0, 20, 0, 0), True), (11, (0, 20, 0, 0), False), (10, (0, 21, 0, 0), False),
            (10, (0, 0, -10, 10), True), (10, (0, 0, -11, 10), False), (20, (5, 5, 9, 9), True), (20, (5, 6, 9, 9), False),
            (15, (0, 6, 0, 8), True), (16, (0, 6, 0, 8), False), (15, (0, 6, 0, 9), False), (0, (-20, 20, 0, 0), True),
        ):
            desk = Desk(RULES, [error], [estimate])
            plot, greatest = corrected({**RULES, "radar": error}, estimate, (100, 50, 7))
            self.assertEqual(greatest <= 20, passed)
            self.assertEqual(desk.receive(0, sent(100, 50, 7, 0)), [plot] if passed else [])
            self.assertEqual(desk.held_back(0), 0 if passed else 1)
            self.assertEqual(desk.receive(0, sent(100, 50, 7, 1) * 2), [plot] * 2 if passed else [])
            self.assertEqual(desk.held_back(0), 0 if passed else 3)

    def test_each_radar_has_its_own(self):
        desk = Desk(RULES, [10, 20, 10], [(0, 20, 0, 0), (0, 20, 0, 0), (0, 22, 0, 0)])
        for radar, plots in ((0, [(90, 50, 7)]), (1, []), (2, [])):
            self.assertEqual(desk.receive(radar, sent(100, 50, 7, 0)), plots)
        self.assertEqual([desk.held_back(radar) for radar in range(3)], [0, 1, 1])

    def test_after_learning(self):
        desk = Desk(RULES, [5], [(-100, 100, -100, 100)])
        numbers = sent(60, 7, 7, 0)
        self.assertEqual(desk.receive(0, numbers), [])
        # An aircraft at (40, 0): the offset is from 12 to 28 and from -1 to 15.
        self.assertIs(desk.learn(0, PATH, (40, 40, 0, 9), (60, 7, 7)), True)
        self.assertEqual(desk.estimate(0), (12, 28, -1, 15))
        # 8 and 8 make 12: the error is 17.
        self.assertEqual(desk.receive(0, numbers), [(40, 0, 7)])
        self.assertEqual(desk.held_back(0), 1)


class LearnTest(unittest.TestCase):
    def setUp(self):
        self.desk = Desk(RULES, [5, 20], [(-50, 50, -50, 50)] * 2)

    def test_radars_own_error(self):
        for radar, bound in ((0, 8), (1, 23)):
            self.assertIs(self.desk.learn(radar, PATH, (40, 60, 0, 9), (60, 7, 7)), True)
            self.assertEqual(self.desk.estimate(radar), (-bound, 20 + bound, 7 - bound, 7 + bound))

    def test_narrows_again(self):
        self.desk.learn(0, PATH, (40, 60, 0, 9), (60, 7, 7))
        self.assertIs(self.desk.learn(0, PATH, (55, 60, 0, 9), (60, 12, 7)), True)
        self.assertEqual(self.desk.estimate(0), (-8, 13, 4, 15))
        self.assertEqual(self.desk.estimate(1), (-50, 50, -50, 50))

    def test_stays_equal(self):
        self.assertIs(self.desk.learn(0, PATH, (0, 999, 0, 9), (500, 0, 7)), True)
        self.assertEqual(self.desk.estimate(0), (-50, 50, -8, 8))
        self.assertIs(self.desk.learn(0, PATH, (0, 999, 0, 9), (500, 0, 7)), True)
        self.assertEqual(self.desk.estimate(0), (-50, 50, -8, 8))

    def test_fails(self):
        for plot in ((500, 0, 7), (60, 500, 7), (-100, 0, 7)):
            self.assertIs(self.desk.learn(0, PATH, (40, 60, 0, 9), plot), False)
            self.assertEqual(self.desk.estimate(0), (-50, 50, -50, 50))
        self.desk.learn(0, PATH, (40, 60, 0, 9), (60, 7, 7))
        self.assertIs(self.desk.learn(0, PATH, (40, 60, 0, 9), (60, 50, 7)), False)
        self.assertEqual(self.desk.estimate(0), (-8, 28, -1, 15))

    def test_height_does_not_matter(self):
        self.assertIs(self.desk.learn(0, PATH, (40, 60, 0, 9), (60, 7, 50000)), True)
        self.assertEqual(self.desk.estimate(0), (-8, 28, -1, 15))

    def test_as_narrowed(self):
        chance = random.Random(1)
        for _ in range(200):
            errors, estimate = [chance.randint(0, 20)], (-chance.randint(0, 40), chance.randint(0, 40), -9, 9)
            desk = Desk(RULES, errors, [estimate])
            low = chance.randint(-20, 999)
            box, plot = (low, max(low, 0) + chance.randint(0, 40), 0, 9), (chance.randint(-40, 1040), chance.randint(-30, 30), 5)
            expected = narrowed({**RULES, "radar": errors[0]}, estimate, PATH, box, plot)
            self.assertIs(desk.learn(0, PATH, box, plot), expected is not None)
            self.assertEqual(desk.estimate(0), estimate if expected is None else expected)
            self.assertEqual((desk.left(0), desk.lost(0), desk.held_back(0)), ([], 0, 0))


class CopyTest(unittest.TestCase):
    def test_what_was_handed_in(self):
        rules, errors, estimates = copy.deepcopy(RULES), [10, 5], [(0, 20, 0, 0), NO_OFFSET]
        desk = Desk(rules, errors, estimates)
        self.assertEqual((rules, errors, estimates), (RULES, [10, 5], [(0, 20, 0, 0), NO_OFFSET]))
        rules["radar"], rules["radius"] = 0, 99
        errors[:] = [99, 99]
        estimates[:] = [(0, 0, 0, 0), (7, 7, 7, 7)]
        self.assertEqual(desk.receive(0, sent(100, 50, 7, 0)), [(90, 50, 7)])
        self.assertEqual(desk.receive(1, sent(100, 50, 7, 0)), [(100, 50, 7)])
        desk.learn(1, PATH, (40, 40, 0, 0), (40, 0, 0))
        self.assertEqual(desk.estimate(1), NO_OFFSET)

    def test_bytes_that_were_handed_in(self):
        desk = Desk(RULES, [0], [NO_OFFSET])
        frame = sent(5, 6, 7, 0)
        for piece in (frame[:4], frame[4:9], frame[9:] + [3, 4]):
            before = list(piece)
            found = desk.receive(0, piece)
            self.assertEqual(piece, before)
            piece.clear()
            piece.append(255)
        self.assertEqual(found, [(5, 6, 7)])
        self.assertEqual(desk.left(0), [3, 4])

    def test_what_was_handed_out(self):
        desk = Desk(RULES, [0], [NO_OFFSET])
        frame = sent(5, 6, 7, 0)
        desk.receive(0, frame[:4])
        desk.left(0).clear()
        desk.left(0).append(9)
        self.assertEqual(desk.left(0), frame[:4])
        found = desk.receive(0, frame[4:])
        found.clear()
        self.assertEqual(desk.receive(0, frame), [(5, 6, 7)])

    def test_two_desks(self):
        one, other = Desk(RULES, [0], [NO_OFFSET]), Desk(RULES, [0], [NO_OFFSET])
        one.receive(0, [1, 2, 3])
        self.assertEqual((one.left(0), other.left(0)), ([1, 2, 3], []))


class TrueTest(unittest.TestCase):
    def test_passed_on_is_true(self):
        """Each plot that is passed on is true, if the radars keep their errors and their offsets are in the estimates."""
        chance, passed, held_back = random.Random(1), 0, 0
        for _ in range(40):
            errors = [chance.randint(0, 20) for _ in range(2)]
            offsets = [(chance.randint(-40, 40), chance.randint(-40, 40)) for _ in range(2)]
            desk, counts = Desk(RULES, errors, [(-40, 40, -40, 40)] * 2), [0, 0]
            for _ in range(60):
                radar, progress = chance.randint(0, 1), chance.randint(0, 999)
                error, (ox, oy) = errors[radar], offsets[radar]
                ex, ey = chance.choice(((error, 0), (0, -error), (-error, 0), (0, error), (error // 2, error // 2)))
                seen = (progress + ex + ox, ey + oy, chance.randint(0, 300))
                for x, y, z in desk.receive(radar, sent(*seen, counts[radar])):
                    passed += 1
                    self.assertLessEqual((x - progress) ** 2 + y ** 2, 20 ** 2)
                    self.assertEqual(z, seen[2])
                counts[radar] = (counts[radar] + 1) % 256
                self.assertIs(desk.learn(radar, PATH, (progress - 2, progress + 2, 0, 9), seen), True)
                x1, x2, y1, y2 = desk.estimate(radar)
                self.assertTrue(x1 <= ox <= x2 and y1 <= oy <= y2)
            self.assertEqual((desk.lost(0), desk.lost(1)), (0, 0))
            held_back += desk.held_back(0) + desk.held_back(1)
        self.assertGreater(passed, 200)
        self.assertGreater(held_back, 200)


if __name__ == "__main__":
    unittest.main()
