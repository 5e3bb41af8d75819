"""Points 65 and 66: frames and streams."""
import random
import unittest

from skyapart.wire import frame_of, read_stream

LOW, HIGH = -8388608, 8388607
PLOTS = (
    (0, 0, 0), (1, -1, 5), (LOW, LOW, -32768), (HIGH, HIGH, 32767), (LOW, HIGH, -1), (HIGH, LOW, 32767),
    (256, -256, 256), (65536, -65536, 255), (255, 65535, -256), (170, 43690, 170),
)


def plain_read(numbers):
    """Read a stream as point 66 says, with all conversions written out."""
    found, at = [], 0
    while at < len(numbers):
        part = numbers[at:at + 11]
        if len(part) == 11 and part[0] == 170 and part[10] == sum(part[:10]) % 251:
            x = part[1] * 65536 + part[2] * 256 + part[3] - 8388608
            y = part[4] * 65536 + part[5] * 256 + part[6] - 8388608
            z = part[7] * 256 + part[8] - 32768
            found.append(((x, y, z), part[9]))
            at += 11
        else:
            at += 1
    return found


class FrameTest(unittest.TestCase):
    def test_bytes(self):
        # 170 + 128 + 128 + 128 = 554, and 554 - 2 * 251 = 52.
        self.assertEqual(frame_of((0, 0, 0), 0), [170, 128, 0, 0, 128, 0, 0, 128, 0, 0, 52])
        self.assertEqual(frame_of((0, 0, 0), 255), [170, 128, 0, 0, 128, 0, 0, 128, 0, 255, 809 % 251])
        self.assertEqual(frame_of((LOW, HIGH, -32768), 7),
                         [170, 0, 0, 0, 255, 255, 255, 0, 0, 7, (170 + 765 + 7) % 251])
        self.assertEqual(frame_of((HIGH, LOW, 32767), 1),
                         [170, 255, 255, 255, 0, 0, 0, 255, 255, 1, (170 + 5 * 255 + 1) % 251])
        self.assertEqual(frame_of((1, -1, 2), 3)[:10], [170, 128, 0, 1, 127, 255, 255, 128, 2, 3])
        self.assertEqual(frame_of((0x123456 - 8388608, 0xABCDEF - 8388608, 0x789A - 32768), 200)[:10],
                         [170, 0x12, 0x34, 0x56, 0xAB, 0xCD, 0xEF, 0x78, 0x9A, 200])

    def test_there_and_back(self):
        for plot in PLOTS:
            for count in (0, 1, 127, 170, 254, 255):
                frame = frame_of(plot, count)
                self.assertEqual(len(frame), 11)
                self.assertTrue(all(0 <= number <= 255 for number in frame))
                self.assertEqual(frame[0], 170)
                self.assertEqual(frame[9], count)
                self.assertEqual(frame[10], sum(frame[:10]) % 251)
                self.assertEqual(read_stream(frame), [(plot, count)])

    def test_random(self):
        chance = random.Random(1)
        for _ in range(500):
            plot = (chance.randint(LOW, HIGH), chance.randint(LOW, HIGH), chance.randint(-32768, 32767))
            count = chance.randint(0, 255)
            self.assertEqual(read_stream(frame_of(plot, count)), [(plot, count)])


class StreamTest(unittest.TestCase):
    def setUp(self):
        self.sent = [(plot, (250 + index) % 256) for index, plot in enumerate(PLOTS)]
        self.frames = [frame_of(*each) for each in self.sent]

    def stream(self, frames):
        return [number for frame in frames for number in frame]

    def reads(self, numbers, expected):
        before = list(numbers)
        self.assertEqual(read_stream(numbers), expected)
        self.assertEqual(numbers, before)
        self.assertEqual(plain_read(numbers), expected)

    def test_empty(self):
        self.reads([], [])

    def test_several(self):
        self.reads(self.stream(self.frames), self.sent)

    def test_fewer_than_eleven_bytes(self):
        for many in range(11):
            self.reads(self.frames[0][:many], [])
            self.reads(self.frames[0] + self.frames[1][:many], self.sent[:1])
            self.reads([170] * many, [])

    def test_begin_within_a_frame(self):
        numbers = self.stream(self.frames[:4])
        for begin in range(1, 12):
            self.reads(numbers[begin:], self.sent[1:4])

    def test_marks_among_the_bytes(self):
        plot = (170 * 65793 - 8388608, 170 * 65793 - 8388608, 170 * 257 - 32768)
        frame = frame_of(plot, 170)
        self.assertEqual(frame[:10], [170] * 10)
        # Ten marks make 1700, and 1700 - 6 * 251 = 194.
        self.assertEqual(frame[10], 194)
        self.reads(frame, [(plot, 170)])
        self.reads([170] * 5 + frame, [(plot, 170)])
        self.reads([170] * 40, [])
        self.reads(frame[3:] + frame, [(plot, 170)])

    def test_byte_changed(self):
        for at in range(11):
            for by in (1, 2, 100, 200, 255):
                frame = list(self.frames[1])
                frame[at] = (frame[at] + by) % 256
                expected = plain_read(self.frames[0] + frame + self.frames[2])
                self.reads(self.frames[0] + frame + self.frames[2], expected)
                if at == 0 or at == 10:
                    self.assertEqual(expected, [self.sent[0], self.sent[2]])

    def test_change_by_the_modulus_is_not_seen(self):
        # 0 and 251 have the same remainder: this change of a byte cannot be told.
        frame = frame_of((LOW, 0, 0), 5)
        frame[3] = 251
        self.reads(frame, [((LOW + 251, 0, 0), 5)])

    def test_byte_left_out(self):
        for at in range(11):
            frame = self.frames[1][:at] + self.frames[1][at + 1:]
            self.reads(self.frames[0] + frame + self.frames[2], [self.sent[0], self.sent[2]])

    def test_byte_added(self):
        for at in range(11):
            for number in (0, 1, 170, 255):
                frame = self.frames[1][:at] + [number] + self.frames[1][at:]
                expected = plain_read(self.frames[0] + frame + self.frames[2])
                self.reads(self.frames[0] + frame + self.frames[2], expected)
                self.assertEqual((expected[0], expected[-1]), (self.sent[0], self.sent[2]))

    def test_frame_within_what_looked_like_one(self):
        # The bytes of the first one up to its fifth look like the begin of a frame; a whole one begins there.
        for many in range(1, 11):
            self.reads(self.frames[0][:many] + self.frames[1], [self.sent[1]])

    def test_last_place(self):
        self.reads([1] + self.frames[0], [self.sent[0]])
        self.reads([1] * 10 + self.frames[0], [self.sent[0]])
        self.reads(self.frames[0] + [170] * 10, [self.sent[0]])

    def test_false_frame_first(self):
        # Reading goes on behind a frame, even if another one began within it.
        inner = self.frames[0]
        outer = [170] + [0] * 5 + inner[:4]
        outer.append(sum(outer) % 251)
        while outer[10] != inner[4]:
            outer[1] += 1
            outer[10] = sum(outer[:10]) % 251
        numbers = outer[:6] + inner
        self.assertEqual(numbers[:11], outer)
        found = read_stream(numbers)
        self.reads(numbers, found)
        self.assertEqual(len(found), 1)
        self.assertNotEqual(found, [self.sent[0]])

    def test_random_streams(self):
        chance = random.Random(1)
        for _ in range(300):
            numbers = []
            for _ in range(chance.randint(0, 8)):
                if chance.random() < 0.7:
                    numbers += frame_of(tuple(chance.choice((0, -5, 170, 11184810 - 8388608)) for _ in range(2))
                                        + (chance.randint(-100, 100),), chance.randint(0, 255))
                else:
                    numbers += [chance.choice((170, 0, 52, chance.randint(0, 255))) for _ in range(chance.randint(1, 14))]
                if numbers and chance.random() < 0.3:
                    del numbers[chance.randrange(len(numbers))]
            self.reads(numbers, plain_read(numbers))


if __name__ == "__main__":
    unittest.main()
