"""Frames: plots as radars send them, in bytes."""

MARK = 170
SIZE = 11
MODULUS = 251
# What is added to coordinates and to heights, so that no number below 0 is sent.
HALF = 8388608
HALF_HEIGHT = 32768


def frame_of(plot, count):
    """Return the bytes of the frame of a plot."""
    x, y, z = plot
    numbers = [MARK, *_bytes_of(x + HALF, 3), *_bytes_of(y + HALF, 3), *_bytes_of(z + HALF_HEIGHT, 2), count]
    return numbers + [sum(numbers) % MODULUS]


def read_stream(numbers):
    """Return the plots of the frames of a stream, with their counts."""
    frames, _ = frames_and_rest(numbers)
    return frames


def frames_and_rest(numbers):
    """Return the frames of a stream, (plot, count), and the bytes behind them that may begin one more frame."""
    frames = []
    at = 0
    while at + SIZE <= len(numbers):
        if _is_frame(numbers, at):
            frames.append(_content_of(numbers, at))
            at += SIZE
        else:
            at += 1
    return frames, numbers[at:]


def _bytes_of(number, many):
    """Return the last bytes of a number, the highest first."""
    lowest_first = []
    for _ in range(many):
        lowest_first.append(number % 256)
        number //= 256
    return lowest_first[::-1]


def _is_frame(numbers, at):
    """Tell whether the bytes from a place on, of which there are enough, are a frame."""
    last = at + SIZE - 1
    return numbers[at] == MARK and numbers[last] == sum(numbers[at:last]) % MODULUS


def _content_of(numbers, at):
    x = _number_of(numbers[at + 1:at + 4]) - HALF
    y = _number_of(numbers[at + 4:at + 7]) - HALF
    z = _number_of(numbers[at + 7:at + 9]) - HALF_HEIGHT
    return (x, y, z), numbers[at + 9]


def _number_of(numbers):
    """Return the number that these bytes make, the highest first."""
    total = 0
    for number in numbers:
        total = total * 256 + number
    return total
