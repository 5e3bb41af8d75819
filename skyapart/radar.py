"""Radar: what a plot tells of the box of an aircraft."""
from skyapart.whole import root_down


def fitted(rules, path, box, plot):
    """Return the box fitted to a plot, or None if it does not fit."""
    low, high, down, up = box
    _, _, z = plot
    doubt = rules["height"] + rules["band"]
    down = max(down, z - doubt)
    up = min(up, z + doubt)
    ends = _near_ends(path, low, high, plot, rules["radar"] + rules["radius"])
    if not ends or down > up:
        return None
    return min(ends), max(ends), down, up


def _near_ends(path, low, high, plot, reach):
    """Return, for each leg, its first and its last progress from low to high whose place is within reach."""
    ends = []
    for index in range(path.leg_at(low), path.leg_at(high) + 1):
        first, last = _near_on_leg(path, index, plot, reach)
        first = max(first, low, path.begin(index))
        last = min(last, high, path.begin(index + 1) - 1)
        if first <= last:
            ends.append(first)
            ends.append(last)
    return ends


def _near_on_leg(path, index, plot, reach):
    """Return the first and the last progress within reach on the straight line of a leg; first > last if none is.

    With q the progress on the leg, the place is within reach if a * q * q + 2 * b * q + c <= 0. As a * q + b
    is a whole number, it may be compared with the root of b * b - a * c, rounded down.
    """
    begin = path.begin(index)
    dx, dy, length = path.vector(index)
    x, y, _ = path.place(begin)
    x -= plot[0] * length
    y -= plot[1] * length
    a = dx * dx + dy * dy
    b = x * dx + y * dy
    c = x * x + y * y - reach * reach * length * length
    rest = b * b - a * c
    if rest < 0:
        return begin, begin - 1
    root = root_down(rest)
    return begin - (b + root) // a, begin + (root - b) // a
