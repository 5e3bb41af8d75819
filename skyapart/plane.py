"""Segments and lines of the plane, and their distances, compared without rounding."""
from skyapart.whole import root_down


def closer(first, second, limit):
    """Tell whether the distance of two segments is less than the limit."""
    if limit <= 0:
        return False
    reach = limit * first[4] * second[4]
    return any(top < reach * reach * bottom for top, bottom in _squares(first, second))


def lines_closer(first, second, limit):
    """Tell whether the distance of two lines is less than the limit."""
    return any(closer(one, other, limit) for one in first for other in second)


def distance_down(first, second):
    """Return the greatest number that is at most the distance of two segments."""
    scale = first[4] * second[4]
    return min(root_down(top // (bottom * scale * scale)) for top, bottom in _squares(first, second))


def lines_distance_down(first, second):
    """Return the greatest number that is at most the distance of two lines that are not empty."""
    return min(distance_down(one, other) for one in first for other in second)


def meet(first, second):
    """Tell whether two segments have a point in common."""
    return any(top == 0 for top, _ in _squares(first, second))


def _squares(first, second):
    """Return squared distances as fractions (top, bottom); the least one is that of the segments.

    They are measured in the plane that is enlarged by both denominators, where all ends are whole.
    """
    ax, ay, bx, by = _enlarged(first, second[4])
    cx, cy, dx, dy = _enlarged(second, first[4])
    if _cross((ax, ay, bx, by), (cx, cy, dx, dy)):
        return [(0, 1)]
    return [
        _square(ax, ay, (cx, cy, dx, dy)),
        _square(bx, by, (cx, cy, dx, dy)),
        _square(cx, cy, (ax, ay, bx, by)),
        _square(dx, dy, (ax, ay, bx, by)),
    ]


def _enlarged(segment, factor):
    ax, ay, bx, by, _ = segment
    return ax * factor, ay * factor, bx * factor, by * factor


def _cross(first, second):
    """Tell whether each segment has its ends strictly on both sides of the other one.

    Where segments meet in another way, an end of one lies on the other, at the distance 0.
    """
    return _parted(first, second) and _parted(second, first)


def _parted(segment, ends):
    return _turn(segment, ends[0], ends[1]) * _turn(segment, ends[2], ends[3]) < 0


def _turn(segment, x, y):
    ax, ay, bx, by = segment
    return (bx - ax) * (y - ay) - (by - ay) * (x - ax)


def _square(x, y, segment):
    """Return the squared distance of a point and a segment, a fraction (top, bottom)."""
    ax, ay, bx, by = segment
    dx, dy = bx - ax, by - ay
    along = (x - ax) * dx + (y - ay) * dy
    length = dx * dx + dy * dy
    if along <= 0:
        return (x - ax) * (x - ax) + (y - ay) * (y - ay), 1
    if along >= length:
        return (x - bx) * (x - bx) + (y - by) * (y - by), 1
    aside = _turn(segment, x, y)
    return aside * aside, length
