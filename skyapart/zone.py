"""Closed zones: convex polygons with their borders."""
from skyapart.plane import meet


def is_zone(points):
    """Tell whether a tuple of points is a zone."""
    count = len(points)
    if not 3 <= count <= 8:
        return False
    for index in range(count):
        behind = (index + 1) % count
        others = [points[k] for k in range(count) if k not in (index, behind)]
        if any(_side(points[index], points[behind], x, y, 1) <= 0 for x, y in others):
            return False
    return True


def touches(zone, segment):
    """Tell whether a zone and a segment have a point in common."""
    return _begins_inside(zone, segment) or _meets_border(zone, segment)


def _begins_inside(zone, segment):
    x, y, _, _, d = segment
    return all(_side(start, end, x, y, d) >= 0 for start, end in _edges(zone))


def _meets_border(zone, segment):
    return any(meet((*start, *end, 1), segment) for start, end in _edges(zone))


def _edges(zone):
    return [(zone[index - 1], zone[index]) for index in range(len(zone))]


def _side(start, end, x, y, d):
    """Return a number above 0 if the point (x / d, y / d) is to the left of the way from start to end."""
    ax, ay = start
    bx, by = end
    return (bx - ax) * (y - ay * d) - (by - ay) * (x - ax * d)
