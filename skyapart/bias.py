"""The offset of a radar: what is known of it, and plots without it."""
from skyapart.whole import root_up


def narrowed(rules, estimate, path, box, plot):
    """Return the estimate narrowed by the plot of an aircraft in a box, or None if nothing is left of it."""
    x1, x2, y1, y2 = estimate
    x, y, _ = plot
    line = path.piece(box[0], box[1])
    reach = rules["radar"] + rules["radius"]
    x1, x2 = _narrowed_range(x1, x2, x, reach, _firsts(line))
    y1, y2 = _narrowed_range(y1, y2, y, reach, _seconds(line))
    if x1 > x2 or y1 > y2:
        return None
    return x1, x2, y1, y2


def corrected(rules, estimate, plot):
    """Return the corrected plot and its greatest error."""
    x1, x2, y1, y2 = estimate
    x, y, z = plot
    cx = (x1 + x2) // 2
    cy = (y1 + y2) // 2
    dx = max(x2 - cx, cx - x1)
    dy = max(y2 - cy, cy - y1)
    return (x - cx, y - cy, z), rules["radar"] + root_up(dx * dx + dy * dy)


def _firsts(line):
    """Return the first coordinates of the ends of the segments, as fractions (top, bottom)."""
    return [(ax, d) for ax, _, _, _, d in line] + [(bx, d) for _, _, bx, _, d in line]


def _seconds(line):
    return [(ay, d) for _, ay, _, _, d in line] + [(by, d) for _, _, _, by, d in line]


def _narrowed_range(low, high, told, reach, ends):
    """Return the least and the greatest whole number from low to high that the told coordinate allows.

    It allows at least told - reach - v and at most told + reach - u, where u and v are the least and
    the greatest of the ends. As told and reach are whole, v is rounded down and u up.
    """
    greatest = max(top // bottom for top, bottom in ends)
    least = min(-(-top // bottom) for top, bottom in ends)
    return max(low, told - reach - greatest), min(high, told + reach - least)
