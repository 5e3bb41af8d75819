"""Separation of boxes, and the first conflict of two tracks."""
from skyapart.plane import lines_closer


def separated(rules, path, box, other_path, other_box):
    """Tell whether aircraft in two boxes are apart, wherever in them they are."""
    if levels_apart(rules, box, other_box):
        return True
    piece = path.piece(box[0], box[1])
    other_piece = other_path.piece(other_box[0], other_box[1])
    return not lines_closer(piece, other_piece, least_distance(rules))


def first_conflict(rules, one, other):
    """Return the first tick at which two tracks have boxes that are not separated, or None."""
    path, _, _ = one
    other_path, _, _ = other
    begin, end = common_ticks(one, other)
    for tick in range(begin, end):
        if not separated(rules, path, box_at(one, tick), other_path, box_at(other, tick)):
            return tick
    return None


def levels_apart(rules, box, other_box):
    """Tell whether two boxes are apart by their levels alone."""
    high = rules["vertical"] + 2 * rules["band"]
    return box[2] - other_box[3] >= high or other_box[2] - box[3] >= high


def least_distance(rules):
    """Return the distance from which on the pieces of two boxes are apart."""
    return rules["lateral"] + 2 * rules["radius"]


def common_ticks(one, other):
    """Return the first tick at which both tracks have boxes, and the tick behind the last one."""
    _, tick, boxes = one
    _, other_tick, other_boxes = other
    return max(tick, other_tick), min(tick + len(boxes), other_tick + len(other_boxes))


def box_at(track, tick):
    """Return the box that a track has at a tick."""
    _, begin, boxes = track
    return boxes[tick - begin]
