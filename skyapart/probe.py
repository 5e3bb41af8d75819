"""The first conflict of two tracks, found without a look at each tick."""
from skyapart.plane import lines_distance_down
from skyapart.separation import box_at, common_ticks, least_distance, levels_apart


def probe(rules, one, other):
    """Return the first tick at which two tracks have boxes that are not separated, or None."""
    tick, end = common_ticks(one, other)
    while tick < end:
        spare = _spare(rules, one, other, tick)
        if spare is None:
            tick += 1
        elif spare < 0:
            return tick
        else:
            tick = _behind_safe_ticks(one, other, tick, end, spare)
    return None


def _spare(rules, one, other, tick):
    """Return by how much the distance is greater than it must be, or None if it does not matter."""
    if levels_apart(rules, box_at(one, tick), box_at(other, tick)):
        return None
    piece = _piece(one, tick)
    other_piece = _piece(other, tick)
    if not piece or not other_piece:
        return None
    return lines_distance_down(piece, other_piece) - least_distance(rules)


def _piece(track, tick):
    low, high, _, _ = box_at(track, tick)
    return track[0].piece(low, high)


def _behind_safe_ticks(one, other, tick, end, spare):
    """Return the next tick at which the distance of the pieces may have shrunk by more than the spare.

    A leg is at least as long as the way between its ends: so each place of a later piece is as near to
    the piece of this tick as the later one has got beyond it along the path.
    """
    later = tick + 1
    while later < end and _beyond(one, tick, later) + _beyond(other, tick, later) <= spare:
        later += 1
    return later


def _beyond(track, tick, later):
    """Return by how much the piece of a track at a later tick reaches beyond that of a tick."""
    total = track[0].total()
    low, high, _, _ = box_at(track, tick)
    later_low, later_high, _, _ = box_at(track, later)
    return max(min(later_high, total) - min(high, total), max(low, 0) - max(later_low, 0), 0)
