"""Landings on one runway: whether they are apart, and the best order of several ones."""
from itertools import permutations

from skyapart.errors import SequenceError


def apart(gaps, first, second):
    """Tell whether two landings on the same runway are apart, in one order or the other."""
    return _behind(gaps, first, second) or _behind(gaps, second, first)


def landing_ticks(gaps, arrivals, order):
    """Return the ticks at which the arrivals land in an order."""
    landed = []
    for index in order:
        wake, tick, _ = arrivals[index]
        for earlier_wake, earlier_tick in landed:
            tick = max(tick, earlier_tick + gaps[earlier_wake][wake])
        landed.append((wake, tick))
    return tuple(tick for _, tick in landed)


def best_order(gaps, arrivals, shift):
    """Return the best order and its landing ticks."""
    places = _places(arrivals)
    best = None
    for order in permutations(range(len(arrivals))):
        if not _near_places(places, order, shift):
            continue
        ticks = landing_ticks(gaps, arrivals, order)
        if not _in_time(arrivals, order, ticks):
            continue
        found = (max(ticks, default=0), sum(ticks), order, ticks)
        if best is None or found < best:
            best = found
    if best is None:
        raise SequenceError("none")
    return best[2], best[3]


def _behind(gaps, first, second):
    """Tell whether the second landing surely comes late enough behind the first one."""
    return second[1] - first[2] >= gaps[first[0]][second[0]]


def _places(arrivals):
    """Return, for each arrival, its position in the order of (ready, index)."""
    queue = sorted((arrival[1], index) for index, arrival in enumerate(arrivals))
    return {index: place for place, (_, index) in enumerate(queue)}


def _near_places(places, order, shift):
    return all(abs(place - places[index]) <= shift for place, index in enumerate(order))


def _in_time(arrivals, order, ticks):
    return all(tick <= arrivals[index][2] for index, tick in zip(order, ticks))
