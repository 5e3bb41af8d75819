"""Which sectors offers occupy at which ticks, and how many flights are in them."""


def occupies(offer, sector, tick):
    """Tell whether an offer occupies a sector at a tick."""
    _, _, (path, begin, boxes) = offer
    if tick not in range(begin, begin + len(boxes)):
        return False
    return sector in _sectors(path, boxes[tick - begin])


def flights_in(held, sector, tick):
    """Return how many flights have an offer that occupies a sector at a tick."""
    many = 0
    for _, offers in held:
        if any(occupies(offer, sector, tick) for offer in offers):
            many += 1
    return many


def occupied(offer, sectors):
    """Return, for those of the sectors that an offer occupies, the ticks at which it does.

    It is a dict of dicts of True, with the ticks ascending.
    """
    _, _, (path, begin, boxes) = offer
    found = {}
    for index, box in enumerate(boxes):
        for sector in _sectors(path, box):
            if sector in sectors:
                ticks = found.setdefault(sector, {})
                ticks[begin + index] = True
    return found


def crowds(held, sectors):
    """Return, for pairs of a sector and a tick, how many flights have an offer that occupies it."""
    counts = {}
    for _, offers in held:
        there = {}
        for offer in offers:
            found = occupied(offer, sectors)
            for sector in found:
                for tick in found[sector]:
                    there[sector, tick] = True
        for pair in there:
            counts[pair] = counts.get(pair, 0) + 1
    return counts


def first_full(capacities, counts, ticks, others):
    """Return the first sector and its least tick with more flights than its capacity, or None.

    They are those that are counted, the one of `ticks`, which must be there, and those of `others`
    that are there; `ticks` and `others` have the form that `occupied` returns.
    """
    for sector in sorted(ticks):
        for tick in ticks[sector]:
            many = 1 + counts.get((sector, tick), 0)
            many += sum(1 for other in others if tick in other.get(sector, {}))
            if many > capacities[sector]:
                return sector, tick
    return None


def _sectors(path, box):
    """Return the sectors of the legs on which an aircraft in a box is in the airspace."""
    low, high, _, _ = box
    if high < 0 or low >= path.total():
        return []
    return [path.leg(index)[2] for index in range(path.leg_at(low), path.leg_at(high) + 1)]
