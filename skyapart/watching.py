"""What the centre watches: aircraft of others that may come near, and flights that are not seen."""
from skyapart.foreign import near_reach


def alerts_of(fleet):
    """Return the alerts of all flying flights, by flight and then by sighting."""
    alerts = []
    for flight in fleet.flying():
        for sighting in fleet.seen_plots:
            ticks = [_near_tick(fleet, track, sighting) for _, _, track in fleet.offers(flight)]
            found = [tick for tick in ticks if tick is not None]
            if found:
                alerts.append((flight.name, sighting, min(found)))
    return alerts


def unseen_of(fleet, ticks):
    """Return the flying flights that are unseen for at least as many ticks, those unseen longest first."""
    rows = []
    for flight in fleet.flying():
        unseen = fleet.tick - flight.seen_at
        if unseen >= ticks:
            rows.append((-unseen, flight.name))
    return [(name, -minus) for minus, name in sorted(rows)]


def _near_tick(fleet, track, sighting):
    """Return the first tick at which a box of a track is near the reach of a sighting, or None."""
    path, begin, boxes = track
    rules = fleet.world.rules
    for tick in range(max(begin, fleet.tick), min(begin + len(boxes), fleet.tick + rules["ahead"] + 1)):
        if near_reach(rules, path, boxes[tick - begin], sighting, tick):
            return tick
    return None
