"""Aircraft of others: where they may be after a sighting, and which boxes are near."""
from skyapart.plane import lines_closer


def reach(rules, sighting, tick):
    """Return the radius of the reach of a sighting, and its lower and its upper height."""
    _, _, z, seen = sighting
    radius = rules["radar"] + rules["foreign"] * (tick - seen)
    high = rules["height"] + rules["climb"] * (tick - seen)
    return radius, z - high, z + high


def near_reach(rules, path, box, sighting, tick):
    """Tell whether a box is near the reach of a sighting at a tick."""
    low, high, down, up = box
    x, y, _, _ = sighting
    radius, lower, upper = reach(rules, sighting, tick)
    if down - rules["band"] - upper >= rules["vertical"] or lower - (up + rules["band"]) >= rules["vertical"]:
        return False
    limit = rules["lateral"] + rules["radius"] + radius
    return lines_closer(path.piece(low, high), [(x, y, x, y, 1)], limit)
