"""The judge: whether a refutation proves that there is no free choice."""
from skyapart.joint import wake_tick
from skyapart.occupancy import flights_in, occupies
from skyapart.separation import box_at, common_ticks, separated


def takes(rules, capacities, held, menus, refutation):
    """Tell whether a judge takes a refutation."""
    prefixes = [prefix for prefix, _ in refutation]
    if not _in_menus(menus, prefixes) or not _ascend(prefixes) or not _cover(menus, prefixes):
        return False
    for prefix, reason in refutation:
        entries = [menus[menu][index] for menu, index in enumerate(prefix)]
        if not _is_true(rules, capacities, held, entries, reason):
            return False
    return True


def _in_menus(menus, prefixes):
    """Tell whether each prefix consists of indexes that its menus have."""
    for prefix in prefixes:
        if not 1 <= len(prefix) <= len(menus):
            return False
        if any(index not in range(len(menu)) for index, menu in zip(prefix, menus)):
            return False
    return True


def _ascend(prefixes):
    """Tell whether the prefixes ascend strictly, and none is a prefix of another one.

    All tuples between a prefix and a longer one that begins with it begin with it, too:
    so it is enough to look at neighbours.
    """
    for before, behind in zip(prefixes, prefixes[1:]):
        if before >= behind or behind[:len(before)] == before:
            return False
    return True


def _cover(menus, prefixes):
    """Tell whether each choice begins with a prefix. No choice begins with two: so they can be counted."""
    return sum(_choices(menus[len(prefix):]) for prefix in prefixes) == _choices(menus)


def _choices(menus):
    """Return how many choices there are of some menus."""
    many = 1
    for menu in menus:
        many *= len(menu)
    return many


def _is_true(rules, capacities, held, entries, reason):
    """Tell whether a reason is true for the last one of the entries of a prefix."""
    match reason:
        case ("bad", code):
            return entries[-1] == code
        case ("held", name, kind, tick):
            return _held_is_true(rules, held, entries[-1], name, (kind, tick))
        case ("chosen", menu, kind, tick):
            return menu in range(len(entries) - 1) and _holds(rules, entries[-1], entries[menu], (kind, tick))
        case ("full", sector, tick):
            return sector in capacities and _many(held, entries, sector, tick) > capacities[sector]
    return False


def _held_is_true(rules, held, entry, name, told):
    for flight, offers in held:
        if flight == name and any(_holds(rules, entry, offer, told) for offer in offers):
            return True
    return False


def _holds(rules, one, other, told):
    """Tell whether two entries are offers between which a clash holds."""
    if isinstance(one, str) or isinstance(other, str):
        return False
    kind, tick = told
    if kind == "near":
        return _near(rules, one[2], other[2], tick)
    return kind == "wake" and tick == wake_tick(rules, one, other)


def _near(rules, track, other, tick):
    begin, end = common_ticks(track, other)
    if tick not in range(begin, end):
        return False
    return not separated(rules, track[0], box_at(track, tick), other[0], box_at(other, tick))


def _many(held, entries, sector, tick):
    """Return how many flights and entries occupy a sector at a tick; 0 if an entry is no offer."""
    if any(isinstance(entry, str) for entry in entries):
        return 0
    return flights_in(held, sector, tick) + sum(1 for entry in entries if occupies(entry, sector, tick))
