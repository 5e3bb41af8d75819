"""Points 36 to 38 as they are written, without any shortcut: what the program is compared with."""
import itertools

from skyapart.separation import first_conflict, separated


def plain_window(track):
    path, begin, boxes = track
    ticks = [begin + index for index, box in enumerate(boxes) if box[1] >= path.total()]
    return (ticks + [begin + len(boxes)])[0], begin + len(boxes)


def plain_wake(rules, one, other):
    """Return the tick of a clash by landings, or None."""
    if one[1] != other[1] or one[1] == "":
        return None
    (early, late), (other_early, other_late) = plain_window(one[2]), plain_window(other[2])
    behind = other_early - late >= rules["gaps"][one[0]][other[0]]
    ahead = early - other_late >= rules["gaps"][other[0]][one[0]]
    return None if behind or ahead else max(early, other_early)


def plain_clash(rules, one, other):
    tick = first_conflict(rules, one[2], other[2])
    if tick is not None:
        return "near", tick
    tick = plain_wake(rules, one, other)
    return None if tick is None else ("wake", tick)


def plain_occupies(offer, sector, tick):
    path, begin, boxes = offer[2]
    if not 0 <= tick - begin < len(boxes):
        return False
    low, high, _, _ = boxes[tick - begin]
    if not path.piece(low, high):
        return False
    return any(
        path.leg(path.leg_at(progress))[2] == sector
        for progress in range(max(low, 0), min(high, path.total() - 1) + 1)
    )


def plain_many(held, entries, sector, tick):
    return sum(any(plain_occupies(offer, sector, tick) for offer in offers) for _, offers in held) + sum(
        plain_occupies(entry, sector, tick) for entry in entries
    )


def plain_reason(rules, capacities, held, entries):
    """Return the reason of a prefix with these entries, or None."""
    last = entries[-1]
    if isinstance(last, str):
        return "bad", last
    for name, offers in held:
        for offer in offers:
            if plain_clash(rules, last, offer):
                return ("held", name, *plain_clash(rules, last, offer))
    for index, entry in enumerate(entries[:-1]):
        if plain_clash(rules, last, entry):
            return ("chosen", index, *plain_clash(rules, last, entry))
    _, begin, boxes = last[2]
    for sector in sorted(capacities):
        for tick in range(begin, begin + len(boxes)):
            if plain_occupies(last, sector, tick):
                if plain_many(held, entries, sector, tick) > capacities[sector]:
                    return "full", sector, tick
    return None


def plain_choose(rules, capacities, held, menus):
    """Return the least free choice by a look at all choices, and the refutation by one at all prefixes."""
    reasons, bare, rows = {}, {()}, []
    for many in range(1, len(menus) + 1):
        for prefix in itertools.product(*[range(len(menu)) for menu in menus[:many]]):
            if prefix[:-1] in bare:
                entries = [menu[index] for menu, index in zip(menus, prefix)]
                reasons[prefix] = plain_reason(rules, capacities, held, entries)
                if reasons[prefix] is None:
                    bare.add(prefix)
                else:
                    rows.append((prefix, reasons[prefix]))
    for choice in itertools.product(*[range(len(menu)) for menu in menus]):
        if choice in bare:
            return choice, []
    return None, sorted(rows, key=lambda row: row[0])


def plain_true(rules, capacities, held, entries, reason):
    def holds(one, other, kind, tick):
        if isinstance(one, str) or isinstance(other, str):
            return False
        if kind == "wake":
            return plain_wake(rules, one, other) is not None and plain_wake(rules, one, other) == tick
        (path, begin, boxes), (other_path, other_begin, other_boxes) = one[2], other[2]
        if kind != "near" or not (0 <= tick - begin < len(boxes) and 0 <= tick - other_begin < len(other_boxes)):
            return False
        return not separated(rules, path, boxes[tick - begin], other_path, other_boxes[tick - other_begin])

    what, *rest = reason
    if what == "bad":
        return [entries[-1]] == rest
    if what == "held":
        return any(
            name == rest[0] and any(holds(entries[-1], offer, *rest[1:]) for offer in offers) for name, offers in held
        )
    if what == "chosen":
        return 0 <= rest[0] < len(entries) - 1 and holds(entries[rest[0]], entries[-1], *rest[1:])
    if any(isinstance(entry, str) for entry in entries) or rest[0] not in capacities:
        return False
    return plain_many(held, entries, *rest) > capacities[rest[0]]


def plain_takes(rules, capacities, held, menus, refutation):
    prefixes = [prefix for prefix, _ in refutation]
    for prefix in prefixes:
        if not prefix or len(prefix) > len(menus):
            return False
        if any(not 0 <= index < len(menu) for index, menu in zip(prefix, menus)):
            return False
    if any(one >= other for one, other in zip(prefixes, prefixes[1:])):
        return False
    if any(one != other and other[:len(one)] == one for one in prefixes for other in prefixes):
        return False
    for choice in itertools.product(*[range(len(menu)) for menu in menus]):
        if not any(choice[:len(prefix)] == prefix for prefix in prefixes):
            return False
    return all(
        plain_true(rules, capacities, held, [menu[index] for menu, index in zip(menus, prefix)], reason)
        for prefix, reason in refutation
    )
