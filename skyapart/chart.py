"""Charts: their check, and what they say of legs."""
from skyapart.errors import ChartError
from skyapart.whole import root_up
from skyapart.zone import is_zone, touches

LETTERS = "ABCDEFGHIJKLMNOPQRSTUVWXYZ"
DIGITS = "0123456789"
FAR = 100000
TOP_LEVEL = 600
LAST_TICK = 100000


def check_chart(chart):
    """Raise ChartError for the first entry that is wrong."""
    _check_size(chart)
    _check_fixes(chart)
    _check_legs(chart)
    _check_zones(chart)
    _check_closed(chart)
    _check_runways(chart)
    _check_holds(chart)
    _check_hours(chart)
    _check_capacities(chart)


def leg_length(chart, start, end):
    """Return the length of the leg between two fixes."""
    ax, ay = chart["fixes"][start]
    bx, by = chart["fixes"][end]
    return root_up((bx - ax) * (bx - ax) + (by - ay) * (by - ay))


def leg_between(chart, start, end):
    """Return the leg from one fix to another, or None if there is none."""
    for leg in chart["legs"]:
        if leg[0] == start and leg[1] == end:
            return leg
    return None


def is_name(text):
    """Tell whether a string is a name."""
    if not 1 <= len(text) <= 5 or text[0] not in LETTERS:
        return False
    return all(letter in LETTERS or letter in DIGITS for letter in text)


def _check_size(chart):
    if not 2 <= len(chart["fixes"]) <= 12:
        raise ChartError("size", 0)
    for part, most in (("legs", 36), ("zones", 4), ("runways", 4), ("hours", 8)):
        if len(chart[part]) > most:
            raise ChartError("size", 0)


def _check_fixes(chart):
    fixes = chart["fixes"]
    for index, name in enumerate(sorted(fixes)):
        if not is_name(name) or not _on_chart(fixes[name]):
            raise ChartError("fix", index)


def _on_chart(point):
    x, y = point
    return -FAR <= x <= FAR and -FAR <= y <= FAR


def _check_legs(chart):
    for index, leg in enumerate(chart["legs"]):
        if not _leg_fits(chart["fixes"], leg) or not _leg_adds(chart["legs"][:index], leg):
            raise ChartError("leg", index)


def _leg_fits(fixes, leg):
    start, end, sector, low, high = leg
    if start not in fixes or end not in fixes or fixes[start] == fixes[end]:
        return False
    return is_name(sector) and 0 <= low <= high <= TOP_LEVEL


def _leg_adds(earlier, leg):
    """Tell whether a leg is neither a second one between its fixes nor a fourth one from its start."""
    ends = [end for start, end, _, _, _ in earlier if start == leg[0]]
    return len(ends) < 3 and leg[1] not in ends


def _check_zones(chart):
    for index, zone in enumerate(chart["zones"]):
        if not is_zone(zone) or not all(_on_chart(point) for point in zone):
            raise ChartError("zone", index)


def _check_closed(chart):
    fixes = chart["fixes"]
    for index, leg in enumerate(chart["legs"]):
        segment = (*fixes[leg[0]], *fixes[leg[1]], 1)
        if any(touches(zone, segment) for zone in chart["zones"]):
            raise ChartError("closed", index)


def _check_runways(chart):
    runways = chart["runways"]
    for index, name in enumerate(runways):
        if name not in chart["fixes"] or name in runways[:index]:
            raise ChartError("runway", index)


def _check_holds(chart):
    holds = chart["holds"]
    for index, name in enumerate(sorted(holds)):
        if not _joined_both_ways(chart, name, holds[name]):
            raise ChartError("hold", index)


def _joined_both_ways(chart, name, other):
    """Tell whether legs lead from each to the other; both are fixes then, as ends of checked legs are."""
    return leg_between(chart, name, other) is not None and leg_between(chart, other, name) is not None


def _check_hours(chart):
    for index, (start, end, first, last) in enumerate(chart["hours"]):
        if leg_between(chart, start, end) is None or not 0 <= first <= last <= LAST_TICK:
            raise ChartError("hours", index)


def _check_capacities(chart):
    capacities = chart["capacities"]
    sectors = [leg[2] for leg in chart["legs"]]
    for index, sector in enumerate(sorted(capacities)):
        if sector not in sectors or not 1 <= capacities[sector] <= 20:
            raise ChartError("capacity", index)
