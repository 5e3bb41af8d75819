"""Routes over the legs of a chart: their check, the shortest ones and their papers, and loops."""
from heapq import heappop, heappush

from skyapart.chart import leg_between, leg_length
from skyapart.errors import RouteError

MOST_NAMES = 16
MOST_NAMES_OF_ALTERNATIVES = 8


def check_route(chart, route):
    """Raise RouteError if a tuple of strings is not a route."""
    if not 2 <= len(route) <= MOST_NAMES:
        raise RouteError("size", 0)
    for index in range(len(route) - 1):
        if leg_between(chart, route[index], route[index + 1]) is None:
            raise RouteError("leg", index)


def route_length(chart, route):
    """Return the length of a route."""
    return sum(leg_length(chart, route[index], route[index + 1]) for index in range(len(route) - 1))


def shortest(chart, start, goal, level):
    """Return the shortest route with its distances."""
    distances = {}
    best = ()
    queue = [(0, 1, (start,))]
    while queue:
        length, _, route = heappop(queue)
        fix = route[-1]
        if fix in distances:
            continue
        distances[fix] = length
        if fix == goal:
            best = route
        for longer in _longer(chart, length, route, level):
            heappush(queue, longer)
    if goal not in distances:
        raise RouteError("none", 0)
    return best, distances


def confirmed(chart, level, route, distances):
    """Tell whether distances prove that a route is a shortest one."""
    if not all(_open(leg, level) for leg in _legs_of(chart, route)):
        return False
    if distances.get(route[0]) != 0 or distances.get(route[-1]) != route_length(chart, route):
        return False
    return all(_within(chart, leg, distances) for leg in chart["legs"] if _open(leg, level))


def alternatives(chart, start, goal, level, count):
    """Return the first routes that come to no fix twice, in the order of their lengths."""
    found = []
    queue = [(0, 1, (start,))]
    while queue and len(found) < count:
        length, many, route = heappop(queue)
        if many > 1 and route[-1] == goal:
            found.append(route)
        elif many < MOST_NAMES_OF_ALTERNATIVES:
            for longer in _longer(chart, length, route, level):
                heappush(queue, longer)
    return found


def with_loops(chart, route, loops):
    """Return the route with loops at the first fix at which a flight can wait."""
    if loops < 1:
        return route
    for index, fix in enumerate(route[:-1]):
        if fix in chart["holds"]:
            return _looped(route, index, (chart["holds"][fix], fix) * loops)
    raise RouteError("hold", 0)


def _looped(route, index, loop):
    if len(route) + len(loop) > MOST_NAMES:
        raise RouteError("size", 0)
    return route[:index + 1] + loop + route[index + 1:]


def _longer(chart, length, route, level):
    """Return the ways that go on from a way over one more open leg to a new fix.

    They are ordered as ways of equal rank are chosen: by length, number of names, and names.
    """
    found = []
    for leg in chart["legs"]:
        start, end, _, _, _ = leg
        if start == route[-1] and end not in route and _open(leg, level):
            found.append((length + leg_length(chart, start, end), len(route) + 1, (*route, end)))
    return found


def _open(leg, level):
    return leg[3] <= level <= leg[4]


def _legs_of(chart, route):
    return [leg_between(chart, route[index], route[index + 1]) for index in range(len(route) - 1)]


def _within(chart, leg, distances):
    """Tell whether a leg leads to no fix that is farther than the distances say."""
    start, end, _, _, _ = leg
    if start not in distances:
        return True
    return end in distances and distances[end] <= distances[start] + leg_length(chart, start, end)
