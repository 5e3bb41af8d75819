"""Charts, rules and tracks that several tests use."""
import random

from skyapart.courses import tube
from skyapart.errors import CourseError
from skyapart.path import Path


def small_chart():
    """Return a chart with an entry of each sort; each part of it is new at each call."""
    return {
        "fixes": {"A": (0, 0), "B": (30, 40), "C": (30, 140), "D": (-60, 80), "E5": (500, 0)},
        "legs": [
            ("A", "B", "S1", 0, 600),
            ("B", "C", "S1", 100, 300),
            ("B", "D", "S2", 50, 400),
            ("D", "B", "S2", 50, 400),
            ("D", "C", "S2", 0, 200),
            ("C", "A", "S3", 0, 600),
        ],
        "zones": [((200, 200), (300, 200), (300, 300), (200, 300))],
        "runways": ["C", "A"],
        "holds": {"B": "D"},
        "hours": [("A", "B", 10, 20), ("B", "C", 0, 0)],
        "capacities": {"S1": 3, "S2": 20},
    }


def plain_chart(fixes, legs):
    """Return a chart of fixes and legs alone."""
    return {
        "fixes": dict(fixes), "legs": list(legs), "zones": [], "runways": [],
        "holds": {}, "hours": [], "capacities": {},
    }


def line_chart(*xs, low=0, high=600):
    """Return a chart with fixes A, B, C .. on one level line, and legs from each to the next one."""
    names = "ABCDEFGHIJKL"[:len(xs)]
    return plain_chart(
        {name: (x, 0) for name, x in zip(names, xs)},
        [(one, other, "S", low, high) for one, other in zip(names, names[1:])],
    )


def small_rules(**others):
    rules = {
        "lateral": 50, "vertical": 10, "radius": 3, "band": 2, "slip": 1, "radar": 10, "height": 3,
        "foreign": 5, "climb": 2, "memory": 10, "ahead": 20,
        "gaps": ((3, 3, 3, 3), (9, 3, 3, 3), (9, 9, 3, 3), (9, 9, 9, 3)),
    }
    rules.update(others)
    return rules


def random_chart(seed, fixes=7, legs=18, spread=60, levels=((0, 600),)):
    """Return a chart with random legs; some ends of legs have no leg on."""
    chance = random.Random(seed)
    names = [chr(65 + index) for index in range(fixes)]
    points = {}
    while len(set(points.values())) < fixes:
        points = {name: (chance.randint(-spread, spread), chance.randint(-spread, spread)) for name in names}
    pairs = [(one, other) for one in names for other in names if one != other]
    chance.shuffle(pairs)
    chosen = []
    for one, other in pairs:
        if len(chosen) < legs and [leg[0] for leg in chosen].count(one) < 3:
            chosen.append((one, other, "S", *chance.choice(levels)))
    return plain_chart(points, chosen)


def random_route(chance, chart, most=16):
    """Return a random route of a chart, which may come to a fix again."""
    while True:
        route = [chance.choice(sorted(chart["fixes"]))]
        for _ in range(chance.randint(1, most - 1)):
            ends = [leg[1] for leg in chart["legs"] if leg[0] == route[-1]]
            if not ends:
                break
            route.append(chance.choice(ends))
        if len(route) > 1:
            return tuple(route)


def random_track(chance, chart, rules, most_speed=40):
    """Return the track of a random course on a chart, or None if it cannot be flown."""
    route = random_route(chance, chart, most=chance.choice((3, 6, 16)))
    path = Path(chart, route)
    slow = chance.randint(3, most_speed)
    kind = (chance.randint(0, 3), slow, slow + 5, 1, chance.randint(1, 6))
    winds = [(0, chance.randint(-2, 2), chance.randint(-2, 2), chance.randint(0, 1))]
    level = chance.randint(0, 40)
    box = (-chance.choice((0, 5, 100)), 0, level, level)
    course = (route, chance.choice((slow, slow + 5)), chance.randint(0, 40))
    tick = chance.randint(0, 20)
    try:
        return path, tick, tube(chart, path, course, kind, rules, winds, tick, box)
    except CourseError:
        return None
