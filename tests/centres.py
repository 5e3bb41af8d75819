"""A chart of three lanes for centres, and what tests ask of them.

Lane n leads from An over Bn to Cn, 1000 to each; from B1 a leg of 5100 leads to C2. Without winds and
slips all boxes are single numbers: a flight at the speed 100 is in 10 boxes on each leg of its lane.
"""
import unittest

from skyapart.centre import Centre
from skyapart.errors import ClearError, ConflictError, SkyError
from tests.samples import plain_chart, small_rules

CALM = [(0, 0, 0, 0)]
KIND = (1, 50, 100, 2, 5)
EXACT = {
    "lateral": 300, "vertical": 20, "radius": 10, "band": 2, "slip": 0, "radar": 40, "height": 5,
    "foreign": 50, "climb": 2, "memory": 4, "ahead": 30,
}


def exact_rules(**others):
    return small_rules(**{**EXACT, **others})


def lanes_chart():
    fixes = {f"{name}{lane}": (x, 5000 * lane - 5000) for lane in (1, 2, 3)
             for name, x in (("A", 0), ("B", 1000), ("C", 2000))}
    legs = []
    for lane in "123":
        legs.append(("A" + lane, "B" + lane, "W", 0, 600))
        legs.append(("B" + lane, "C" + lane, "E", 0, 600))
    legs.append(("B1", "C2", "X", 0, 600))
    chart = plain_chart(fixes, legs)
    chart["runways"] = ["C1", "C2"]
    return chart


def request(flight, lane=1, tick=5, late=0, level=100, wanted=None, kind=KIND):
    wanted = level if wanted is None else wanted
    return flight, kind, f"A{lane}", f"C{lane}", level, wanted, tick, late


def made(*requests, chart=None, rules=None, winds=None, until=0):
    """Return a centre that has admitted each request with its first option, at a tick."""
    centre = Centre(chart or lanes_chart(), rules or exact_rules(), winds or CALM)
    for one in requests:
        choice, refutation = centre.enter([one])
        if (choice, refutation) != ((0,), []):
            raise AssertionError((one, choice, refutation))
    pass_ticks(centre, until)
    return centre


def pass_ticks(centre, until):
    while centre.now() < until:
        centre.advance([])


def shown_offers(offers):
    """Return offers with the routes of their paths, which can be compared."""
    return [(wake, runway, path.route(), tick, boxes) for wake, runway, (path, tick, boxes) in offers]


def shown(held):
    return [(name, shown_offers(offers)) for name, offers in held]


def state(centre):
    """Return all that a centre tells without being asked for more."""
    return (
        centre.now(), centre.flights(), [centre.view(name) for name in centre.flights()], shown(centre.held()),
        centre.log(), centre.sightings(), centre.alerts(), centre.watched(0),
        [centre.remind(name) for name in centre.flights()],
        [(sector, centre.load(sector, 5)) for sector in "WEX"],
        [[centre.acts(name, sector) for sector in "WEX"] for name in centre.flights()],
    )


def boxes(first, last, step=100, level=100):
    """Return the exact boxes from a progress on, below another one."""
    return [(at, at, level, level) for at in range(first, last, step)]


class CentreCase(unittest.TestCase):
    def fails(self, error, fields, call, *arguments):
        """Check that a call raises an error with these fields, and changes nothing."""
        centre = call.__self__
        before = state(centre)
        with self.assertRaises(error) as caught:
            call(*arguments)
        names = {ClearError: ("code",), ConflictError: ("name", "kind", "tick")}.get(error, ("code", "index"))
        if isinstance(fields, str):
            fields, names = (fields,), ("code",)
        self.assertEqual(tuple(getattr(caught.exception, name) for name in names), fields)
        self.assertIsInstance(caught.exception, SkyError)
        self.assertEqual(state(centre), before)

    def says(self, centre, flight, change, tick, number=1, by="W"):
        """Let a centre say a clearance; return it."""
        message = centre.say(by, flight, change, tick)
        self.assertEqual(message, ("say", (flight, number, tick, change)))
        return message[1]

    def confirms(self, centre, clearance):
        self.assertEqual(centre.hear(("read", clearance)), ("confirm", clearance))

    def offers(self, centre, flight):
        return shown_offers(dict(centre.held()).get(flight, []))

    def courses(self, centre, flight):
        return centre.view(flight)["courses"]
