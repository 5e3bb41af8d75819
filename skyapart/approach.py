"""The approach: requests that end at one runway are brought into a good sequence."""
from skyapart.courses import window
from skyapart.entering import entry_of
from skyapart.errors import SequenceError
from skyapart.landing import best_order
from skyapart.requests import menu
from skyapart.world import World

LONGEST_DELAY = 100


def sequenced(chart, rules, winds, requests, shift):
    """Return the requests in the best order of their landings."""
    _check_runway(chart, requests)
    world = World(chart, rules, winds)
    arrivals = [_arrival(world, request) for request in requests]
    order, _ = best_order(rules["gaps"], arrivals, shift)
    return [requests[index] for index in order]


def _check_runway(chart, requests):
    for request in requests:
        if request[3] not in chart["runways"] or request[3] != requests[0][3]:
            raise SequenceError("runway")


def _arrival(world, request):
    """Return the arrival (wake, ready, last) of the first option of a request that can be flown."""
    for option in menu(world.chart, request):
        entry = entry_of(world, request, option)
        if not isinstance(entry, str):
            wake, _, (path, tick, boxes) = entry
            ready, _ = window(path, tick, boxes)
            return wake, ready, ready + LONGEST_DELAY
    raise SequenceError("entry")
