"""How flights come in: the entries of their menus, and their admission."""
from skyapart.courses import window
from skyapart.errors import CourseError, RequestError
from skyapart.flight import Branch, Flight
from skyapart.handover import Responsibility
from skyapart.requests import check_requests, first_box


def check_entering(fleet, requests):
    """Raise RequestError for the first request that is wrong, or that comes too late or twice."""
    check_requests(fleet.world.chart, requests)
    for index, request in enumerate(requests):
        if request[0] in fleet.admitted:
            raise RequestError("name", index)
        if request[6] <= fleet.tick:
            raise RequestError("tick", index)


def entries_of(world, request, options):
    """Return, for each option of a request, its offer, or the code of CourseError if it cannot be flown."""
    return [entry_of(world, request, option) for option in options]


def entry_of(world, request, option):
    """Return the offer of an option of a request, or the code of CourseError if it cannot be flown."""
    flown, tick = option
    try:
        return world.offer(request[1], world.path_of(flown), flown, tick, first_box(request))
    except CourseError as error:
        return error.code


def admit(fleet, request, option, offer):
    """Let the flight of a request come in with one of its options, whose offer is given."""
    flown, tick = option
    _, _, (path, _, boxes) = offer
    branch = Branch(flown, path, first_box(request), 0)
    responsibility = Responsibility(fleet.world.sectors(), path.leg(0)[2])
    flight = Flight(request[0], request[1], tick, branch, responsibility)
    flight.promise(window(path, tick, boxes)[1])
    fleet.admit(flight)
