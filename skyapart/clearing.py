"""Whether a flight can be cleared for a change of its course."""
from skyapart.chart import TOP_LEVEL
from skyapart.courses import changed
from skyapart.errors import ClearError, ConflictError, CourseError, RouteError
from skyapart.joint import first_clash
from skyapart.occupancy import crowds, first_full, occupied
from skyapart.routes import check_route

MOST_TICKS_AHEAD = 30


def clearable(fleet, by, name, tick):
    """Return the flight that a sector may clear for a tick; raise ClearError."""
    flight = fleet.find_flying(name)
    if flight is None:
        raise ClearError("flight")
    if not flight.responsibility.acts(by):
        raise ClearError("owner")
    if len(flight.branches) > 1 or flight.clearance is not None:
        raise ClearError("busy")
    if not fleet.tick < tick <= fleet.tick + MOST_TICKS_AHEAD or fleet.box_at(flight, tick) is None:
        raise ClearError("tick")
    return flight


def changed_offer(fleet, flight, change, tick):
    """Return the offer of the changed course of a flight from a tick on; raise ClearError."""
    box = fleet.box_at(flight, tick)
    branch = flight.branches[0]
    if not _is_possible(fleet.world.chart, flight.kind, branch.path, box, change):
        raise ClearError("change")
    flown = changed(branch.flown, change)
    try:
        return fleet.world.offer(flight.kind, fleet.world.path_of(flown), flown, tick, box)
    except CourseError as error:
        raise ClearError(error.code) from error


def check_room(fleet, held, flight, offer):
    """Raise ConflictError if the offer of a flight clashes with other flights, or overfills a sector."""
    others = [row for row in held if row[0] != flight.name]
    found = first_clash(fleet.world.rules, others, offer)
    if found is not None:
        name, kind, tick = found
        raise ConflictError(name, kind, tick)
    capacities = fleet.world.chart["capacities"]
    ticks = occupied(offer, capacities)
    full = first_full(capacities, crowds(others, ticks), ticks, [])
    if full is not None:
        sector, tick = full
        raise ConflictError(sector, "full", tick)


def refusal(fleet, held, flight, change, tick):
    """Return the reason why a flight cannot be cleared for a change, or None."""
    try:
        check_room(fleet, held, flight, changed_offer(fleet, flight, change, tick))
    except ClearError as error:
        return "bad", error.code
    except ConflictError as conflict:
        return "held", conflict.name, conflict.kind, conflict.tick
    return None


def reason_against_help(fleet, flight, change, second, aid, first):
    """Return why the aid, another flight with its change at the tick `first`, does not work; None if it does."""
    other, its_change = aid
    reason = _refusal_of_aid(fleet, flight, other, its_change, first)
    if reason is not None:
        return "help", reason
    reason = refusal(fleet, _held_with_aid(fleet, other, its_change, first), flight, change, second)
    if reason is not None:
        return "wish", reason
    return None


def _refusal_of_aid(fleet, flight, other, change, tick):
    helper = fleet.find_flying(other)
    if helper is None or helper.name == flight.name:
        return "bad", "flight"
    try:
        clearable(fleet, helper.responsibility.acting(), other, tick)
    except ClearError as error:
        return "bad", error.code
    return refusal(fleet, fleet.held(), helper, change, tick)


def _held_with_aid(fleet, other, change, tick):
    """Return the held list as it would be if another flight had taken its change at a tick."""
    helper = fleet.find_flying(other)
    wake, runway, (path, begin, boxes) = fleet.offers(helper)[0]
    before = (wake, runway, (path, begin, boxes[:tick - begin]))
    behind = changed_offer(fleet, helper, change, tick)
    return [(name, [before, behind] if name == other else offers) for name, offers in fleet.held()]


def _is_possible(chart, kind, path, box, change):
    """Tell whether a change is one that a flight on a path and in a box could fly at all."""
    what, value = change
    if what == "level":
        return 0 <= value <= TOP_LEVEL
    if what == "speed":
        return kind[1] <= value <= kind[2]
    return _is_route(chart, value) and _joins(path, box, value)


def _is_route(chart, route):
    try:
        check_route(chart, route)
    except RouteError:
        return False
    return True


def _joins(path, box, route):
    """Tell whether a route leaves the old one only at a fix that is not behind the aircraft."""
    same = 0
    for old, new in zip(path.route(), route):
        if old != new:
            break
        same += 1
    return same > 0 and path.begin(same - 1) >= box[1]
