"""What the centre hears from pilots, and what it answers.

The tick of an open clearance is always to come: when it comes, the clearance is not open any more.
"""


def answer_to(fleet, message):
    """Hear a message of a pilot, and return the answer or None."""
    what = message[0]
    if what == "read":
        return _hear_read(fleet, message[1])
    if what == "taken":
        _hear_taken(fleet, message[1], message[2])
    if what == "not":
        _hear_not(fleet, message[1], message[2])
    return None


def reminder_of(fleet, name):
    """Return a message about a flight that may be sent once more, or None."""
    flight = fleet.find_flying(name)
    if flight is None:
        return None
    if len(flight.branches) > 1:
        return "ask", name, flight.branches[1].number
    if flight.clearance is None:
        return None
    if flight.confirmed:
        return "confirm", flight.clearance
    return "say", flight.clearance


def _hear_read(fleet, clearance):
    flight = fleet.find_flying(clearance[0])
    if flight is None or flight.clearance is None:
        return None
    if clearance == flight.clearance:
        flight.confirmed = True
        return "confirm", clearance
    if flight.confirmed:
        return None
    return "say", flight.clearance


def _hear_taken(fleet, name, number):
    flight = fleet.find_flying(name)
    if flight is not None and _second_came_by(flight, number):
        fleet.drop_branch(flight, 0)


def _hear_not(fleet, name, number):
    flight = fleet.find_flying(name)
    if flight is None:
        return
    if flight.clearance is not None and flight.clearance[1] == number:
        fleet.drop_clearance(flight)
    if _second_came_by(flight, number):
        fleet.drop_branch(flight, 1)


def _second_came_by(flight, number):
    return len(flight.branches) > 1 and flight.branches[1].number == number
