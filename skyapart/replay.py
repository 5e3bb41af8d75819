"""Replays of logs: a centre is made from the calls that another one has had."""
from skyapart.centre import Centre


def replay(chart, rules, winds, log):
    """Return the centre after the calls of a log."""
    centre = Centre(chart, rules, winds)
    for call in log:
        perform(centre, call)
    return centre


def perform(centre, call):
    """Let a centre do a call of a log; return what it returns."""
    match call:
        case ("enter", requests):
            return centre.enter(requests)
        case ("say", by, flight, change, tick):
            return centre.say(by, flight, change, tick)
        case ("solve", by, flight, changes, tick):
            return centre.solve(by, flight, changes, tick)
        case ("hear", message):
            return centre.hear(message)
        case ("give", flight, by, to):
            return centre.give(flight, by, to)
        case ("pass_on", flight, message):
            return centre.pass_on(flight, message)
    return centre.advance(call[1])
