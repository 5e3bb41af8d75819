"""The centre: lets flights in, follows them by plots, and changes their courses by voice."""
from skyapart.calls import copied_call
from skyapart.clearing import changed_offer, check_room, clearable, reason_against_help, refusal
from skyapart.courses import window
from skyapart.entering import admit, check_entering, entries_of
from skyapart.errors import ClearError
from skyapart.fleet import Fleet
from skyapart.joint import choose
from skyapart.occupancy import flights_in
from skyapart.requests import menu
from skyapart.strips import strip
from skyapart.voice import answer_to, reminder_of
from skyapart.watching import alerts_of, unseen_of
from skyapart.world import World


class Centre:
    """An air traffic control centre."""

    def __init__(self, chart, rules, winds):
        self._fleet = Fleet(World(chart, rules, winds))
        self._calls = []

    def now(self):
        """Return the current tick."""
        return self._fleet.tick

    def enter(self, requests):
        """Let flights in: return (choice, []), or (None, refutation)."""
        fleet = self._fleet
        world = fleet.world
        check_entering(fleet, requests)
        options = [menu(world.chart, request) for request in requests]
        menus = [entries_of(world, request, options[index]) for index, request in enumerate(requests)]
        choice, refutation = choose(world.rules, world.chart["capacities"], fleet.held(), menus)
        if choice is not None:
            for index, request in enumerate(requests):
                chosen = choice[index]
                admit(fleet, request, options[index][chosen], menus[index][chosen])
        self._calls.append(("enter", list(requests)))
        return choice, refutation

    def say(self, by, flight, change, tick):
        """Clear a flight for a change from a tick on; return the message."""
        message = self._clear(clearable(self._fleet, by, flight, tick), change, tick)
        self._calls.append(("say", by, flight, change, tick))
        return message

    def solve(self, by, flight, changes, tick):
        """Clear a flight for the first change that is possible: return (message, []) or (None, reasons)."""
        wanting = clearable(self._fleet, by, flight, tick)
        self._calls.append(("solve", by, flight, list(changes), tick))
        reasons = []
        for change in changes:
            reason = refusal(self._fleet, self._fleet.held(), wanting, change, tick)
            if reason is None:
                return self._clear(wanting, change, tick), []
            reasons.append((change, reason))
        return None, reasons

    def hear(self, message):
        """Hear a message of a pilot; return the answer or None."""
        answer = answer_to(self._fleet, message)
        self._calls.append(("hear", message))
        return answer

    def remind(self, flight):
        """Return a message about a flight that may be sent once more, or None."""
        return reminder_of(self._fleet, flight)

    def give(self, flight, by, to):
        """Let a sector give a flight to another one; return the message."""
        message = self._fleet.find_present(flight).responsibility.give(by, to)
        self._calls.append(("give", flight, by, to))
        return message

    def repeat(self, flight, by):
        """Return the message of a sector that gives a flight once more."""
        return self._fleet.find_present(flight).responsibility.repeat(by)

    def pass_on(self, flight, message):
        """Let a sector hear a message about a flight; return the answer or None."""
        answer = self._fleet.find_present(flight).responsibility.hear(message)
        self._calls.append(("pass_on", flight, message))
        return answer

    def advance(self, plots):
        """Let one tick pass; return the names of the flights to which the plots belong."""
        names = self._fleet.advance(plots)
        self._calls.append(("advance", list(plots)))
        return names

    def acts(self, flight, sector):
        """Tell whether a sector acts for a waiting or flying flight."""
        try:
            return self._fleet.find_present(flight).responsibility.acts(sector)
        except ClearError:
            return False

    def flights(self):
        """Return the names of all flights that were admitted."""
        return self._fleet.names()

    def view(self, flight):
        """Return the view of a flight that was admitted."""
        return self._fleet.admitted[flight].description()

    def held(self):
        """Return the held list."""
        return [(name, [_copied_offer(offer) for offer in offers]) for name, offers in self._fleet.held()]

    def log(self):
        """Return all calls that can change the centre and raised no error."""
        return self.log_from(0)

    def log_from(self, number):
        """Return the calls of the log from the one with this number on."""
        return [copied_call(call) for call in self._calls[number:]]

    def sightings(self):
        """Return the sightings that are kept."""
        return list(self._fleet.seen_plots)

    def alerts(self):
        """Return the alerts."""
        return alerts_of(self._fleet)

    def strips(self, flight):
        """Return the strips of the tracks of all offers of a flight that is not gone."""
        return [strip(track) for _, _, track in self._fleet.offers(self._fleet.find_present(flight))]

    def plan(self, by, flight, change, first, second, helps):
        """Look for another flight that makes room: return (index, []) or (None, reasons)."""
        fleet = self._fleet
        wanting = clearable(fleet, by, flight, second)
        if not fleet.tick < first < second:
            raise ClearError("tick")
        reasons = []
        for index, aid in enumerate(helps):
            reason = reason_against_help(fleet, wanting, change, second, aid, first)
            if reason is None:
                return index, []
            reasons.append(reason)
        return None, reasons

    def load(self, sector, ahead):
        """Return how many flights may be in a sector at each tick from now on."""
        now = self._fleet.tick
        held = self._fleet.held()
        return [flights_in(held, sector, tick) for tick in range(now, now + ahead + 1)]

    def watched(self, ticks):
        """Return the flying flights that are unseen for at least as many ticks, with these."""
        return unseen_of(self._fleet, ticks)

    def _clear(self, flight, change, tick):
        """Give a flight that may be cleared a clearance; return the message."""
        fleet = self._fleet
        offer = changed_offer(fleet, flight, change, tick)
        check_room(fleet, fleet.held(), flight, offer)
        path, begin, boxes = offer[2]
        return "say", fleet.open_clearance(flight, tick, change, window(path, begin, boxes)[1])


def _copied_offer(offer):
    wake, runway, (path, tick, boxes) = offer
    return wake, runway, (path, tick, list(boxes))
