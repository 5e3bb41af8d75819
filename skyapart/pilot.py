"""The pilot: takes clearances that were confirmed, each at its tick."""
from skyapart.courses import changed


class Pilot:
    """The pilot of a flight."""

    def __init__(self, flight, course):
        self._flight = flight
        self._course = course
        self._heard = None
        self._upcoming = None
        self._done = 0
        self._taken = {}

    def course(self):
        """Return the course that is flown."""
        return self._course

    def hear(self, message, tick):
        """Hear a message at a tick, and return the answer or None."""
        what = message[0]
        if what == "say" and message[1][0] == self._flight:
            return self._hear_say(message[1], tick)
        if what == "confirm" and message[1][0] == self._flight:
            self._hear_confirm(message[1], tick)
        if what == "ask" and message[1] == self._flight:
            return self._hear_ask(message[2])
        return None

    def begin_tick(self, tick):
        """Take the next clearance if its tick has come; return the message that the pilot sends, or None."""
        if self._upcoming is None or self._upcoming[2] > tick:
            return None
        _, number, _, change = self._upcoming
        self._upcoming = None
        self._course = changed(self._course, change)
        self._taken[number] = True
        self._done = max(self._done, number)
        return "taken", self._flight, number

    def _hear_say(self, clearance, tick):
        _, number, begin, _ = clearance
        if number <= self._done or begin <= tick or self._upcoming is not None:
            return None
        if self._heard is not None and self._heard[1] > number:
            return None
        self._heard = clearance
        return "read", clearance

    def _hear_confirm(self, clearance, tick):
        if clearance == self._heard and clearance[2] > tick:
            self._upcoming = clearance
            self._heard = None

    def _hear_ask(self, number):
        if self._upcoming is not None and self._upcoming[1] == number:
            return None
        if number in self._taken:
            return "taken", self._flight, number
        self._done = max(self._done, number)
        if self._heard is not None and self._heard[1] <= number:
            self._heard = None
        return "not", self._flight, number
