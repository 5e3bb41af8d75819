"""The responsibility of sectors for a flight, handed over by messages that may be lost."""
from skyapart.errors import HandoverError


class Responsibility:
    """The sectors with their counts and states: each holds, rests, or gives to another one."""

    def __init__(self, sectors, first):
        self._counts = {sector: 0 for sector in sectors}
        self._states = {sector: "rests" for sector in sectors}
        self._states[first] = "holds"
        self._receivers = {}

    def give(self, by, to):
        """Let a sector give to another one; return the message."""
        self._check_sectors(by, to)
        if self._states[by] != "holds":
            raise HandoverError("state")
        self._states[by] = "gives"
        self._receivers[by] = to
        return self._message(by)

    def repeat(self, by):
        """Return the message of a sector that gives once more."""
        if by not in self._states:
            raise HandoverError("sector")
        if self._states[by] != "gives":
            raise HandoverError("state")
        return self._message(by)

    def hear(self, message):
        """Let the sector to which a message is sent hear it; return the answer or None."""
        what, number, sender, hearer = message
        self._check_sectors(sender, hearer)
        if what == "give":
            return self._hear_give(number, sender, hearer)
        if what == "took" and self._states[hearer] == "gives" and number == self._counts[hearer] + 1:
            self._counts[hearer] = number
            self._states[hearer] = "rests"
        return None

    def acts(self, sector):
        """Tell whether a sector acts for the flight."""
        return sector in self._states and self._states[sector] == "holds"

    def acting(self):
        """Return the sector that acts for the flight, or None."""
        for sector in self._states:
            if self.acts(sector):
                return sector
        return None

    def responsible(self):
        """Return the sector that is responsible."""
        return max(self._states, key=self._rank)

    def _rank(self, sector):
        if self._states[sector] == "rests":
            return 2 * self._counts[sector]
        return 2 * self._counts[sector] + 1

    def _hear_give(self, number, by, to):
        if number > self._counts[to]:
            self._counts[to] = number
            self._states[to] = "holds"
        return "took", number, to, by

    def _message(self, by):
        return "give", self._counts[by] + 1, by, self._receivers[by]

    def _check_sectors(self, one, other):
        if one not in self._states or other not in self._states or one == other:
            raise HandoverError("sector")
