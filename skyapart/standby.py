"""A standby follows a journal over a channel that may lose, delay, repeat and exchange its lines."""
from skyapart.calls import copied_call
from skyapart.journal import line_of, read_line

MOST_MESSAGES = 4


class Feed:
    """The lines of a journal, and how many of them the standby surely has."""

    def __init__(self):
        self._lines = []
        self._greatest = 0

    def add(self, call):
        """Append a call of the log."""
        self._lines.append(line_of(len(self._lines), call))

    def safe(self):
        """Return the number of calls that are safe."""
        return self._greatest

    def messages(self):
        """Return the next messages: the numbers and texts of the first lines that are not safe."""
        first = self._greatest
        return [(first + index, line) for index, line in enumerate(self._lines[first:first + MOST_MESSAGES])]

    def hear(self, answer):
        """Hear an answer of the standby: the number of calls that it had."""
        self._greatest = max(self._greatest, answer)


class Standby:
    """The calls of a journal that were heard in their order."""

    def __init__(self):
        self._known = []

    def hear(self, message):
        """Hear a message of the feed; return the number of calls that the standby has."""
        number, line = message
        if number == len(self._known):
            call = read_line(number, line)
            if call is not None:
                self._known.append(call)
        return len(self._known)

    def calls(self):
        """Return the calls that the standby has."""
        return [copied_call(call) for call in self._known]
