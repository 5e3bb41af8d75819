"""A primary: a centre whose calls are fed to a standby, which can take over."""
from skyapart.centre import Centre
from skyapart.console import respond
from skyapart.replay import replay
from skyapart.standby import Feed


class Primary:
    """A centre with a console and a feed."""

    def __init__(self, chart, rules, winds):
        self._centre = Centre(chart, rules, winds)
        self._feed = Feed()
        self._many_fed = 0

    def centre(self):
        """Return the centre."""
        return self._centre

    def feed(self):
        """Return the feed."""
        return self._feed

    def respond(self, text):
        """Return the answer of the console to a text; what this adds to the log is added to the feed."""
        answer = respond(self._centre, text)
        calls = self._centre.log_from(self._many_fed)
        self._many_fed += len(calls)
        for call in calls:
            self._feed.add(call)
        return answer


def take_over(chart, rules, winds, standby):
    """Return a centre made from the calls that a standby has."""
    return replay(chart, rules, winds, standby.calls())
