"""The radar desk: it reads the bytes of several radars, and takes their offsets off their plots."""
from skyapart.bias import corrected, narrowed
from skyapart.reflected import decode
from skyapart.wire import HALF_HEIGHT, frames_and_rest

LOWEST_HEIGHT = -1000
COUNTS = 256


class Station:
    """What the desk knows of one radar. Its rules have the error of this radar in the place of "radar"."""

    def __init__(self, rules, bounds):
        self.rules = rules
        self.bounds = bounds
        self.rest = []
        self.last_count = None
        self.many_lost = 0
        self.many_held_back = 0

    def read(self, numbers):
        """Read bytes behind those that were left; return the plots of the frames, with their heights."""
        frames, self.rest = frames_and_rest(self.rest + numbers)
        plots = []
        for (x, y, z), count in frames:
            self._note(count)
            plots.append((x, y, decode(z + HALF_HEIGHT) + LOWEST_HEIGHT))
        return plots

    def _note(self, count):
        if self.last_count is not None:
            self.many_lost += (count - self.last_count - 1) % COUNTS
        self.last_count = count


class Desk:
    """The desk of several radars, which are numbered from 0 on."""

    def __init__(self, rules, errors, estimates):
        self._greatest_error = rules["radar"]
        self._stations = []
        for error, bounds in zip(errors, estimates):
            self._stations.append(Station({**rules, "radar": error}, bounds))

    def receive(self, radar, numbers):
        """Receive bytes of a radar; return the corrected plots that are passed on."""
        station = self._stations[radar]
        passed = []
        for plot in station.read(numbers):
            better, error = corrected(station.rules, station.bounds, plot)
            if error <= self._greatest_error:
                passed.append(better)
            else:
                station.many_held_back += 1
        return passed

    def learn(self, radar, path, box, plot):
        """Narrow the estimate of a radar by a plot of an aircraft in a box; tell whether this was possible."""
        station = self._stations[radar]
        bounds = narrowed(station.rules, station.bounds, path, box, plot)
        if bounds is None:
            return False
        station.bounds = bounds
        return True

    def estimate(self, radar):
        """Return the estimate of the offset of a radar."""
        return self._stations[radar].bounds

    def left(self, radar):
        """Return the bytes of a radar that are left."""
        return list(self._stations[radar].rest)

    def lost(self, radar):
        """Return the number of frames of a radar that are lost."""
        return self._stations[radar].many_lost

    def held_back(self, radar):
        """Return the number of plots of a radar that were held back."""
        return self._stations[radar].many_held_back
