"""Paths: the places along a route."""
from skyapart.chart import leg_between, leg_length


class Path:
    """The path of a route on a chart."""

    def __init__(self, chart, route):
        self._route = route
        self._legs = []
        self._starts = []
        self._vectors = []
        self._begins = [0]
        for index in range(len(route) - 1):
            self._join(chart, route[index], route[index + 1])

    def _join(self, chart, start, end):
        ax, ay = chart["fixes"][start]
        bx, by = chart["fixes"][end]
        length = leg_length(chart, start, end)
        self._legs.append(leg_between(chart, start, end))
        self._starts.append((ax, ay))
        self._vectors.append((bx - ax, by - ay, length))
        self._begins.append(self.total() + length)

    def total(self):
        """Return the progress at which the last leg ends."""
        return self._begins[-1]

    def leg_at(self, progress):
        """Return the index of the leg to which a progress belongs."""
        last = len(self._legs) - 1
        for index in range(last):
            if progress < self._begins[index + 1]:
                return index
        return last

    def begin(self, index):
        """Return the progress at which a leg begins; for the number of legs, the total."""
        return self._begins[index]

    def leg(self, index):
        """Return a leg as it stands in the chart."""
        return self._legs[index]

    def vector(self, index):
        """Return the difference of the ends of a leg, and its length."""
        return self._vectors[index]

    def place(self, progress):
        """Return the place at a progress from 0 to the total."""
        index = self.leg_at(progress)
        x, y = self._point(index, progress)
        return x, y, self._vectors[index][2]

    def piece(self, low, high):
        """Return the line of the places from one progress to another."""
        if high < 0 or low >= self.total():
            return []
        first = max(low, 0)
        last = min(high, self.total())
        if first == last:
            index = self.leg_at(first)
            return [self._segment(index, first, first)]
        return self._segments(first, last)

    def route(self):
        """Return the route."""
        return self._route

    def _segments(self, first, last):
        line = []
        for index in range(self.leg_at(first), self.leg_at(last) + 1):
            start = max(first, self._begins[index])
            end = min(last, self._begins[index + 1])
            # A leg that is only touched at its begin adds no point: the leg before it ends there.
            if start < end:
                line.append(self._segment(index, start, end))
        return line

    def _segment(self, index, start, end):
        return (*self._point(index, start), *self._point(index, end), self._vectors[index][2])

    def _point(self, index, progress):
        """Return the point at a progress, seen as one on this leg, multiplied by the length of the leg."""
        x, y = self._starts[index]
        dx, dy, length = self._vectors[index]
        along = progress - self._begins[index]
        return x * length + dx * along, y * length + dy * along
