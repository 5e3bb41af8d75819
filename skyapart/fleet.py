"""All flights of a centre at its current tick, and what they may do from now on."""
from skyapart.courses import changed, next_box
from skyapart.errors import ClearError
from skyapart.flight import Branch
from skyapart.tracker import assign

MEMORY_OF_LANDINGS = 200


class Fleet:
    """The flights by their names, the sightings, and the current tick."""

    def __init__(self, world):
        self.world = world
        self.tick = 0
        self.admitted = {}
        self.seen_plots = []
        self._offers = {}

    def admit(self, flight):
        """Add a flight."""
        self.admitted[flight.name] = flight

    def names(self):
        """Return the names of all flights, ascending."""
        return sorted(self.admitted)

    def flying(self):
        """Return the flying flights in ascending order of names."""
        return [self.admitted[name] for name in self.names() if self.admitted[name].state == "flying"]

    def find_flying(self, name):
        """Return the flying flight with a name, or None."""
        flight = self.admitted.get(name)
        if flight is None or flight.state != "flying":
            return None
        return flight

    def find_present(self, name):
        """Return the waiting or flying flight with a name; raise ClearError."""
        flight = self.admitted.get(name)
        if flight is None or flight.state == "gone":
            raise ClearError("flight")
        return flight

    def open_clearance(self, flight, tick, change, out):
        """Give a flight a clearance, by which it is out by a tick; return the clearance."""
        flight.many_clearances += 1
        flight.clearance = (flight.name, flight.many_clearances, tick, change)
        flight.promise(out)
        self._offers.pop(flight.name, None)
        return flight.clearance

    def drop_clearance(self, flight):
        """Let a flight have no open clearance any more."""
        flight.drop_clearance()
        self._offers.pop(flight.name, None)

    def drop_branch(self, flight, index):
        """Drop one of the courses of a flight."""
        flight.branches.pop(index)
        self._offers.pop(flight.name, None)

    def offers(self, flight):
        """Return the offers of a flight, which nobody may modify."""
        if flight.name not in self._offers:
            self._offers[flight.name] = self._made_offers(flight)
        return self._offers[flight.name]

    def held(self):
        """Return the held list, which nobody may modify."""
        rows = []
        for name in self.names():
            offers = self.offers(self.admitted[name])
            if offers:
                rows.append((name, offers))
        return rows

    def box_at(self, flight, tick):
        """Return the box that the track of the first offer of a flight has at a tick, or None."""
        return _box_in(self.offers(flight)[0][2], tick)

    def advance(self, plots):
        """Let one tick pass; return the names of the flights to which the plots belong."""
        self._move()
        self.tick += 1
        self._offers = {}
        self._begin()
        self._end()
        self._take_clearances()
        return self._assign(plots)

    def _made_offers(self, flight):
        if flight.state == "gone" and self.tick >= flight.gone_at + MEMORY_OF_LANDINGS:
            return []
        offers = [self._offer_of_branch(flight, branch) for branch in flight.branches]
        if flight.clearance is not None:
            offers.extend(self._offers_of_clearance(flight, offers[0]))
        return offers

    def _offer_of_branch(self, flight, branch):
        if branch.over_at is not None:
            return self.world.offer_of(flight.kind, branch.path, branch.over_at, [])
        tick = flight.entry if flight.state == "waiting" else self.tick
        return self.world.offer(flight.kind, branch.path, branch.flown, tick, branch.box)

    def _offers_of_clearance(self, flight, offer):
        _, _, tick, change = flight.clearance
        box = _box_in(offer[2], tick)
        # Without a box, the aircraft will be out before.
        if box is None:
            return []
        flown = changed(flight.branches[0].flown, change)
        return [self.world.offer(flight.kind, self.world.path_of(flown), flown, tick, box)]

    def _move(self):
        """Let each course of each flying flight go on by one tick."""
        world = self.world
        for flight in self.flying():
            for branch in flight.branches:
                branch.box = next_box(
                    branch.path, branch.flown, flight.kind, world.rules, world.winds, self.tick, branch.box,
                )

    def _begin(self):
        for name in self.names():
            flight = self.admitted[name]
            if flight.entry == self.tick:
                flight.state = "flying"

    def _end(self):
        for flight in self.flying():
            for branch in flight.branches:
                branch.note_over(self.tick)
            if flight.all_over():
                flight.state = "gone"
                flight.gone_at = self.tick
                flight.drop_clearance()

    def _take_clearances(self):
        """Let confirmed clearances of this tick become second courses; none of this tick stays open."""
        for flight in self.flying():
            if flight.clearance is not None and flight.clearance[2] == self.tick:
                if flight.confirmed:
                    flight.branches.append(self._changed_branch(flight))
                flight.drop_clearance()

    def _changed_branch(self, flight):
        _, number, _, change = flight.clearance
        branch = flight.branches[0]
        flown = changed(branch.flown, change)
        second = Branch(flown, self.world.path_of(flown), branch.box, number)
        second.note_over(self.tick)
        return second

    def _assign(self, plots):
        flights = self.flying()
        followed = [(flight.name, _candidates(flight)) for flight in flights]
        names, afterwards = assign(self.world.rules, followed, plots)
        for flight, (name, candidates) in zip(flights, afterwards):
            if name in names:
                _keep(flight, candidates)
                flight.seen_at = self.tick
        kept = [sighting for sighting in self.seen_plots if self.tick - sighting[3] < self.world.rules["memory"]]
        new = [(*plot, self.tick) for plot, name in zip(plots, names) if name == ""]
        self.seen_plots = kept + new
        return names


def _box_in(track, tick):
    """Return the box that a track has at a tick, or None."""
    _, begin, boxes = track
    if begin <= tick < begin + len(boxes):
        return boxes[tick - begin]
    return None


def _candidates(flight):
    """Return the courses that the aircraft of a flight may fly in the airspace, with their boxes."""
    return [(branch.path, branch.box) for branch in flight.branches if branch.over_at is None]


def _keep(flight, candidates):
    """Keep only the courses that are candidates still, with their boxes."""
    boxes = {path: box for path, box in candidates}
    flight.branches = [branch for branch in flight.branches if branch.path in boxes]
    for branch in flight.branches:
        branch.box = boxes[branch.path]
