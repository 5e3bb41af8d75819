"""The flights of a centre, and the courses that they may have."""


class Branch:
    """A course that a flight may have: its path, its box, and the number of the clearance by which it came.

    Each branch has a path of its own, so that branches can be told apart by their paths. `over_at` is
    the first tick at which the course was over, or None.
    """

    def __init__(self, flown, path, box, number):
        self.flown = flown
        self.path = path
        self.box = box
        self.number = number
        self.over_at = None

    def note_over(self, tick):
        """Note whether the course is over at a tick."""
        if self.over_at is None and self.box[0] >= self.path.total():
            self.over_at = tick


class Flight:
    """A flight that was admitted."""

    def __init__(self, name, kind, entry, branch, responsibility):
        self.name = name
        self.kind = kind
        self.entry = entry
        self.branches = [branch]
        self.responsibility = responsibility
        self.state = "waiting"
        self.clearance = None
        self.confirmed = False
        self.many_clearances = 0
        self.promised = entry
        self.gone_at = None
        self.seen_at = entry

    def promise(self, tick):
        """Promise that the flight is out by a tick, if it was not promised for a later one."""
        self.promised = max(self.promised, tick)

    def drop_clearance(self):
        """Let no clearance be open."""
        self.clearance = None
        self.confirmed = False

    def all_over(self):
        """Tell whether all courses are over."""
        return all(branch.over_at is not None for branch in self.branches)

    def description(self):
        """Return the view of the flight."""
        flying = self.state == "flying"
        return {
            "state": self.state,
            "kind": self.kind,
            "entry": self.entry,
            "courses": [(branch.flown, branch.box if flying else None) for branch in self.branches],
            "open": None if self.clearance is None else (self.clearance, self.confirmed),
            "promised": self.promised,
            "responsible": self.responsibility.responsible(),
        }
