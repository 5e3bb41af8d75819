"""The joint choice of options for several requests, and the paper that tells why there is none."""
from skyapart.courses import window
from skyapart.landing import apart
from skyapart.occupancy import crowds, first_full, occupied
from skyapart.probe import probe


def clash(rules, one, other):
    """Return the clash (kind, tick) of two offers, or None."""
    tick = probe(rules, one[2], other[2])
    if tick is not None:
        return "near", tick
    tick = wake_tick(rules, one, other)
    if tick is not None:
        return "wake", tick
    return None


def wake_tick(rules, one, other):
    """Return the tick at which two offers clash by their landings, or None if they do not."""
    if one[1] != other[1] or one[1] == "":
        return None
    landing = _landing(one)
    other_landing = _landing(other)
    if apart(rules["gaps"], landing, other_landing):
        return None
    return max(landing[1], other_landing[1])


def first_clash(rules, held, offer):
    """Return (name, kind, tick) of the first clash of an offer with one of a list of flights, or None."""
    for name, offers in held:
        for other in offers:
            found = clash(rules, offer, other)
            if found is not None:
                return name, *found
    return None


def choose(rules, capacities, held, menus):
    """Return the least free choice and [], or None and the refutation."""
    chooser = Chooser(rules, capacities, held, menus)
    choice = chooser.search(())
    if choice is None:
        return None, chooser.refutation()
    return choice, []


class Chooser:
    """The search for a free choice. What it learns of entries and of pairs of entries, it keeps."""

    def __init__(self, rules, capacities, held, menus):
        self._rules = rules
        self._capacities = capacities
        self._held = held
        self._menus = menus
        self._counts = crowds(held, capacities)
        self._rows = []
        self._alone = {}
        self._pairs = {}
        self._occupied = {}
        self._tight = {}

    def search(self, prefix):
        """Return the least free choice that begins with a prefix without reasons, or None."""
        if len(prefix) == len(self._menus):
            return prefix
        for index in range(len(self._menus[len(prefix)])):
            longer = (*prefix, index)
            reason = self._reason(longer)
            if reason is not None:
                self._rows.append((longer, reason))
                continue
            choice = self.search(longer)
            if choice is not None:
                return choice
        return None

    def refutation(self):
        """Return the prefixes that were found to have reasons, with these."""
        return list(self._rows)

    def _reason(self, prefix):
        """Return the reason of a prefix whose shorter prefixes have none, or None."""
        last = len(prefix) - 1
        reason = self._reason_alone((last, prefix[last]))
        if reason is not None:
            return reason
        for menu in range(last):
            found = self._clash((menu, prefix[menu]), (last, prefix[last]))
            if found is not None:
                return "chosen", menu, *found
        return self._full(prefix)

    def _reason_alone(self, place):
        """Return the reason that an entry has without the entries before it, but for "full"; or None."""
        if place not in self._alone:
            entry = self._entry(place)
            if isinstance(entry, str):
                self._alone[place] = ("bad", entry)
            else:
                found = first_clash(self._rules, self._held, entry)
                self._alone[place] = None if found is None else ("held", *found)
        return self._alone[place]

    def _clash(self, place, other):
        if (place, other) not in self._pairs:
            self._pairs[place, other] = clash(self._rules, self._entry(place), self._entry(other))
        return self._pairs[place, other]

    def _full(self, prefix):
        last = len(prefix) - 1
        others = [self._occupied_by((menu, prefix[menu])) for menu in range(last)]
        found = first_full(self._capacities, self._counts, self._tight_ticks((last, prefix[last])), others)
        if found is None:
            return None
        return "full", *found

    def _tight_ticks(self, place):
        """Return the ticks of an entry at which a sector would be full if all entries before it were there, too."""
        if place not in self._tight:
            ticks = self._occupied_by(place)
            self._tight[place] = {sector: self._tight_in(sector, ticks[sector], place[0] + 1) for sector in ticks}
        return self._tight[place]

    def _tight_in(self, sector, ticks, many):
        capacity = self._capacities[sector]
        return {tick: True for tick in ticks if self._counts.get((sector, tick), 0) + many > capacity}

    def _occupied_by(self, place):
        if place not in self._occupied:
            self._occupied[place] = occupied(self._entry(place), self._capacities)
        return self._occupied[place]

    def _entry(self, place):
        menu, index = place
        return self._menus[menu][index]


def _landing(offer):
    """Return the landing that an offer makes."""
    wake, _, (path, tick, boxes) = offer
    return wake, *window(path, tick, boxes)
