"""Points 45 to 58, 68, 69 and 76 as they are written, without any shortcut: what the centre is compared with."""
from skyapart.courses import changed, next_box, tube, window
from skyapart.errors import ClearError, ConflictError, CourseError, RequestError, RouteError
from skyapart.foreign import near_reach
from skyapart.handover import Responsibility
from skyapart.joint import choose, clash
from skyapart.path import Path
from skyapart.requests import check_requests, menu
from skyapart.routes import check_route
from skyapart.strips import strip
from skyapart.tracker import assign
from tests.plain import plain_occupies


class Row:
    """A course of a flight: `number` is that of the clearance by which it came, `over` the tick since when it is over."""

    def __init__(self, course, path, box, number, over=None):
        self.course, self.path, self.box, self.number, self.over = course, path, box, number, over


class PlainCentre:
    def __init__(self, chart, rules, winds):
        self.chart, self.rules, self.winds = chart, rules, winds
        self.tick, self.all, self.calls, self.seen = 0, {}, [], []

    def now(self):
        return self.tick

    def flights(self):
        return sorted(self.all)

    def state(self, name):
        return self.all[name]["state"] if name in self.all else "unknown"

    # Offers

    def offer(self, kind, path, tick, boxes):
        goal = path.route()[-1]
        return kind[0], goal if goal in self.chart["runways"] else "", (path, tick, boxes)

    def tube_of(self, kind, course, tick, box):
        path = Path(self.chart, course[0])
        return path, tube(self.chart, path, course, kind, self.rules, self.winds, tick, box)

    def offers(self, name):
        flight = self.all[name]
        if flight["state"] == "gone" and self.tick >= flight["gone"] + 200:
            return []
        offers = []
        for row in flight["rows"]:
            if row.over is not None:
                offers.append(self.offer(flight["kind"], row.path, row.over, []))
            else:
                tick = flight["entry"] if flight["state"] == "waiting" else self.tick
                offers.append(self.offer(flight["kind"], row.path, tick, self.tube_of(
                    flight["kind"], row.course, tick, row.box)[1]))
        if flight["open"]:
            (_, _, tick, change), _ = flight["open"]
            _, begin, boxes = offers[0][2]
            if begin <= tick < begin + len(boxes):
                path, new = self.tube_of(
                    flight["kind"], changed(flight["rows"][0].course, change), tick, boxes[tick - begin])
                offers.append(self.offer(flight["kind"], path, tick, new))
        return offers

    def held(self):
        rows = [(name, self.offers(name)) for name in self.flights()]
        return [row for row in rows if row[1]]

    # Entering

    def enter(self, requests):
        check_requests(self.chart, requests)
        for index, request in enumerate(requests):
            if request[0] in self.all:
                raise RequestError("name", index)
            if request[6] <= self.tick:
                raise RequestError("tick", index)
        self.calls.append(("enter", list(requests)))
        options = [menu(self.chart, request) for request in requests]
        menus = []
        for request, choices in zip(requests, options):
            menus.append([])
            for course, entry in choices:
                try:
                    path, boxes = self.tube_of(request[1], course, entry, (-request[7], 0, request[4], request[4]))
                    menus[-1].append(self.offer(request[1], path, entry, boxes))
                except CourseError as error:
                    menus[-1].append(error.code)
        choice, refutation = choose(self.rules, self.chart["capacities"], self.held(), menus)
        for request, choices, entries, index in zip(requests, options, menus, choice or ()):
            (course, entry), (_, _, (path, _, boxes)) = choices[index], entries[index]
            sectors = sorted({leg[2] for leg in self.chart["legs"]})
            self.all[request[0]] = {
                "kind": request[1], "entry": entry, "state": "waiting", "open": None, "numbers": 0, "gone": None,
                "rows": [Row(course, path, (-request[7], 0, request[4], request[4]), 0)], "plot": entry,
                "promised": window(path, entry, boxes)[1], "sectors": Responsibility(sectors, path.leg(0)[2]),
            }
        return choice, refutation

    # Clearances

    def check_flight(self, by, name, tick):
        if self.state(name) != "flying":
            raise ClearError("flight")
        flight = self.all[name]
        if not flight["sectors"].acts(by):
            raise ClearError("owner")
        if len(flight["rows"]) == 2 or flight["open"]:
            raise ClearError("busy")
        _, begin, boxes = self.offers(name)[0][2]
        if not self.tick < tick <= self.tick + 30 or not begin <= tick < begin + len(boxes):
            raise ClearError("tick")
        return boxes[tick - begin]

    def joins(self, path, high, route):
        for j in range(len(path.route())):
            if route[:j + 1] == path.route()[:j + 1] and len(route) > j and path.begin(j) >= high:
                return True
        return False

    def changed_offer(self, name, box, change, tick):
        flight = self.all[name]
        row, (what, value) = flight["rows"][0], change
        if what == "level" and not 0 <= value <= 600:
            raise ClearError("change")
        if what == "speed" and not flight["kind"][1] <= value <= flight["kind"][2]:
            raise ClearError("change")
        if what == "route":
            try:
                check_route(self.chart, value)
            except RouteError:
                raise ClearError("change")
            if not self.joins(row.path, box[1], value):
                raise ClearError("change")
        try:
            return self.offer(flight["kind"], *self.swapped(self.tube_of(
                flight["kind"], changed(row.course, change), tick, box), tick))
        except CourseError as error:
            raise ClearError(error.code)

    def swapped(self, made, tick):
        return made[0], tick, made[1]

    def check_room(self, held, name, offer):
        others = [row for row in held if row[0] != name]
        for other, offers in others:
            for one in offers:
                if clash(self.rules, offer, one):
                    raise ConflictError(other, *clash(self.rules, offer, one))
        _, begin, boxes = offer[2]
        for sector in sorted(self.chart["capacities"]):
            for tick in range(begin, begin + len(boxes)):
                many = sum(any(plain_occupies(one, sector, tick) for one in offers) for _, offers in others)
                if plain_occupies(offer, sector, tick) and many + 1 > self.chart["capacities"][sector]:
                    raise ConflictError(sector, "full", tick)

    def say(self, by, name, change, tick):
        message = self.said(by, name, change, tick)
        self.calls.append(("say", by, name, change, tick))
        return message

    def said(self, by, name, change, tick):
        offer = self.changed_offer(name, self.check_flight(by, name, tick), change, tick)
        self.check_room(self.held(), name, offer)
        flight = self.all[name]
        flight["numbers"] += 1
        flight["open"] = ((name, flight["numbers"], tick, change), False)
        flight["promised"] = max(flight["promised"], window(*offer[2])[1])
        return "say", flight["open"][0]

    def solve(self, by, name, changes, tick):
        self.check_flight(by, name, tick)
        self.calls.append(("solve", by, name, list(changes), tick))
        reasons = []
        for change in changes:
            try:
                return self.said(by, name, change, tick), []
            except ClearError as error:
                reasons.append((change, ("bad", error.code)))
            except ConflictError as error:
                reasons.append((change, ("held", error.name, error.kind, error.tick)))
        return None, reasons

    def plan(self, by, name, change, first, second, helps):
        box = self.check_flight(by, name, second)
        if not self.tick < first < second:
            raise ClearError("tick")
        reasons = []
        for index, (other, its_change) in enumerate(helps):
            try:
                if other == name or self.state(other) != "flying":
                    raise ClearError("flight")
                acting = [sector for sector in self.sectors() if self.all[other]["sectors"].acts(sector)]
                new = self.changed_offer(other, self.check_flight((acting + [""])[0], other, first), its_change, first)
                self.check_room(self.held(), other, new)
                what, (wake, runway, (path, begin, boxes)) = "wish", self.offers(other)[0]
                old = (wake, runway, (path, begin, boxes[:first - begin]))
                held = [(each, [old, new] if each == other else offers) for each, offers in self.held()]
            except ClearError as error:
                reasons.append(("help", ("bad", error.code)))
                continue
            except ConflictError as error:
                reasons.append(("help", ("held", error.name, error.kind, error.tick)))
                continue
            try:
                self.check_room(held, name, self.changed_offer(name, box, change, second))
                return index, []
            except ClearError as error:
                reasons.append((what, ("bad", error.code)))
            except ConflictError as error:
                reasons.append((what, ("held", error.name, error.kind, error.tick)))
        return None, reasons

    def sectors(self):
        return sorted({leg[2] for leg in self.chart["legs"]})

    # Messages

    def hear(self, message):
        self.calls.append(("hear", message))
        what = message[0]
        name = message[1][0] if what in ("say", "read", "confirm") else message[1]
        if self.state(name) != "flying":
            return None
        flight = self.all[name]
        if what == "read" and flight["open"] and self.tick < flight["open"][0][2]:
            clearance, confirmed = flight["open"]
            if message[1] == clearance:
                flight["open"] = (clearance, True)
                return "confirm", clearance
            return None if confirmed else ("say", clearance)
        two = len(flight["rows"]) == 2 and what in ("taken", "not") and flight["rows"][1].number == message[2]
        if what == "not" and flight["open"] and flight["open"][0][1] == message[2]:
            flight["open"] = None
        if two:
            del flight["rows"][0 if what == "taken" else 1]
        return None

    def remind(self, name):
        if self.state(name) != "flying":
            return None
        flight = self.all[name]
        if flight["open"] and self.tick < flight["open"][0][2]:
            return "confirm" if flight["open"][1] else "say", flight["open"][0]
        if len(flight["rows"]) == 2:
            return "ask", name, flight["rows"][1].number
        return None

    def there(self, name):
        if self.state(name) not in ("waiting", "flying"):
            raise ClearError("flight")
        return self.all[name]["sectors"]

    def give(self, name, by, to):
        message = self.there(name).give(by, to)
        self.calls.append(("give", name, by, to))
        return message

    def repeat(self, name, by):
        return self.there(name).repeat(by)

    def pass_on(self, name, message):
        answer = self.there(name).hear(message)
        self.calls.append(("pass_on", name, message))
        return answer

    def acts(self, name, sector):
        return self.state(name) in ("waiting", "flying") and self.all[name]["sectors"].acts(sector)

    # Ticks

    def flying(self):
        return [name for name in self.flights() if self.state(name) == "flying"]

    def advance(self, plots):
        self.calls.append(("advance", list(plots)))
        for name in self.flying():
            flight = self.all[name]
            for row in flight["rows"]:
                row.box = next_box(row.path, row.course, flight["kind"], self.rules, self.winds, self.tick, row.box)
        self.tick += 1
        for name in self.flights():
            if self.state(name) == "waiting" and self.all[name]["entry"] == self.tick:
                self.all[name]["state"] = "flying"
        for name in self.flying():
            self.note_over(name)
            flight = self.all[name]
            if all(row.over is not None for row in flight["rows"]):
                flight.update({"state": "gone", "open": None, "gone": self.tick})
        for name in self.flying():
            flight = self.all[name]
            if flight["open"] and flight["open"][0][2] == self.tick:
                (_, number, _, change), confirmed = flight["open"]
                flight["open"] = None
                if confirmed:
                    row = flight["rows"][0]
                    course = changed(row.course, change)
                    flight["rows"].append(Row(course, Path(self.chart, course[0]), row.box, number))
                    self.note_over(name)
        return self.assign(plots)

    def note_over(self, name):
        for row in self.all[name]["rows"]:
            if row.over is None and row.box[0] >= row.path.total():
                row.over = self.tick

    def assign(self, plots):
        self.seen = [sighting for sighting in self.seen if self.tick - sighting[3] < self.rules["memory"]]
        answers = []
        for plot in plots:
            for name in self.flying():
                flight = self.all[name]
                kept = []
                for row in flight["rows"]:
                    if row.over is None:
                        _, [(_, candidates)] = assign(self.rules, [(name, [(row.path, row.box)])], [plot])
                        names, _ = assign(self.rules, [(name, [(row.path, row.box)])], [plot])
                        if names == [name]:
                            kept.append((row, candidates[0][1]))
                if kept:
                    flight["rows"] = [row for row, _ in kept]
                    for row, box in kept:
                        row.box = box
                    flight["plot"] = self.tick
                    answers.append(name)
                    break
            else:
                answers.append("")
                self.seen.append((*plot, self.tick))
        return answers

    # What it tells

    def view(self, name):
        flight = self.all[name]
        return {
            "state": flight["state"], "kind": flight["kind"], "entry": flight["entry"],
            "courses": [(row.course, row.box if flight["state"] == "flying" else None) for row in flight["rows"]],
            "open": flight["open"], "promised": flight["promised"], "responsible": flight["sectors"].responsible(),
        }

    def log(self):
        return self.calls

    def sightings(self):
        return self.seen

    def alerts(self):
        alerts = []
        for name in self.flying():
            for sighting in self.seen:
                ticks = [
                    tick for _, _, (path, begin, boxes) in self.offers(name)
                    for tick in range(self.tick, self.tick + self.rules["ahead"] + 1)
                    if begin <= tick < begin + len(boxes)
                    and near_reach(self.rules, path, boxes[tick - begin], sighting, tick)
                ]
                if ticks:
                    alerts.append((name, sighting, min(ticks)))
        return alerts

    def strips(self, name):
        return [strip(track) for _, _, track in self.offers(name)]

    def load(self, sector, ahead):
        held = self.held()
        return [
            sum(any(plain_occupies(offer, sector, tick) for offer in offers) for _, offers in held)
            for tick in range(self.tick, self.tick + ahead + 1)
        ]

    def watched(self, ticks):
        rows = [(name, self.tick - self.all[name]["plot"]) for name in self.flying()]
        return sorted([row for row in rows if row[1] >= ticks], key=lambda row: (-row[1], row[0]))
