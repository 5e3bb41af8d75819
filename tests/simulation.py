"""A run of a centre with aircraft that fly within their bounds, radars, winds and a bad channel (point 53)."""
import random

from skyapart.centre import Centre
from skyapart.courses import next_box, target
from skyapart.errors import SkyError
from skyapart.path import Path
from skyapart.pilot import Pilot
from skyapart.radar import fitted
from skyapart.wind import step_bounds, wind_at
from tests.samples import plain_chart, small_rules

FIXES = {
    "NW": (0, 12000), "NN": (8000, 13000), "NE": (16000, 12000), "WW": (0, 6000), "CW": (5500, 6500),
    "CE": (10500, 5800), "EE": (16000, 6000), "SW": (0, 0), "SS": (8000, -500), "SE": (16000, 0),
}
PAIRS = (
    ("NW", "NN"), ("NN", "NE"), ("NW", "CW"), ("NN", "CE"), ("NE", "EE"), ("WW", "CW"), ("CW", "CE"), ("CE", "EE"),
    ("SW", "CW"), ("SS", "CE"), ("SW", "SS"), ("SS", "SE"), ("SE", "EE"), ("WW", "SW"),
)


def busy_chart(chance):
    legs, starts = [], {}
    for one, other in PAIRS:
        sector = "W" if min(FIXES[one][0], FIXES[other][0]) < 6000 else "E"
        low, high = chance.choice(((0, 600), (0, 600), (100, 200), (140, 600)))
        for start, end in ((one, other), (other, one)):
            if starts.get(start, 0) < 3:
                starts[start] = starts.get(start, 0) + 1
                legs.append((start, end, sector if start != "CE" else "M", low, high))
    chart = plain_chart(FIXES, legs)
    chart["runways"] = ["EE", "SS"]
    pairs = {leg[:2] for leg in legs}
    chart["holds"] = {start: end for start, end in sorted(pairs) if (end, start) in pairs}
    chart["capacities"] = {"W": chance.randint(2, 5), "E": chance.randint(3, 6), "M": chance.randint(1, 2)}
    chart["hours"] = [(*chance.choice(legs)[:2], first, first + 40) for first in (20, 90, 150)]
    return chart


class Aircraft:
    """An aircraft with its nominal progress and level. It takes extreme or drawn steps within its bounds."""

    def __init__(self, request, course, entry, chance):
        self.name, self.kind, self.entry, self.chance = request[0], request[1], entry, chance
        self.pilot = Pilot(self.name, course)
        self.progress = -chance.choice((0, request[7], chance.randint(0, request[7])))
        self.level = request[4]
        self.style = chance.choice(("least", "most", "any", "any"))
        self.out_at = None
        self.offset = (0, 0, 0)
        self.runway = ""

    def step(self, sim, tick):
        path, (_, speed, _) = sim.path(self.pilot.course()), self.pilot.course()
        leg = path.leg_at(self.progress)
        least, most = step_bounds(path.vector(leg), speed, sim.rules["slip"], wind_at(sim.winds, tick))
        aim = target(path, self.pilot.course(), leg)
        by = self.draw(self.kind[3], self.kind[4])
        self.level = min(self.level + by, aim) if self.level < aim else max(self.level - by, aim)
        self.progress += self.draw(least, most)

    def draw(self, least, most):
        style = self.style if self.chance.random() < 0.9 else "any"
        return {"least": least, "most": most}.get(style, self.chance.randint(least, most))

    def note_out(self, sim, tick):
        path = sim.path(self.pilot.course())
        if self.progress >= path.total():
            self.out_at = tick
            self.runway = path.route()[-1] if path.route()[-1] in sim.chart["runways"] else ""

    def drift(self, rules):
        """Draw a new deviation of the true place and the true height."""
        radius, band = rules["radius"], rules["band"]
        while True:
            x, y = [self.chance.randint(-radius, radius) for _ in range(2)]
            if x * x + y * y <= radius * radius:
                self.offset = (x, y, self.chance.choice((-band, band, self.chance.randint(-band, band))))
                return

    def place(self, sim):
        """Return the true place (x, y, d)."""
        x, y, d = sim.path(self.pilot.course()).place(self.progress)
        return x + self.offset[0] * d, y + self.offset[1] * d, d

    def height(self):
        return self.level + self.offset[2]


class Foreign:
    """An aircraft that is not under control."""

    def __init__(self, chance, rules):
        self.chance, self.rules = chance, rules
        self.x, self.y, self.level = chance.randint(0, 16000), chance.randint(0, 12000), chance.randint(90, 190)

    def step(self):
        far, climb = self.rules["foreign"] * 7 // 10, self.rules["climb"]
        self.x += self.chance.randint(-far, far)
        self.y += self.chance.randint(-far, far)
        self.level += self.chance.randint(-climb, climb)

    def place(self, _):
        return self.x, self.y, 1

    def height(self):
        return self.level


class Simulation:
    def __init__(self, seed):
        self.chance = chance = random.Random(seed)
        self.chart = busy_chart(chance)
        self.rules = small_rules(
            lateral=900, vertical=20, radius=40, band=2, slip=6, radar=150, height=4, foreign=90, climb=3, memory=4,
            ahead=12, gaps=((3, 3, 3, 3), (6, 3, 3, 3), (8, 6, 3, 3), (9, 8, 5, 3)),
        )
        self.winds = [(0, 15, -10, 4)]
        for _ in range(chance.randint(1, 4)):
            self.winds.append((self.winds[-1][0] + chance.randint(20, 60), chance.randint(-40, 40),
                               chance.randint(-40, 40), chance.randint(0, 12)))
        self.centre = Centre(self.chart, self.rules, self.winds)
        self.aircraft, self.paths, self.number = {}, {}, 0
        self.to_pilots, self.to_centre, self.handed = [], [], []
        self.landings, self.foreign, self.plotted = [], [], []
        self.counts = {"taken": 0, "not": 0, "admitted": 0, "refused": 0, "landed": 0, "alerts": 0, "handed": 0}

    def path(self, course):
        if course[0] not in self.paths:
            self.paths[course[0]] = Path(self.chart, course[0])
        return self.paths[course[0]]

    def flying(self):
        """Return the aircraft that have entered and are not out."""
        now = self.centre.now()
        return [one for one in self.aircraft.values() if one.entry <= now and one.out_at is None]

    def in_airspace(self):
        return [one for one in self.flying() if one.progress >= 0]

    def move(self):
        tick = self.centre.now()
        for one in self.flying():
            one.step(self, tick)
        for one in self.aircraft.values():
            if one.entry <= tick + 1 and one.out_at is None:
                one.note_out(self, tick + 1)
                if one.out_at is None:
                    told = one.pilot.begin_tick(tick + 1)
                    if told is not None:
                        self.counts["taken"] += 1
                        self.to_centre.append(told)
                        one.note_out(self, tick + 1)
                one.drift(self.rules)
                if one.out_at is not None:
                    self.counts["landed"] += 1
                    self.landings.append((one.runway, one.out_at, one.kind[0], one.name))
        for one in self.foreign:
            one.step()

    def plot_of(self, one):
        """Return a plot that is true for an aircraft."""
        radar, height = self.rules["radar"], self.rules["height"]
        x, y, d = one.place(self)
        while True:
            dx, dy = [self.chance.choice((-radar, radar, self.chance.randint(-radar, radar))) for _ in range(2)]
            plot = (x // d + dx, y // d + dy, one.height() + self.chance.randint(-height, height))
            if (plot[0] * d - x) ** 2 + (plot[1] * d - y) ** 2 <= (radar * d) ** 2:
                return plot

    def fits_somebody(self, plot):
        """Tell whether a plot of a foreign aircraft would fit a flight: then it is not handed in."""
        tick = self.centre.now()
        for name in self.centre.flights():
            view = self.centre.view(name)
            for course, box in view["courses"]:
                path = self.path(course)
                if view["state"] == "flying":
                    box = next_box(path, course, view["kind"], self.rules, self.winds, tick, box)
                elif view["state"] != "waiting" or view["entry"] != tick + 1:
                    continue
                else:
                    box = (-10 ** 6, 10 ** 6, 0, 600)
                if fitted(self.rules, path, box, plot):
                    return True
        return False

    def plots(self):
        """Return pairs of an aircraft (or a foreign one) and a plot of it, in any order; not all are seen."""
        pairs, now = [], self.centre.now() + 1
        for one in self.aircraft.values():
            if one.entry <= now and one.out_at is None and one.progress >= 0:
                for _ in range(self.chance.choice((0, 0, 0, 1, 1, 2))):
                    pairs.append((one, self.plot_of(one)))
        for one in self.foreign:
            plot = self.plot_of(one)
            if self.chance.random() < 0.7 and not self.fits_somebody(plot):
                pairs.append((one, plot))
        self.chance.shuffle(pairs)
        return pairs

    def advance(self):
        self.move()
        pairs = self.plots()
        names = self.centre.advance([plot for _, plot in pairs])
        self.plotted = [(one, plot, name) for (one, plot), name in zip(pairs, names)]

    # The channel

    def heard_as(self, message):
        """Return a message as it is heard: "say" and "read" may be heard wrongly."""
        if message[0] not in ("say", "read") or self.chance.random() < 0.8:
            return message
        flight, number, tick, (what, value) = message[1]
        wrong = (what, value + self.chance.choice((-10, 1))) if what != "route" else (what, value[:-1])
        return message[0], self.chance.choice((
            (flight, number, tick + self.chance.choice((-1, 1, 2)), (what, value)), (flight, number, tick, wrong),
            (flight, number + self.chance.choice((-1, 1)), tick, (what, value)),
        ))

    def drawn(self, messages):
        """Take some messages of a list, in any order; some are lost, some stay to be heard once more."""
        taken = []
        for _ in range(self.chance.randint(0, 4)):
            if messages:
                at = self.chance.randrange(len(messages))
                chosen = messages[at]
                if self.chance.random() < 0.85:
                    del messages[at]
                if self.chance.random() < 0.85:
                    taken.append(chosen)
        return taken

    def talk(self):
        now = self.centre.now()
        for message in self.drawn(self.to_pilots):
            message = self.heard_as(message)
            name = message[1] if message[0] == "ask" else message[1][0]
            one = self.aircraft.get(name)
            if one is not None and one.entry <= now and one.out_at is None:
                answer = one.pilot.hear(message, now)
                if answer is not None:
                    self.counts["not"] += answer[0] == "not"
                    self.to_centre.append(answer)
        for message in self.drawn(self.to_centre):
            answer = self.centre.hear(self.heard_as(message))
            if answer is not None:
                self.to_pilots.append(answer)
        for name, message in self.drawn(self.handed):
            try:
                answer = self.centre.pass_on(name, message)
            except SkyError:
                continue
            if answer is not None:
                self.counts["handed"] += 1
                self.handed.append((name, answer))

    # What the controllers do

    def enter(self):
        chance, asked = self.chance, []
        for _ in range(chance.choice((1, 1, 2))):
            self.number += 1
            start, goal = chance.sample(sorted(FIXES), 2)
            slow = chance.randint(200, 260)
            level = chance.choice((100, 120, 140, 160, 180, 200))
            asked.append((f"F{self.number}", (chance.randint(0, 3), slow, slow + chance.choice((20, 90)), 2, 6),
                          start, chance.choice((goal, "EE")) if start != "EE" else goal, level,
                          chance.choice((level, 150)), self.centre.now() + chance.randint(1, 9), 150))
        choice, _ = self.centre.enter(asked)
        self.counts["refused" if choice is None else "admitted"] += len(asked)
        if choice is not None:
            for one in asked:
                view = self.centre.view(one[0])
                self.aircraft[one[0]] = Aircraft(one, view["courses"][0][0], view["entry"], chance)

    def change(self, one):
        chance = self.chance
        route = one.pilot.course()[0]
        cut = list(route[:chance.randint(1, len(route))])
        for _ in range(chance.randint(0, 2)):
            ends = [leg[1] for leg in self.chart["legs"] if leg[0] == cut[-1]]
            cut += [chance.choice(ends)] if ends else []
        return chance.choice((
            ("level", chance.choice((100, 120, 140, 160, 180, 200))), ("speed", chance.choice(one.kind[1:3])),
            ("route", tuple(cut)),
        ))

    def clear(self):
        flying = self.flying()
        if not flying:
            return
        one = self.chance.choice(flying)
        acting = [sector for sector in "EMW" if self.centre.acts(one.name, sector)]
        changes = [self.change(one) for _ in range(4)]
        try:
            message, _ = self.centre.solve((acting + ["W"])[0], one.name, changes,
                                           self.centre.now() + self.chance.randint(2, 10))
        except SkyError:
            return
        if message is not None:
            self.to_pilots.append(message)

    def remind(self):
        for name in self.centre.flights():
            message = self.centre.remind(name)
            if message is not None and self.chance.random() < 0.4:
                self.to_pilots.append(message)

    def hand_over(self):
        flying = self.flying()
        if flying:
            one = self.chance.choice(flying)
            for call, arguments in ((self.centre.repeat, ()), (self.centre.give, self.chance.choice("EMW"))):
                try:
                    self.handed.append((one.name, call(one.name, self.chance.choice("EMW"), *arguments)))
                except SkyError:
                    pass

    def act(self):
        chance = self.chance
        if chance.random() < 0.35:
            self.enter()
        if chance.random() < 0.7:
            self.clear()
        if chance.random() < 0.3:
            self.hand_over()
        if chance.random() < 0.05 and len(self.foreign) < 3:
            self.foreign.append(Foreign(chance, self.rules))
        self.remind()
        self.talk()
