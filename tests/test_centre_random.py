"""The centre does the same as a plain one, whatever is called in whatever order."""
import random
import unittest

from skyapart.centre import Centre
from skyapart.errors import SkyError
from tests.centres import shown, state
from tests.plain_centre import PlainCentre
from tests.samples import random_chart, small_rules


def told(error):
    return type(error).__name__, sorted(vars(error).items())


class Driver:
    """Calls a centre and a plain one in the same way."""

    def __init__(self, test, seed):
        self.test, self.chance, self.seed = test, random.Random(seed), seed
        chance = self.chance
        chart = random_chart(seed, fixes=8, legs=22, spread=900, levels=((0, 600), (0, 600), (0, 600), (60, 140)))
        chart["legs"] = [(*leg[:2], chance.choice("STU"), *leg[3:]) for leg in chart["legs"]]
        chart["runways"] = sorted(chart["fixes"])[:3]
        pairs = {leg[:2] for leg in chart["legs"]}
        chart["holds"] = dict(sorted(pair for pair in pairs if pair[::-1] in pairs)[:3])
        chart["hours"] = [(*chart["legs"][0][:2], 40, 60)]
        sectors = sorted({leg[2] for leg in chart["legs"]})
        chart["capacities"] = {sector: chance.randint(2, 4) for sector in sectors[:2]}
        self.chart = chart
        self.rules = small_rules(lateral=120, radius=5, radar=30, vertical=20, slip=chance.choice((0, 2)), foreign=20,
                                 memory=chance.randint(1, 5), ahead=chance.choice((0, 5, 15)))
        winds = [(0, chance.randint(-4, 4), chance.randint(-4, 4), chance.randint(0, 2)), (50, 2, -3, 1)]
        self.winds = winds
        self.centre, self.plain = Centre(chart, self.rules, winds), PlainCentre(chart, self.rules, winds)
        self.number, self.counts, self.messages, self.handed = 0, {}, [], []

    def call(self, method, *arguments):
        """Call both, compare what they give or raise, and return it."""
        found = []
        for each in (self.centre, self.plain):
            try:
                found.append(getattr(each, method)(*arguments))
            except SkyError as error:
                found.append(told(error))
        self.test.assertEqual(found[0], found[1], (self.seed, method, arguments))
        word = method
        if isinstance(found[0], tuple) and found[0] and isinstance(found[0][0], str) and found[0][0].endswith("Error"):
            word = f"{method} {dict(found[0][1]).get('code', 'conflict')}"
        elif method in ("say", "solve", "enter", "plan", "hear"):
            answer = found[0] if method == "hear" else found[0][0]
            word = f"{method} {'none' if answer is None else 'some'}"
        self.counts[word] = self.counts.get(word, 0) + 1
        return found[0]

    def compare(self):
        same, centre, plain = self.test.assertEqual, self.centre, self.plain
        same(centre.now(), plain.now())
        same(centre.flights(), plain.flights())
        for name in centre.flights():
            same(centre.view(name), plain.view(name), self.seed)
            same(centre.remind(name), plain.remind(name))
            if len(centre.view(name)["courses"]) == 2:
                self.counts["two courses"] = self.counts.get("two courses", 0) + 1
        same(shown(centre.held()), shown(plain.held()), self.seed)
        same(centre.sightings(), plain.sightings())
        same(centre.log(), plain.log())
        same(centre.watched(0), plain.watched(0))

    def name(self):
        names = self.centre.flights()
        flying = [name for name in names if self.centre.view(name)["state"] == "flying"]
        return self.chance.choice(flying * 6 + names + ["X9"])

    def sector(self, name):
        acting = [sector for sector in "STU" if self.centre.acts(name, sector)]
        return self.chance.choice(acting * 8 + ["S", "T", "U", "Y"])

    def enter(self):
        chance, asked = self.chance, []
        for _ in range(chance.choice((1, 1, 1, 2, 3))):
            self.number += chance.choice((1, 1, 1, 1, 1, 1, 1, 0))
            start, goal = chance.sample(sorted(self.chart["fixes"]), 2)
            level, slow = chance.choice((80, 100, 120)), chance.randint(35, 50)
            asked.append((f"F{self.number}", (chance.randint(0, 3), slow, slow + 25, 2, 5), start, goal, level,
                          chance.choice((level, 110)), self.centre.now() + chance.randint(0, 6), chance.choice((0, 90))))
        self.call("enter", asked)

    def change(self, name):
        chance = self.chance
        route = ("A", "B")
        if name in self.centre.flights():
            route = self.centre.view(name)["courses"][0][0][0]
        cut = list(route[:chance.randint(1, len(route))])
        for _ in range(chance.randint(0, 3)):
            ends = [leg[1] for leg in self.chart["legs"] if leg[0] == cut[-1]]
            cut += [chance.choice(ends)] if ends else []
        return chance.choice((("level", chance.randint(50, 150)), ("speed", chance.randint(33, 78)), ("route", tuple(cut))))

    def say(self):
        name = self.name()
        by, tick = self.sector(name), self.centre.now() + self.chance.randint(0, 12)
        if self.chance.random() < 0.6:
            message = self.call("say", by, name, self.change(name), tick)
        else:
            changes = [self.change(name) for _ in range(self.chance.randint(0, 3))]
            message = self.call("solve", by, name, changes, tick)[0]
        if isinstance(message, tuple) and message[0] == "say":
            self.messages.append(("read", message[1]))

    def hear(self):
        chance = self.chance
        name, number = self.name(), chance.randint(1, 4)
        clearance = (name, number, self.centre.now() + chance.randint(-1, 5), ("level", 100))
        if self.centre.remind(name) and chance.random() < 0.7:
            reminder = self.centre.remind(name)
            if reminder[0] == "ask":
                self.call("hear", (chance.choice(("taken", "not")), *reminder[1:]))
                return
            clearance, number = reminder[1], reminder[1][1]
            self.call("hear", chance.choice((("read", clearance),) * 4 + (("not", name, number),)))
        self.call("hear", chance.choice((
            ("read", clearance), ("taken", name, number), ("not", name, number), ("say", clearance),
            ("confirm", clearance), ("ask", name, number),
        )))

    def hand_over(self):
        chance, name = self.chance, self.name()
        by, to = self.sector(name), chance.choice("STUY")
        if self.handed and chance.random() < 0.4:
            name, message = self.handed[-1]
            found = self.call("repeat", name, chance.choice((message[2], message[2], by)))
        else:
            found = self.call("give", name, by, to)
        if isinstance(found, tuple) and found[0] == "give":
            self.handed.append((name, found))
        if self.handed and chance.random() < 0.8:
            name, message = chance.choice(self.handed[-3:])
            answer = self.call("pass_on", name, message)
            if answer and answer[0] == "took":
                self.handed.append((name, answer))

    def plan(self):
        name, other = self.name(), self.name()
        now = self.centre.now()
        helps = [(each, self.change(each)) for each in (other, self.name(), self.name())]
        self.call("plan", self.sector(name), name, self.change(name), now + self.chance.randint(0, 8),
                  now + self.chance.randint(1, 14), helps)

    def plots(self):
        """Return plots near boxes and some anywhere."""
        chance, plots = self.chance, []
        for _, offers in self.centre.held():
            for _, _, (path, tick, boxes) in offers:
                at = self.centre.now() + 1 - tick
                if 0 <= at < len(boxes) and chance.random() < 0.3:
                    low, high, down, up = boxes[at]
                    x, y, d = path.place(min(max(chance.randint(low, high), 0), path.total()))
                    spread = chance.choice((5, 5, 40))
                    plots.append((x // d + chance.randint(-spread, spread), y // d, chance.randint(down - 3, up + 3)))
        for _ in range(chance.choice((0, 0, 1))):
            plots.append((chance.randint(-900, 900), chance.randint(-900, 900), chance.randint(80, 120)))
        chance.shuffle(plots)
        return plots

    def step(self):
        chance = self.chance
        for _ in range(chance.randint(0, 3)):
            if not self.centre.flights() or chance.random() < 0.15:
                self.enter()
            else:
                chance.choice((self.say, self.say, self.hear, self.hear, self.hand_over, self.plan))()
            self.compare()
        if chance.random() < 0.2:
            name = self.name()
            self.call("alerts")
            self.call("load", chance.choice("STUY"), chance.randint(0, 30))
            self.call("acts", name, chance.choice("STUY"))
            self.call("watched", chance.randint(0, 9))
            if name in self.centre.flights() and self.centre.view(name)["state"] != "gone":
                self.call("strips", name)
        self.call("advance", self.plots())
        self.compare()


class RandomTest(unittest.TestCase):
    def check_replay(self, driver):
        """The calls of the log, done once more, give an equal centre."""
        again = Centre(driver.chart, driver.rules, driver.winds)
        for what, *arguments in driver.centre.log():
            getattr(again, what)(*arguments)
        self.assertEqual(state(again), state(driver.centre))

    def test_random_calls(self):
        counts = {}
        for seed in range(10):
            driver = Driver(self, seed)
            for _ in range(70):
                driver.step()
            self.check_replay(driver)
            for word, count in driver.counts.items():
                counts[word] = counts.get(word, 0) + count
        for word in (
            "enter some", "enter none", "enter name", "enter tick", "say some", "say flight", "say owner", "say busy",
            "say tick", "say change", "say conflict", "solve some", "solve none", "hear some", "hear none",
            "give", "give state", "give sector", "give flight", "repeat", "pass_on", "plan some", "plan none",
            "plan tick", "alerts", "load", "strips", "two courses",
        ):
            self.assertGreater(counts.get(word, 0), 2, (word, counts))

    def test_long_time(self):
        # Long enough that flights which are gone have no offers any more.
        driver = Driver(self, 99)
        for _ in range(6):
            driver.step()
        for _ in range(40):
            for _ in range(6):
                driver.call("advance", driver.plots())
            driver.step()
        self.assertGreater(driver.centre.now(), 280)
        self.assertLess(len(driver.centre.held()), len(driver.centre.flights()))


if __name__ == "__main__":
    unittest.main()
