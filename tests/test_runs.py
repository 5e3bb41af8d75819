"""Long runs in which every sentence of point 53 (and those of 44, 57 and 69) is checked at every tick."""
import unittest

from tests.simulation import Foreign, Simulation


class RunTest(unittest.TestCase):
    def check(self, sim):
        self.check_boxes(sim)
        self.check_plots(sim)
        self.check_separation(sim)
        self.check_landings(sim)
        self.check_sectors(sim)
        self.check_legs(sim)
        self.check_promised(sim)
        self.check_alerts(sim)

    def check_boxes(self, sim):
        """The progress and the level of each aircraft are in the box of the course that it flies."""
        for one in sim.flying():
            view = sim.centre.view(one.name)
            self.assertEqual(view["state"], "flying")
            boxes = [box for course, box in view["courses"] if course == one.pilot.course()]
            self.assertTrue(boxes, one.name)
            self.assertTrue(any(
                low <= one.progress <= high and down <= one.level <= up for low, high, down, up in boxes
            ), (one.name, one.progress, one.level, boxes))
        for name in sim.centre.flights():
            if sim.centre.view(name)["state"] == "gone":
                self.assertIsNotNone(sim.aircraft[name].out_at)

    def check_plots(self, sim):
        for one, _, name in sim.plotted:
            self.assertEqual(name, "" if isinstance(one, Foreign) else one.name)

    def apart(self, sim, one, other):
        (x, y, d), (u, v, e) = one.place(sim), other.place(sim)
        square = (x * e - u * d) ** 2 + (y * e - v * d) ** 2
        far = square >= (sim.rules["lateral"] * d * e) ** 2
        return far or abs(one.height() - other.height()) >= sim.rules["vertical"]

    def check_separation(self, sim):
        there = sim.in_airspace()
        for index, one in enumerate(there):
            for other in there[:index]:
                self.assertTrue(self.apart(sim, one, other), (sim.centre.now(), one.name, other.name))

    def check_landings(self, sim):
        for index, (runway, tick, wake, name) in enumerate(sim.landings):
            for other_runway, other_tick, other_wake, other_name in sim.landings[:index]:
                if runway == other_runway != "":
                    first, second = (other_wake, wake) if other_tick <= tick else (wake, other_wake)
                    self.assertGreaterEqual(abs(tick - other_tick), sim.rules["gaps"][first][second], (name, other_name))

    def check_sectors(self, sim):
        counts = {}
        for one in sim.in_airspace():
            path = sim.path(one.pilot.course())
            sector = path.leg(path.leg_at(one.progress))[2]
            counts[sector] = counts.get(sector, 0) + 1
        for sector, many in counts.items():
            self.assertLessEqual(many, sim.chart["capacities"][sector])
            self.assertLessEqual(many, sim.centre.load(sector, 0)[0])
            for loads in sim.loads.get(sector, []):
                if sim.centre.now() in loads:
                    self.assertLessEqual(many, loads[sim.centre.now()])

    def check_legs(self, sim):
        now = sim.centre.now()
        for one in sim.in_airspace():
            path = sim.path(one.pilot.course())
            start, end, _, low, high = path.leg(path.leg_at(one.progress))
            self.assertTrue(low <= one.level <= high, one.name)
            for shut_start, shut_end, first, last in sim.chart["hours"]:
                self.assertFalse((start, end) == (shut_start, shut_end) and first <= now <= last, one.name)

    def check_promised(self, sim):
        for one in sim.aircraft.values():
            tick = one.out_at if one.out_at is not None else sim.centre.now() + 1
            self.assertLessEqual(tick, sim.centre.view(one.name)["promised"], one.name)

    def check_alerts(self, sim):
        """Each foreign aircraft that was sighted and comes near is told by the alerts of this and earlier ticks."""
        now = sim.centre.now()
        sim.seen.append((now, {
            one: now for one, _, _ in sim.plotted if isinstance(one, Foreign)
        }, sim.centre.alerts(), {name: sim.centre.view(name) for name in sim.centre.flights()}))
        for one in sim.in_airspace():
            for foreign in sim.foreign:
                if not self.apart(sim, one, foreign):
                    self.told(sim, one, foreign)

    def told(self, sim, one, foreign):
        now = sim.centre.now()
        course, promised = one.pilot.course(), sim.centre.view(one.name)["promised"]
        for tick, _, alerts, views in sim.seen[-1 - sim.rules["ahead"]:]:
            kept = any(foreign in seen for at, seen, _, _ in sim.seen if tick - sim.rules["memory"] < at <= tick)
            view = views.get(one.name, {"state": "", "courses": []})
            same = course in [each for each, _ in view["courses"]] and view["promised"] == promised
            if kept and view["state"] == "flying" and same:
                sim.counts["alerts"] += 1
                self.assertTrue(any(flight == one.name and at <= now for flight, _, at in alerts))

    def run_once(self, seed, ticks):
        sim = Simulation(seed)
        sim.seen, sim.loads = [], {}
        for _ in range(ticks):
            sim.advance()
            self.check(sim)
            before = sim.centre.log()
            sim.act()
            quiet = all(call[0] not in ("enter", "say", "solve") for call in sim.centre.log()[len(before):])
            if not quiet:
                sim.loads = {}
            now = sim.centre.now()
            for sector in "EMW":
                loads = dict(enumerate(sim.centre.load(sector, 15), now))
                sim.loads.setdefault(sector, []).append(loads)
        return sim

    def test_long_runs(self):
        counts = {}
        for seed in (2, 6, 8, 16):
            sim = self.run_once(seed, 160)
            self.assertGreater(len(sim.landings), 10)
            for word, many in sim.counts.items():
                counts[word] = counts.get(word, 0) + many
        for word, least in (("taken", 20), ("not", 20), ("admitted", 60), ("refused", 60), ("landed", 40),
                            ("alerts", 40), ("handed", 10)):
            self.assertGreater(counts[word], least, counts)


if __name__ == "__main__":
    unittest.main()
