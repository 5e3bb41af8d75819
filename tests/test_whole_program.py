"""Runs of the whole program: radars send bytes to a desk, and a primary is told all its calls in texts.

Point 53 is checked at every tick, as in the runs of a centre alone; at the end a standby takes over.
"""
import random
import unittest

from skyapart.bias import corrected
from skyapart.calls import call_text
from skyapart.charttext import chart_text, read_chart
from skyapart.desk import Desk
from skyapart.errors import SkyError
from skyapart.journal import journal_text, read_journal
from skyapart.primary import Primary, take_over
from skyapart.radio import read_message
from skyapart.reflected import encode
from skyapart.replay import replay
from skyapart.standby import Standby
from skyapart.wire import frame_of
from tests import test_runs
from tests.centres import state
from tests.simulation import Foreign, Simulation


class Refused(SkyError):
    """The console has answered with an error."""


class TextCentre:
    """The centre of a primary: calls go to it as texts, and its answers are read from texts; questions go to it."""

    def __init__(self, primary):
        self.primary = primary

    def __getattr__(self, name):
        return getattr(self.primary.centre(), name)

    def ask(self, *call):
        answer = self.primary.respond(call_text(call))
        if answer.startswith("ERROR"):
            raise Refused(answer)
        return answer

    def enter(self, requests):
        answer = self.ask("enter", requests)
        if answer.startswith("REFUSED"):
            return None, answer.split("\n")[1:]
        return tuple(map(int, answer.split(" ")[1:])), []

    def solve(self, by, flight, changes, tick):
        answer = self.ask("solve", by, flight, changes, tick)
        if answer.startswith("NONE"):
            return None, answer.split("\n")[1:]
        return read_message(answer), []

    def hear(self, message):
        answer = self.ask("hear", message)
        return None if answer == "SILENCE" else read_message(answer)

    def give(self, flight, by, to):
        return self.handover(self.ask("give", flight, by, to))

    def pass_on(self, flight, message):
        return self.handover(self.ask("pass_on", flight, message))

    def handover(self, answer):
        if answer == "SILENCE":
            return None
        word, number, one, other = answer.split(" ")
        return word.lower(), int(number), one, other

    def advance(self, plots):
        word, tick, *names = self.ask("advance", plots).split(" ")
        assert (word, int(tick)) == ("TICK", self.now()) and len(names) == len(plots)
        return ["" if name == "-" else name for name in names]


class WholeRun(Simulation):
    """A simulation with two radars, whose offsets are hardly known at first, and with a standby."""

    def __init__(self, seed):
        super().__init__(seed)
        self.radars = random.Random(seed + 1000)
        self.chart = read_chart(chart_text(self.chart))
        self.primary, self.standby, self.lines = Primary(self.chart, self.rules, self.winds), Standby(), []
        self.centre = TextCentre(self.primary)
        self.errors = [60, 70]
        self.offsets = [(self.radars.randint(-160, 160), self.radars.randint(-160, 160)) for _ in self.errors]
        # At first the offset of the one radar is known well enough, and that of the other is not.
        self.desk = Desk(self.rules, self.errors, [
            (ox - self.radars.randint(0, doubt), ox + doubt, oy - doubt, oy + self.radars.randint(0, doubt))
            for doubt, (ox, oy) in zip((40, 75), self.offsets)
        ])
        self.frames, self.lost, self.passed, self.held_back = [0, 0], [0, 0], 0, 0

    def raw_plot(self, one, radar):
        """Return a plot of an aircraft as a radar with an offset tells it."""
        error, height = self.errors[radar], self.rules["height"]
        x, y, d = one.place(self)
        while True:
            dx, dy = [self.radars.choice((-error, error, self.radars.randint(-error, error))) for _ in range(2)]
            plot = (x // d + dx, y // d + dy)
            if (plot[0] * d - x) ** 2 + (plot[1] * d - y) ** 2 <= (error * d) ** 2:
                ox, oy = self.offsets[radar]
                return plot[0] + ox, plot[1] + oy, one.height() + self.radars.randint(-height, height)

    def raw_plots(self):
        """Return tuples of an aircraft, a radar and its plot."""
        rows, now = [], self.centre.now() + 1
        there = [one for one in self.aircraft.values() if one.entry <= now and one.out_at is None and one.progress >= 0]
        for one in there + self.foreign:
            for radar in (0, 1):
                if self.radars.random() < 0.4:
                    plot = self.raw_plot(one, radar)
                    better, _ = corrected(self.rules, self.desk.estimate(radar), plot)
                    if not isinstance(one, Foreign) or not self.fits_somebody(better):
                        rows.append((one, radar, plot))
        self.radars.shuffle(rows)
        return rows

    def send(self, radar, plot):
        """Return the frame of a plot, perhaps damaged, and whether it is whole."""
        x, y, z = plot
        frame = frame_of((x, y, encode(z + 1000) - 32768), self.frames[radar] % 256)
        self.frames[radar] += 1
        if self.radars.random() < 0.1:
            at = self.radars.randrange(11)
            frame[at] = (frame[at] + self.radars.choice((1, -1, 7))) % 256
            return frame, False
        return frame, True

    def received(self):
        """Let the desk receive the plots of a tick in pieces; return (aircraft, plot) for those that it passes on."""
        numbers, whole, found = [[], []], [[], []], []
        for one, radar, plot in self.raw_plots():
            frame, right = self.send(radar, plot)
            numbers[radar] += frame + [3] * self.radars.choice((0, 0, 5))
            if right:
                whole[radar].append((one, plot))
        for radar in (0, 1):
            plots, at = [], 0
            before = self.desk.held_back(radar)
            while at < len(numbers[radar]):
                many = self.radars.randint(1, 30)
                plots += self.desk.receive(radar, numbers[radar][at:at + many])
                at += many
            if plots:
                assert len(plots) == len(whole[radar])
                found += [(one, plot) for (one, _), plot in zip(whole[radar], plots)]
            else:
                assert self.desk.held_back(radar) - before == len(whole[radar])
        self.passed += len(found)
        self.radars.shuffle(found)
        self.learned = [(radar, one, plot) for radar in (0, 1) for one, plot in whole[radar]]
        return found

    def learn(self):
        """Narrow the estimates by plots of aircraft whose course is known."""
        for radar, one, plot in self.learned:
            courses = self.centre.view(one.name)["courses"] if not isinstance(one, Foreign) else []
            if len(courses) == 1 and courses[0][1] is not None:
                course, box = courses[0]
                assert self.desk.learn(radar, self.path(course), box, plot)
                x1, x2, y1, y2 = self.desk.estimate(radar)
                assert x1 <= self.offsets[radar][0] <= x2 and y1 <= self.offsets[radar][1] <= y2

    def advance(self):
        self.move()
        pairs = self.received()
        names = self.centre.advance([plot for _, plot in pairs])
        self.plotted = [(one, plot, name) for (one, plot), name in zip(pairs, names)]
        self.learn()
        self.feed()

    def feed(self):
        """Let the standby hear some lines, of this tick or earlier ones."""
        self.lines += self.primary.feed().messages()
        for _ in range(self.radars.randint(0, 6)):
            if self.lines:
                told = self.standby.hear(self.radars.choice(self.lines[-9:]))
                if self.radars.random() < 0.8:
                    self.primary.feed().hear(told)


class WholeProgramTest(test_runs.RunTest):
    def run_once(self, seed, ticks):
        sim = WholeRun(seed)
        sim.seen, sim.loads = [], {}
        for _ in range(ticks):
            sim.advance()
            self.check(sim)
            sim.act()
        return sim

    def check_sectors(self, sim):
        sim.loads = {}
        super().check_sectors(sim)

    def test_long_runs(self):
        counts = {}
        for seed in (3, 5):
            sim = self.run_once(seed, 120)
            self.assertGreater(sim.passed, 200)
            self.assertGreater(sum(sim.desk.held_back(radar) for radar in (0, 1)), 5)
            self.assertGreater(sum(sim.desk.lost(radar) for radar in (0, 1)), 10)
            self.check_standby(sim)
            for word, many in sim.counts.items():
                counts[word] = counts.get(word, 0) + many
        for word, least in (("taken", 5), ("not", 5), ("admitted", 20), ("refused", 20), ("landed", 10), ("handed", 2)):
            self.assertGreater(counts[word], least, counts)

    def check_standby(self, sim):
        """The standby has the first calls; once it has all of them, it is the same centre, and so is a replay."""
        centre, parts = sim.primary.centre(), (sim.chart, sim.rules, sim.winds)
        log = centre.log()
        calls = sim.standby.calls()
        self.assertEqual(calls, log[:len(calls)])
        self.assertGreaterEqual(len(calls), sim.primary.feed().safe())
        self.assertGreater(len(calls), 20)
        while sim.primary.feed().safe() < len(log):
            for message in sim.primary.feed().messages():
                sim.primary.feed().hear(sim.standby.hear(message))
        expected = state(centre)
        self.assertEqual(state(take_over(*parts, sim.standby)), expected)
        self.assertEqual(state(replay(*parts, read_journal(journal_text(log)))), expected)


if __name__ == "__main__":
    unittest.main()
