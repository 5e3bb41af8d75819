import random
import unittest

from skyapart.pilot import Pilot

COURSE = (("A", "B"), 100, 200)


def clearance(number, tick, change=("level", 300), flight="F1"):
    return flight, number, tick, change


class Case(unittest.TestCase):
    def setUp(self):
        self.pilot = Pilot("F1", COURSE)

    def hears(self, tick, message, answer=None):
        self.assertEqual(self.pilot.hear(message, tick), answer)

    def says(self, tick, said):
        """Let the pilot hear a clearance, which must be read back."""
        self.hears(tick, ("say", said), ("read", said))

    def begins(self, tick, message=None):
        self.assertEqual(self.pilot.begin_tick(tick), message)

    def flies(self, level=200, speed=100, route=("A", "B")):
        self.assertEqual(self.pilot.course(), (route, speed, level))


class TakeTest(Case):
    def test_nothing_heard(self):
        for tick in range(5):
            self.begins(tick)
        self.flies()

    def test_whole_way(self):
        given = clearance(1, 10)
        self.says(3, given)
        self.hears(5, ("confirm", given))
        for tick in range(6, 10):
            self.begins(tick)
            self.flies()
        self.begins(10, ("taken", "F1", 1))
        self.flies(level=300)
        self.begins(10)
        self.begins(11)
        self.flies(level=300)

    def test_each_change(self):
        for number, (change, course) in enumerate((
            (("level", 50), {"level": 50}),
            (("speed", 70), {"level": 50, "speed": 70}),
            (("route", ("A", "C", "D")), {"level": 50, "speed": 70, "route": ("A", "C", "D")}),
        ), 1):
            given = clearance(number, 10 * number, change)
            self.says(10 * number - 1, given)
            self.hears(10 * number - 1, ("confirm", given))
            self.begins(10 * number, ("taken", "F1", number))
            self.flies(**course)

    def test_begin_behind_the_tick(self):
        given = clearance(4, 10)
        self.says(3, given)
        self.hears(5, ("confirm", given))
        self.begins(17, ("taken", "F1", 4))
        self.flies(level=300)
        self.begins(18)

    def test_only_heard(self):
        self.says(3, clearance(1, 10))
        for tick in range(4, 14):
            self.begins(tick)
        self.flies()

    def test_messages_about_other_flights(self):
        given = clearance(1, 10, flight="F2")
        self.hears(3, ("say", given))
        self.hears(3, ("confirm", given))
        self.hears(3, ("ask", "F2", 1))
        self.begins(10)
        self.says(10, clearance(1, 20))
        self.hears(11, ("ask", "F2", 1))
        self.hears(12, ("confirm", clearance(1, 20)))
        self.begins(20, ("taken", "F1", 1))

    def test_messages_of_pilots(self):
        given = clearance(1, 10)
        self.says(3, given)
        for message in (("read", given), ("taken", "F1", 1), ("not", "F1", 1), ("read", clearance(2, 12))):
            self.hears(4, message)
        self.hears(5, ("confirm", given))
        for message in (("read", given), ("taken", "F1", 1), ("not", "F1", 1)):
            self.hears(6, message)
        self.begins(10, ("taken", "F1", 1))


class SayTest(Case):
    def test_tick_of_the_clearance(self):
        self.hears(10, ("say", clearance(1, 10)))
        self.hears(11, ("say", clearance(1, 10)))
        self.hears(9, ("say", clearance(1, 10)), ("read", clearance(1, 10)))

    def test_number_0(self):
        self.hears(3, ("say", clearance(0, 10)))
        self.hears(4, ("confirm", clearance(0, 10)))
        self.begins(10)
        self.flies()

    def test_late_one_is_not_heard(self):
        self.hears(10, ("say", clearance(1, 10)))
        self.hears(10, ("confirm", clearance(1, 10)))
        self.begins(11)
        self.flies()

    def test_repeated(self):
        self.says(3, clearance(1, 10))
        self.says(4, clearance(1, 10))
        self.hears(5, ("confirm", clearance(1, 10)))
        self.begins(10, ("taken", "F1", 1))

    def test_later_one_of_the_same_number(self):
        self.says(3, clearance(1, 10))
        self.says(4, clearance(1, 10, ("level", 250)))
        self.hears(5, ("confirm", clearance(1, 10)))
        self.begins(10)
        self.hears(5, ("confirm", clearance(1, 10, ("level", 250))))
        self.begins(10, ("taken", "F1", 1))
        self.flies(level=250)

    def test_greater_number(self):
        self.says(3, clearance(1, 10))
        self.says(4, clearance(2, 11))
        self.hears(5, ("confirm", clearance(1, 10)))
        self.begins(10)
        self.hears(10, ("confirm", clearance(2, 11)))
        self.begins(11, ("taken", "F1", 2))

    def test_lesser_number_than_the_heard_one(self):
        self.says(3, clearance(2, 11))
        self.hears(4, ("say", clearance(1, 10)))
        self.hears(4, ("confirm", clearance(1, 10)))
        self.hears(5, ("confirm", clearance(2, 11)))
        self.begins(10)
        self.begins(11, ("taken", "F1", 2))

    def test_not_beside_a_next_one(self):
        self.says(3, clearance(1, 10))
        self.hears(3, ("confirm", clearance(1, 10)))
        self.hears(4, ("say", clearance(1, 10)))
        self.hears(4, ("say", clearance(2, 12)))
        self.hears(4, ("confirm", clearance(2, 12)))
        self.begins(10, ("taken", "F1", 1))
        self.says(10, clearance(2, 12))
        self.hears(11, ("confirm", clearance(2, 12)))
        self.begins(12, ("taken", "F1", 2))

    def test_not_up_to_done(self):
        self.says(3, clearance(5, 10))
        self.hears(3, ("confirm", clearance(5, 10)))
        self.begins(10, ("taken", "F1", 5))
        self.hears(10, ("say", clearance(5, 20)))
        self.hears(10, ("say", clearance(4, 20)))
        self.says(10, clearance(6, 20))


class ConfirmTest(Case):
    def test_tick_of_the_clearance(self):
        self.says(3, clearance(1, 10))
        self.hears(10, ("confirm", clearance(1, 10)))
        self.begins(10)
        self.hears(11, ("confirm", clearance(1, 10)))
        self.begins(12)
        self.flies()

    def test_last_tick(self):
        self.says(3, clearance(1, 10))
        self.hears(9, ("confirm", clearance(1, 10)))
        self.begins(10, ("taken", "F1", 1))

    def test_not_equal(self):
        self.says(3, clearance(1, 10))
        for other in (clearance(2, 10), clearance(1, 11), clearance(1, 10, ("level", 301)), clearance(1, 10, ("speed", 300))):
            self.hears(4, ("confirm", other))
        for tick in range(4, 14):
            self.begins(tick)
        self.flies()

    def test_before_say(self):
        self.hears(3, ("confirm", clearance(1, 10)))
        self.says(4, clearance(1, 10))
        self.begins(10)
        self.flies()

    def test_read_is_no_confirm(self):
        self.says(3, clearance(1, 10))
        self.hears(4, ("read", clearance(1, 10)))
        self.begins(10)
        self.flies()

    def test_twice(self):
        self.says(3, clearance(1, 10))
        self.hears(4, ("confirm", clearance(1, 10)))
        self.hears(5, ("confirm", clearance(1, 10)))
        self.begins(10, ("taken", "F1", 1))
        self.hears(10, ("confirm", clearance(1, 10)))
        self.begins(11)

    def test_heard_one_is_gone(self):
        self.says(3, clearance(1, 10))
        self.hears(4, ("confirm", clearance(1, 10)))
        self.begins(10, ("taken", "F1", 1))
        self.hears(9, ("confirm", clearance(1, 10)))
        self.begins(11)


class AskTest(Case):
    def test_never_heard(self):
        self.hears(3, ("ask", "F1", 2), ("not", "F1", 2))
        self.hears(4, ("say", clearance(2, 10)))
        self.hears(4, ("say", clearance(1, 10)))
        self.says(4, clearance(3, 10))

    def test_heard_one_is_dropped(self):
        self.says(3, clearance(2, 10))
        self.hears(4, ("ask", "F1", 2), ("not", "F1", 2))
        self.hears(5, ("confirm", clearance(2, 10)))
        self.begins(10)
        self.hears(6, ("say", clearance(2, 10)))
        self.hears(6, ("confirm", clearance(2, 10)))
        self.begins(10)
        self.flies()

    def test_heard_one_with_a_lesser_number_is_dropped(self):
        self.says(3, clearance(1, 10))
        self.hears(4, ("ask", "F1", 2), ("not", "F1", 2))
        self.hears(5, ("confirm", clearance(1, 10)))
        self.begins(10)

    def test_heard_one_with_a_greater_number_stays(self):
        self.says(3, clearance(3, 10))
        self.hears(4, ("ask", "F1", 2), ("not", "F1", 2))
        self.hears(5, ("confirm", clearance(3, 10)))
        self.begins(10, ("taken", "F1", 3))

    def test_next_one(self):
        self.says(3, clearance(2, 10))
        self.hears(4, ("confirm", clearance(2, 10)))
        self.hears(5, ("ask", "F1", 2))
        self.begins(10, ("taken", "F1", 2))
        self.hears(10, ("ask", "F1", 2), ("taken", "F1", 2))
        self.hears(11, ("ask", "F1", 2), ("taken", "F1", 2))
        self.hears(11, ("ask", "F1", 1), ("not", "F1", 1))

    def test_other_number_than_the_next_one(self):
        self.says(3, clearance(2, 10))
        self.hears(4, ("confirm", clearance(2, 10)))
        self.hears(5, ("ask", "F1", 1), ("not", "F1", 1))
        self.hears(5, ("ask", "F1", 4), ("not", "F1", 4))
        self.begins(10, ("taken", "F1", 2))
        self.flies(level=300)
        # Behind ("not", "F1", 4) nothing up to 4 is heard.
        self.hears(11, ("say", clearance(3, 20)))
        self.hears(11, ("say", clearance(4, 20)))
        self.says(11, clearance(5, 20))

    def test_done_does_not_shrink(self):
        self.hears(3, ("ask", "F1", 4), ("not", "F1", 4))
        self.hears(3, ("ask", "F1", 2), ("not", "F1", 2))
        self.hears(3, ("say", clearance(3, 20)))
        self.hears(3, ("say", clearance(4, 20)))
        self.says(3, clearance(5, 20))

    def test_all_that_were_taken(self):
        for number in (1, 3):
            given = clearance(number, 10 * number)
            self.says(10 * number - 2, given)
            self.hears(10 * number - 1, ("confirm", given))
            self.begins(10 * number, ("taken", "F1", number))
        for number, answer in ((1, "taken"), (2, "not"), (3, "taken"), (4, "not")):
            self.hears(40, ("ask", "F1", number), (answer, "F1", number))
            self.hears(40, ("ask", "F1", number), (answer, "F1", number))

    def test_done_of_taking(self):
        self.hears(1, ("ask", "F1", 1), ("not", "F1", 1))
        self.says(3, clearance(2, 10))
        self.hears(4, ("confirm", clearance(2, 10)))
        self.hears(5, ("ask", "F1", 7), ("not", "F1", 7))
        self.begins(10, ("taken", "F1", 2))
        self.hears(11, ("say", clearance(7, 20)))
        self.says(11, clearance(8, 20))


class LongRunTest(unittest.TestCase):
    """Pilots and a sender that confirms what was read back rightly, over a channel of the worst sort."""

    def changed(self, chance, message):
        """Return a message as it is heard: "say" and "read" may be heard wrongly."""
        if message[0] not in ("say", "read") or chance.random() < 0.7:
            return message
        flight, number, tick, change = message[1]
        return message[0], chance.choice((
            (flight, number + chance.randint(-1, 1), tick, change),
            (flight, number, tick + chance.randint(-3, 3), change),
            (flight, number, tick, ("level", chance.randint(0, 600))),
            ("F2", number, tick, change),
        ))

    def run_once(self, seed):
        chance = random.Random(seed)
        pilot, level = Pilot("F1", COURSE), 200
        to_pilot, to_centre = [], []
        number, now = 1, 0
        given, confirmed, taken, denied = {}, set(), {}, set()
        for now in range(1, 120):
            told = pilot.begin_tick(now)
            if told is not None:
                self.assertEqual(told[:2], ("taken", "F1"))
                # Only what was confirmed is taken, at its tick, once, and not behind "not".
                self.assertIn(told[2], confirmed)
                self.assertNotIn(told[2], taken)
                self.assertNotIn(told[2], denied)
                self.assertEqual(given[told[2]][2], now)
                taken[told[2]] = now
                level = given[told[2]][3][1]
                to_centre.append(told)
            self.assertEqual(pilot.course(), (("A", "B"), 100, level))
            if chance.random() < 0.2:
                given[number] = ("F1", number, now + chance.randint(2, 12), ("level", number))
                number += 1
            if given:
                one = given[chance.choice(sorted(given))]
                to_pilot.append(chance.choice((("say", one), ("say", one), ("ask", "F1", one[1]))))
            for _ in range(chance.randint(0, 4)):
                if to_pilot and chance.random() < 0.8:
                    at = chance.randrange(len(to_pilot))
                    message = self.changed(chance, to_pilot[at])
                    if chance.random() < 0.8:
                        del to_pilot[at]
                    answer = pilot.hear(message, now)
                    if answer is not None:
                        to_centre.append(answer)
                        if answer[0] == "not":
                            self.assertNotIn(answer[2], taken)
                            denied.add(answer[2])
                        if answer[0] == "taken":
                            self.assertIn(answer[2], taken)
                if to_centre:
                    message = self.changed(chance, to_centre.pop(chance.randrange(len(to_centre))))
                    if message[0] == "read" and given.get(message[1][1]) == message[1] and message[1][2] > now:
                        confirmed.add(message[1][1])
                        to_pilot.append(("confirm", message[1]))
        return len(taken), len(denied)

    def test_long_runs(self):
        taken, denied = zip(*[self.run_once(seed) for seed in range(300)])
        self.assertGreater(sum(taken), 100)
        self.assertGreater(sum(denied), 300)


if __name__ == "__main__":
    unittest.main()
