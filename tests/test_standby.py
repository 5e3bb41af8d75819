"""Point 64: the feed and the standby."""
import copy
import random
import unittest

from skyapart.journal import journal_text, line_of, text_sum
from skyapart.standby import Feed, Standby
from tests.test_calls import PAIRS, random_call

LOG = [call for _, call, _ in PAIRS]


def fed(calls):
    feed = Feed()
    for call in calls:
        feed.add(call)
    return feed


class FeedTest(unittest.TestCase):
    def test_beginning(self):
        feed = Feed()
        self.assertEqual(feed.safe(), 0)
        self.assertEqual(feed.messages(), [])

    def test_messages(self):
        for many in range(8):
            feed = fed(LOG[:many])
            self.assertEqual(feed.messages(), [(number, line_of(number, call)) for number, call in enumerate(LOG[:min(many, 4)])])
            self.assertEqual(feed.safe(), 0)

    def test_example(self):
        feed = fed([("advance", [])])
        self.assertEqual(feed.messages(), [(0, "0 1994 ADVANCE")])

    def test_from_the_safe_number_on(self):
        feed = fed(LOG[:10])
        lines = journal_text(LOG[:10]).split("\n")
        for safe in range(11):
            feed.hear(safe)
            self.assertEqual(feed.safe(), safe)
            self.assertEqual(feed.messages(), [(number, lines[number]) for number in range(safe, min(safe + 4, 10))])

    def test_greatest_answer(self):
        feed = fed(LOG[:6])
        for answer, safe in ((0, 0), (2, 2), (1, 2), (0, 2), (2, 2), (5, 5), (4, 5), (6, 6), (3, 6), (0, 6)):
            self.assertIsNone(feed.hear(answer))
            self.assertEqual(feed.safe(), safe)
            self.assertEqual([number for number, _ in feed.messages()], list(range(safe, min(safe + 4, 6))))

    def test_all_safe_and_then_more(self):
        feed = fed(LOG[:3])
        feed.hear(3)
        self.assertEqual(feed.messages(), [])
        feed.add(LOG[3])
        self.assertEqual(feed.messages(), [(3, line_of(3, LOG[3]))])
        self.assertEqual(feed.safe(), 3)

    def test_messages_can_be_repeated(self):
        feed = fed(LOG[:6])
        self.assertEqual(feed.messages(), feed.messages())

    def test_call_changed_afterwards(self):
        plots, changes = [(1, 2, 3)], [("level", 5)]
        feed = Feed()
        self.assertIsNone(feed.add(("advance", plots)))
        feed.add(("solve", "S", "AB1", changes, 30))
        expected = feed.messages()
        plots.clear()
        changes.append(("speed", 9))
        self.assertEqual(feed.messages(), expected)
        self.assertEqual(expected[0], (0, line_of(0, ("advance", [(1, 2, 3)]))))

    def test_call_stays(self):
        for call in LOG:
            before = copy.deepcopy(call)
            fed([call]).messages()
            self.assertEqual(call, before)

    def test_messages_changed_afterwards(self):
        feed = fed(LOG[:6])
        expected = feed.messages()
        feed.messages().clear()
        feed.messages()[0] = "x"
        self.assertEqual(feed.messages(), expected)


class StandbyTest(unittest.TestCase):
    def heard(self, many):
        standby = Standby()
        for number, call in enumerate(LOG[:many]):
            self.assertEqual(standby.hear((number, line_of(number, call))), number + 1)
        return standby

    def nothing(self, standby, message):
        """Check that a message is answered, but that nothing is taken."""
        before = standby.calls()
        self.assertEqual(standby.hear(message), len(before), message)
        self.assertEqual(standby.calls(), before)

    def test_beginning(self):
        self.assertEqual(Standby().calls(), [])

    def test_in_order(self):
        for many in range(len(LOG) + 1):
            self.assertEqual(self.heard(many).calls(), LOG[:many])

    def test_other_numbers(self):
        for many in (0, 1, 5):
            standby = self.heard(many)
            for number in range(len(LOG)):
                if number != many:
                    self.nothing(standby, (number, line_of(number, LOG[number])))

    def test_message_and_line_with_different_numbers(self):
        standby = self.heard(2)
        for number in (0, 1, 3, 4, -1, 20):
            self.nothing(standby, (number, line_of(2, LOG[2])))
            self.nothing(standby, (2, line_of(number, LOG[2])))
        self.assertEqual(standby.hear((2, line_of(2, LOG[2]))), 3)

    def test_call_that_it_has_already(self):
        standby = self.heard(5)
        for number in range(5):
            self.nothing(standby, (number, line_of(number, LOG[number])))
            self.nothing(standby, (number, line_of(number, LOG[7])))

    def test_changed_sign(self):
        for many in (0, 4, 9, 12):
            standby, line = self.heard(many), line_of(many, LOG[many])
            for at in range(len(line)):
                for sign in "0 9AZ/-x\u00e4":
                    if sign != line[at]:
                        self.nothing(standby, (many, line[:at] + sign + line[at + 1:]))
            self.assertEqual(standby.hear((many, line)), many + 1)

    def test_lines_that_are_none(self):
        standby = self.heard(3)
        line = line_of(3, LOG[3])
        for wrong in ("", " ", "3", "3 ", line + " ", line + "\n", " " + line, line[:-1], line[1:], "03" + line[1:],
                      f"3 {text_sum('X')} X", f"3 {text_sum('ADVANCE 1')} ADVANCE 1"):
            self.nothing(standby, (3, wrong))

    def test_another_call_with_the_right_number(self):
        # The standby cannot know better: the line is right.
        standby = self.heard(3)
        self.assertEqual(standby.hear((3, line_of(3, LOG[9]))), 4)
        self.assertEqual(standby.calls(), LOG[:3] + [LOG[9]])

    def test_calls_changed_afterwards(self):
        standby = self.heard(len(LOG))
        calls = standby.calls()
        for call in calls:
            if isinstance(call[1], list):
                call[1].append("x")
            if call[0] == "solve":
                call[3].clear()
        calls.clear()
        self.assertEqual(standby.calls(), LOG)

    def test_two_standbys(self):
        one, other = self.heard(3), Standby()
        self.assertEqual((len(one.calls()), other.calls()), (3, []))


class LongRunTest(unittest.TestCase):
    """Lines and answers are lost, late, repeated, exchanged, and some lines are changed."""

    def drawn(self, chance, sent):
        heard = []
        for message in list(sent):
            if chance.random() < 0.5:
                sent.remove(message)
                if chance.random() < 0.7:
                    heard.append(message)
            elif chance.random() < 0.2:
                heard.append(message)
        chance.shuffle(heard)
        return heard

    def changed(self, chance, message):
        number, line = message
        if chance.random() < 0.1:
            at = chance.randrange(len(line))
            # A change of one sign is always told by the sum, or it is none.
            line = line[:at] + chance.choice(" 0123456789ABZ/") + line[at + 1:]
        elif chance.random() < 0.05:
            number += chance.choice((-1, 1))
        return number, line

    def run_once(self, seed):
        chance = random.Random(seed)
        feed, standby, added, answers, lines, most = Feed(), Standby(), [], [], [], 0
        for _ in range(250):
            for _ in range(chance.choice((0, 0, 1, 1, 3))):
                added.append(random_call(chance))
                feed.add(added[-1])
            messages = feed.messages()
            most = max(most, len(added) - feed.safe())
            self.assertEqual(messages, [
                (number, line_of(number, added[number])) for number in range(feed.safe(), min(feed.safe() + 4, len(added)))
            ])
            lines += messages
            for message in self.drawn(chance, lines):
                message = self.changed(chance, message)
                answers.append(standby.hear(message))
                self.assertEqual(answers[-1], len(standby.calls()))
            for answer in self.drawn(chance, answers):
                before = feed.safe()
                feed.hear(answer)
                self.assertEqual(feed.safe(), max(before, answer))
            calls = standby.calls()
            self.assertEqual(calls, added[:len(calls)])
            self.assertLessEqual(feed.safe(), len(calls))
        # When the channel is good again, the standby gets all of it.
        while feed.safe() < len(added):
            before = feed.safe()
            for message in feed.messages():
                feed.hear(standby.hear(message))
            self.assertGreater(feed.safe(), before)
        self.assertEqual(standby.calls(), added)
        return most

    def test_long_runs(self):
        self.assertGreater(max(self.run_once(seed) for seed in range(8)), 8)


if __name__ == "__main__":
    unittest.main()
