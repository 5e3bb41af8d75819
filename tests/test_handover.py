import random
import unittest

from skyapart.errors import HandoverError, SkyError
from skyapart.handover import Responsibility


class Case(unittest.TestCase):
    def setUp(self):
        self.made = Responsibility(["A", "B", "C"], "A")

    def wrong(self, code, call, *arguments):
        before = self.state()
        with self.assertRaises(HandoverError) as caught:
            call(*arguments)
        self.assertEqual(caught.exception.code, code)
        self.assertIsInstance(caught.exception, SkyError)
        self.assertEqual(self.state(), before)

    def state(self):
        return self.made.responsible(), [self.made.acts(sector) for sector in "ABC"]

    def acting(self, sectors, responsible):
        self.assertEqual("".join(sector for sector in "ABCX" if self.made.acts(sector)), sectors)
        self.assertEqual(self.made.responsible(), responsible)


class ResponsibilityTest(Case):
    def test_beginning(self):
        self.acting("A", "A")
        self.made = Responsibility(["A", "B", "C"], "C")
        self.acting("C", "C")
        self.made = Responsibility(["A"], "A")
        self.acting("A", "A")
        self.assertIs(self.made.acts("A"), True)
        self.assertIs(self.made.acts("X"), False)

    def test_sectors_stay(self):
        sectors = ["A", "B"]
        self.made = Responsibility(sectors, "A")
        self.assertEqual(sectors, ["A", "B"])
        sectors.clear()
        self.assertEqual(self.made.give("A", "B"), ("give", 1, "A", "B"))

    def test_whole_way(self):
        message = self.made.give("A", "B")
        self.assertEqual(message, ("give", 1, "A", "B"))
        self.acting("", "A")
        answer = self.made.hear(message)
        self.assertEqual(answer, ("took", 1, "B", "A"))
        self.acting("B", "B")
        self.assertIsNone(self.made.hear(answer))
        self.acting("B", "B")
        self.assertEqual(self.made.give("B", "A"), ("give", 2, "B", "A"))
        self.acting("", "B")
        self.assertEqual(self.made.hear(("give", 2, "B", "A")), ("took", 2, "A", "B"))
        self.acting("A", "A")
        self.assertIsNone(self.made.hear(("took", 2, "A", "B")))
        self.assertEqual(self.made.give("A", "C"), ("give", 3, "A", "C"))

    def test_next_give_before_took_is_heard(self):
        self.made.hear(self.made.give("A", "B"))
        # A still gives, with the count 0; B, with the count 1, holds.
        self.assertEqual(self.made.give("B", "C"), ("give", 2, "B", "C"))
        self.assertEqual(self.made.hear(("give", 2, "B", "C")), ("took", 2, "C", "B"))
        self.acting("C", "C")
        self.assertEqual(self.made.repeat("A"), ("give", 1, "A", "B"))
        self.assertEqual(self.made.repeat("B"), ("give", 2, "B", "C"))
        self.assertIsNone(self.made.hear(("took", 1, "B", "A")))
        self.wrong("state", self.made.repeat, "A")
        self.acting("C", "C")

    def test_gives_back_to_one_that_still_gives(self):
        self.made.hear(self.made.give("A", "B"))
        self.assertEqual(self.made.hear(self.made.give("B", "A")), ("took", 2, "A", "B"))
        self.acting("A", "A")
        self.assertIsNone(self.made.hear(("took", 1, "B", "A")))
        self.acting("A", "A")
        self.assertEqual(self.made.give("A", "C"), ("give", 3, "A", "C"))

    def test_repeat(self):
        for _ in range(3):
            self.wrong("state", self.made.repeat, "A")
        self.made.give("A", "B")
        for _ in range(3):
            self.assertEqual(self.made.repeat("A"), ("give", 1, "A", "B"))
        self.made.hear(("give", 1, "A", "B"))
        self.assertEqual(self.made.repeat("A"), ("give", 1, "A", "B"))
        self.made.hear(("took", 1, "B", "A"))
        self.wrong("state", self.made.repeat, "A")
        self.wrong("state", self.made.repeat, "B")

    def test_repeated_and_late_give(self):
        self.made.give("A", "B")
        for _ in range(3):
            self.assertEqual(self.made.hear(("give", 1, "A", "B")), ("took", 1, "B", "A"))
            self.acting("B", "B")
        self.made.hear(("took", 1, "B", "A"))
        self.made.give("B", "C")
        self.assertEqual(self.made.hear(("give", 1, "A", "B")), ("took", 1, "B", "A"))
        self.acting("", "B")
        self.made.hear(("give", 2, "B", "C"))
        self.made.hear(("took", 2, "C", "B"))
        self.assertEqual(self.made.hear(("give", 1, "A", "B")), ("took", 1, "B", "A"))
        self.assertEqual(self.made.hear(("give", 2, "B", "C")), ("took", 2, "C", "B"))
        self.acting("C", "C")

    def test_took_of_others(self):
        self.made.give("A", "B")
        for number in (0, 2, 5):
            self.assertIsNone(self.made.hear(("took", number, "B", "A")))
            self.acting("", "A")
        self.made.hear(("took", 1, "B", "A"))
        self.acting("", "A")
        self.wrong("state", self.made.give, "A", "B")
        self.wrong("state", self.made.repeat, "A")

    def test_took_of_one_that_does_not_give(self):
        self.assertIsNone(self.made.hear(("took", 1, "B", "A")))
        self.acting("A", "A")
        self.assertIsNone(self.made.hear(("took", 1, "A", "B")))
        self.acting("A", "A")
        self.assertEqual(self.made.give("A", "B"), ("give", 1, "A", "B"))

    def test_repeated_took(self):
        self.made.hear(self.made.give("A", "B"))
        self.made.hear(("took", 1, "B", "A"))
        self.made.hear(self.made.give("B", "A"))
        self.made.give("A", "C")
        # A has the count 2 and gives; the old answer does not count.
        self.made.hear(("took", 1, "B", "A"))
        self.assertEqual(self.made.repeat("A"), ("give", 3, "A", "C"))
        self.acting("", "A")

    def test_count_of_one_that_gave(self):
        self.made.hear(self.made.give("A", "B"))
        self.made.hear(("took", 1, "B", "A"))
        self.assertEqual(self.made.hear(("give", 1, "C", "A")), ("took", 1, "A", "C"))
        self.acting("B", "B")

    def test_numbers_in_between(self):
        self.assertEqual(self.made.hear(("give", 7, "A", "B")), ("took", 7, "B", "A"))
        self.assertEqual(self.made.give("B", "C"), ("give", 8, "B", "C"))

    def test_errors_of_give(self):
        self.wrong("sector", self.made.give, "A", "X")
        self.wrong("sector", self.made.give, "X", "A")
        self.wrong("sector", self.made.give, "A", "A")
        self.wrong("sector", self.made.give, "B", "B")
        self.wrong("state", self.made.give, "B", "A")
        self.made.give("A", "B")
        self.wrong("state", self.made.give, "A", "B")
        self.wrong("sector", self.made.give, "A", "X")

    def test_errors_of_repeat(self):
        self.wrong("sector", self.made.repeat, "X")
        self.wrong("state", self.made.repeat, "B")

    def test_errors_of_hear(self):
        for what in ("give", "took"):
            self.wrong("sector", self.made.hear, (what, 1, "A", "X"))
            self.wrong("sector", self.made.hear, (what, 1, "X", "A"))
            self.wrong("sector", self.made.hear, (what, 1, "A", "A"))
            self.wrong("sector", self.made.hear, (what, 1, "X", "X"))


class Plain:
    """Point 44 once more, with one row for each sector."""

    def __init__(self, sectors, first):
        self.rows = {sector: [0, "holds" if sector == first else "rests", None] for sector in sectors}

    def give(self, by, to):
        self.rows[by][1:] = ["gives", to]
        return self.repeat(by)

    def repeat(self, by):
        return "give", self.rows[by][0] + 1, by, self.rows[by][2]

    def hear(self, message):
        what, number, sender, hearer = message
        row = self.rows[hearer]
        if what == "give":
            if number > row[0]:
                row[:] = [number, "holds", None]
            return "took", number, hearer, sender
        if row[1] == "gives" and number == row[0] + 1:
            row[:] = [number, "rests", None]
        return None

    def ranks(self):
        return {sector: 2 * count + (state != "rests") for sector, (count, state, _) in self.rows.items()}


class LongRunTest(unittest.TestCase):
    def run_once(self, seed):
        chance = random.Random(seed)
        sectors = ["A", "B", "C", "D"][:chance.randint(2, 4)]
        first = chance.choice(sectors)
        made, plain, sent, gives = Responsibility(sectors, first), Plain(sectors, first), [], 0
        for _ in range(200):
            by, to = chance.choice(sectors), chance.choice(sectors)
            if chance.random() < 0.4 and made.acts(by) and by != to:
                sent.append(made.give(by, to))
                self.assertEqual(plain.give(by, to), sent[-1])
                gives += 1
            elif chance.random() < 0.3 and plain.rows[by][1] == "gives":
                sent.append(made.repeat(by))
                self.assertEqual(plain.repeat(by), sent[-1])
            elif sent:
                at = chance.randrange(len(sent))
                message = sent[at]
                if chance.random() < 0.7:
                    del sent[at]
                if chance.random() < 0.8:
                    answer = made.hear(message)
                    self.assertEqual(plain.hear(message), answer)
                    if answer is not None:
                        sent.append(answer)
            ranks = plain.ranks()
            best = [sector for sector in sectors if ranks[sector] == max(ranks.values())]
            self.assertEqual([made.responsible()], best)
            acting = [sector for sector in sectors if made.acts(sector)]
            self.assertEqual(acting, [sector for sector in sectors if plain.rows[sector][1] == "holds"])
            self.assertIn(acting, ([], best))
        return gives

    def test_long_runs(self):
        self.assertGreater(sum(self.run_once(seed) for seed in range(150)), 1500)


if __name__ == "__main__":
    unittest.main()
