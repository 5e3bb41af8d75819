"""What tests of texts use: words that are wrong in one place or another, and a check of TextError."""
import unittest

from skyapart.errors import SkyError, TextError

WRONG_NAMES = ("", "1", "a", "A-", "ABCDEF", "\u00c4", "A\u0661", "A\n", "A\t", "/", "-", "9A", "Aa")
WRONG_NUMBERS = (
    "", "X", "-1", "+1", "-0", "00", "01", "1000000000", "0000000000", "1.0", "1_0", "\u0661", "\u00b2", "1\n", "0x1",
    "1e3", "/", "-", "1-",
)
WRONG_SIGNED = (
    "", "X", "-0", "+1", "00", "01", "-01", "-00", "--1", "-", "1000000000", "-1000000000",
    "1.0", "-1_0", "\u0661", "-\u0661", "\u22121", "1\n", "1-", "/",
)


def replaced(text, at, word):
    words = text.split(" ")
    words[at] = word
    return " ".join(words)


def cut(text, many):
    """Return the first words of a text."""
    return " ".join(text.split(" ")[:many])


class TextCase(unittest.TestCase):
    def wrong_text(self, read, at, text):
        """Check that a text cannot be read, and that this index is told."""
        with self.assertRaises(TextError) as caught:
            read(text)
        self.assertEqual(caught.exception.at, at, text)
        self.assertIsInstance(caught.exception, SkyError)

    def wrong_slots(self, read, text, slots):
        """Check wrong words at each place.

        In `slots`, n stands for a name, m for one that a slash may stand for, # for a number, s for a signed
        one, and = for a word that must stand there.
        """
        words = text.split(" ")
        self.assertEqual(len(words), len(slots), text)
        for at, slot in enumerate(slots):
            for word in self.wrong_words(words[at], slot):
                self.wrong_text(read, at, replaced(text, at, word))
                # The first wrong word counts, whatever is behind it.
                self.wrong_text(read, at, " ".join(words[:at] + [word] + ["?"] * 3))
            self.wrong_text(read, at, " ".join(words[:at] + [""] + words[at:]))

    def wrong_words(self, word, slot):
        if slot == "=":
            others = ("", "5", word.lower(), word + "X", word + "/", word + "\n")
            return [other for other in others if other != word]
        if slot == "m":
            return [other for other in WRONG_NAMES if other != "/"]
        return {"n": WRONG_NAMES, "#": WRONG_NUMBERS, "s": WRONG_SIGNED}[slot]
