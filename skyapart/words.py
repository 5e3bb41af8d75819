"""Texts of words with one blank between each two, read from the left."""
from skyapart.chart import DIGITS, is_name
from skyapart.errors import TextError

MOST_DIGITS = 9
# The word between two requests or two changes in one text.
SLASH = "/"


def is_number(word):
    """Tell whether a word is a number: decimal digits without leading zeros."""
    if not 1 <= len(word) <= MOST_DIGITS or (word[0] == "0" and word != "0"):
        return False
    return all(letter in DIGITS for letter in word)


def is_signed(word):
    """Tell whether a word is a number, with `-` in front if it is negative."""
    if word.startswith("-"):
        return word != "-0" and is_number(word[1:])
    return is_number(word)


class Words:
    """The words of a text. Where one is wrong, missing or too many, TextError has its index."""

    def __init__(self, text):
        self._words = text.split(" ")
        self._at = 0

    def more(self):
        """Tell whether there are words that have not been read."""
        return self._at < len(self._words)

    def comes(self, word):
        """Tell whether a word is the next one."""
        return self.more() and self._words[self._at] == word

    def read_word(self, choices):
        """Read a word that must be one of the choices."""
        if not self.more() or self._words[self._at] not in choices:
            raise TextError(self._at)
        return self._read()

    def read_name(self):
        """Read a name."""
        if not self.more() or not is_name(self._words[self._at]):
            raise TextError(self._at)
        return self._read()

    def read_number(self):
        """Read a number."""
        if not self.more() or not is_number(self._words[self._at]):
            raise TextError(self._at)
        return int(self._read())

    def read_signed(self):
        """Read a signed number."""
        if not self.more() or not is_signed(self._words[self._at]):
            raise TextError(self._at)
        return int(self._read())

    def end(self):
        """Check that there are no more words."""
        if self.more():
            raise TextError(self._at)

    def _read(self):
        self._at += 1
        return self._words[self._at - 1]


def read_whole(text, read):
    """Return what a function reads from the words of a text. No words may be left."""
    words = Words(text)
    found = read(words)
    words.end()
    return found
