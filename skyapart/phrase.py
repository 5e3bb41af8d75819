"""Texts of clearances and of their changes."""
from skyapart.words import SLASH, read_whole


def clearance_text(clearance):
    """Return the text of a clearance."""
    flight, number, tick, change = clearance
    return f"{flight} {number} AT {tick} {change_text(change)}"


def read_clearance(text):
    """Return the clearance whose text it is."""
    return read_whole(text, clearance_of)


def change_text(change):
    """Return the text of a change."""
    what, value = change
    if what == "route":
        return "ROUTE " + " ".join(value)
    return f"{what.upper()} {value}"


def clearance_of(words):
    """Read the words of a clearance."""
    flight = words.read_name()
    number = words.read_number()
    words.read_word(("AT",))
    tick = words.read_number()
    return flight, number, tick, change_of(words)


def change_of(words):
    """Read the words of a change. The names of a route go on up to a slash or the end of the text."""
    what = words.read_word(("LEVEL", "SPEED", "ROUTE"))
    if what != "ROUTE":
        return what.lower(), words.read_number()
    names = [words.read_name(), words.read_name()]
    while words.more() and not words.comes(SLASH):
        names.append(words.read_name())
    return "route", tuple(names)
