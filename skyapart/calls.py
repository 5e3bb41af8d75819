"""The calls of a log, and their texts."""
from skyapart.phrase import change_of, change_text
from skyapart.radio import message_of, message_text
from skyapart.requests import request_of, request_text
from skyapart.words import SLASH, read_whole

CALLS = ("ENTER", "SAY", "SOLVE", "HEAR", "GIVE", "PASS", "ADVANCE")
HANDOVERS = ("GIVE", "TOOK")


def call_text(call):
    """Return the text of a call."""
    match call:
        case ("enter", requests):
            return _with_entries("ENTER", requests, request_text)
        case ("say", by, flight, change, tick):
            return f"SAY {by} {flight} {tick} {change_text(change)}"
        case ("solve", by, flight, changes, tick):
            return _with_entries(f"SOLVE {by} {flight} {tick}", changes, change_text)
        case ("hear", message):
            return f"HEAR {message_text(message)}"
        case ("give", flight, by, to):
            return f"GIVE {flight} {by} {to}"
        case ("pass_on", flight, message):
            return f"PASS {flight} {handover_text(message)}"
    return " ".join(["ADVANCE"] + [str(number) for plot in call[1] for number in plot])


def read_call(text):
    """Return the call whose text it is."""
    return read_whole(text, _call_of)


def handover_text(message):
    """Return the text of a message between two sectors."""
    what, number, sender, hearer = message
    return f"{what.upper()} {number} {sender} {hearer}"


def copied_call(call):
    """Return a call with new lists."""
    return tuple([list(part) if isinstance(part, list) else part for part in call])


def _with_entries(begin, entries, text_of):
    """Return a text that begins so, with the texts of entries behind it."""
    if not entries:
        return begin
    listed = " / ".join([text_of(entry) for entry in entries])
    return f"{begin} {listed}"


def _call_of(words):
    match words.read_word(CALLS):
        case "ENTER":
            return "enter", _entries_of(words, request_of)
        case "SAY":
            by, flight, tick = _begin_of_clearing(words)
            return "say", by, flight, change_of(words), tick
        case "SOLVE":
            by, flight, tick = _begin_of_clearing(words)
            return "solve", by, flight, _changes_of(words), tick
        case "HEAR":
            return "hear", message_of(words)
        case "GIVE":
            return "give", words.read_name(), words.read_name(), words.read_name()
        case "PASS":
            return "pass_on", words.read_name(), _handover_of(words)
    return "advance", _plots_of(words)


def _begin_of_clearing(words):
    return words.read_name(), words.read_name(), words.read_number()


def _changes_of(words):
    if not words.more():
        return []
    return _entries_of(words, change_of)


def _entries_of(words, read):
    """Read one entry or several ones, up to the end of the text."""
    entries = [read(words)]
    while words.more():
        words.read_word((SLASH,))
        entries.append(read(words))
    return entries


def _handover_of(words):
    return words.read_word(HANDOVERS).lower(), words.read_number(), words.read_name(), words.read_name()


def _plots_of(words):
    plots = []
    while words.more():
        plots.append((words.read_signed(), words.read_signed(), words.read_signed()))
    return plots
