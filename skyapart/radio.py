"""Texts of the messages between the centre and its pilots."""
from skyapart.phrase import clearance_of, clearance_text
from skyapart.words import read_whole

ABOUT_CLEARANCES = ("SAY", "READ", "CONFIRM")
ABOUT_NUMBERS = ("ASK", "TAKEN", "NOT")


def message_text(message):
    """Return the text of a message."""
    word = message[0].upper()
    if word in ABOUT_CLEARANCES:
        return f"{word} {clearance_text(message[1])}"
    _, flight, number = message
    return f"{word} {flight} {number}"


def read_message(text):
    """Return the message whose text it is."""
    return read_whole(text, message_of)


def message_of(words):
    """Read the words of a message."""
    word = words.read_word(ABOUT_CLEARANCES + ABOUT_NUMBERS)
    if word in ABOUT_CLEARANCES:
        return word.lower(), clearance_of(words)
    return word.lower(), words.read_name(), words.read_number()
