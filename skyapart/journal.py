"""Journals: the calls of a log in lines with sums, so that a part of a line is not taken for a line."""
from skyapart.calls import call_text, read_call
from skyapart.errors import TextError

MODULUS = 9973


def text_sum(text):
    """Return the sum of a text."""
    return sum((position + 1) * ord(letter) for position, letter in enumerate(text)) % MODULUS


def line_of(number, call):
    """Return the line of a call without its newline."""
    text = call_text(call)
    return f"{number} {text_sum(text)} {text}"


def journal_text(log):
    """Return the journal of a list of calls."""
    return "".join([line_of(number, call) + "\n" for number, call in enumerate(log)])


def read_line(number, line):
    """Return the call of a line without newline that must have this number, or None if it is no such line."""
    told_number, _, rest = line.partition(" ")
    told_sum, _, text = rest.partition(" ")
    if told_number != str(number) or told_sum != str(text_sum(text)):
        return None
    try:
        return read_call(text)
    except TextError:
        return None


def read_journal(text):
    """Return the calls of the lines ahead of the first one that is not whole or not right."""
    *lines, _ = text.split("\n")
    calls = []
    for line in lines:
        call = read_line(len(calls), line)
        if call is None:
            break
        calls.append(call)
    return calls
