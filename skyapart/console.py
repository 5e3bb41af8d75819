"""The console: a centre is told its calls, and gives its answers, in texts."""
from skyapart.calls import handover_text, read_call
from skyapart.errors import ClearError, ConflictError, HandoverError, RequestError, TextError
from skyapart.phrase import change_text
from skyapart.radio import message_text
from skyapart.replay import perform

SILENCE = "SILENCE"


def respond(centre, text):
    """Let a centre do the call of a text; return the text of the answer."""
    try:
        call = read_call(text)
    except TextError as error:
        return _told(("error", "text", error.at))
    try:
        return _answer_text(centre, call[0], perform(centre, call))
    except ClearError as refused:
        return _told(("error", "clear", refused.code))
    except ConflictError as conflict:
        return _told(("error", "conflict", conflict.name, conflict.kind, conflict.tick))
    except RequestError as wrong:
        return _told(("error", "request", wrong.code, wrong.index))
    except HandoverError as stopped:
        return _told(("error", "handover", stopped.code))


def _told(parts):
    """Return the words for codes, kinds, names and numbers. Names have no small letters: all may be capitals."""
    return " ".join([str(part).upper() for part in parts])


def _answer_text(centre, what, answer):
    match what:
        case "enter":
            return _entered_text(answer)
        case "solve":
            return _solved_text(answer)
        case "advance":
            return _advanced_text(centre.now(), answer)
        case "give" | "pass_on":
            return SILENCE if answer is None else handover_text(answer)
    return SILENCE if answer is None else message_text(answer)


def _entered_text(answer):
    choice, refutation = answer
    if choice is not None:
        return _told(("admitted", *choice))
    return "\n".join(["REFUSED"] + [_row_text(prefix, reason) for prefix, reason in refutation])


def _row_text(prefix, reason):
    dotted = ".".join([str(index) for index in prefix])
    return f"{dotted} {_told(reason)}"


def _solved_text(answer):
    message, reasons = answer
    if message is not None:
        return message_text(message)
    return "\n".join(["NONE"] + [f"{change_text(change)} {_told(reason)}" for change, reason in reasons])


def _advanced_text(now, names):
    return _told(("tick", now, *["-" if name == "" else name for name in names]))
