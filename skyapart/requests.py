"""Requests: their check, their texts and their menus."""
from skyapart.chart import TOP_LEVEL, is_name
from skyapart.craft import is_kind
from skyapart.errors import RequestError, RouteError
from skyapart.routes import alternatives, with_loops
from skyapart.words import read_whole

LATEST_ENTRY = 90000
MOST_LATE = 10000
ENTRIES = (0, 8)
MOST_ALTERNATIVES = 2


def check_requests(chart, requests):
    """Raise RequestError for the first request that is wrong."""
    names = []
    for index, request in enumerate(requests):
        code = _fault(chart, request, names)
        if code != "":
            raise RequestError(code, index)
        names.append(request[0])


def request_text(request):
    """Return the text of a request."""
    flight, kind, start, goal, level, wanted, tick, late = request
    numbers = " ".join([str(number) for number in kind])
    way = f"FROM {start} TO {goal} AT {level} WANTS {wanted} TICK {tick} LATE {late}"
    return f"FLIGHT {flight} KIND {numbers} {way}"


def read_request(text):
    """Return the request whose text it is."""
    return read_whole(text, request_of)


def request_of(words):
    """Read the words of a request."""
    words.read_word(("FLIGHT",))
    flight = words.read_name()
    words.read_word(("KIND",))
    kind = tuple([words.read_number() for _ in range(5)])
    words.read_word(("FROM",))
    start = words.read_name()
    words.read_word(("TO",))
    goal = words.read_name()
    words.read_word(("AT",))
    level = words.read_number()
    words.read_word(("WANTS",))
    wanted = words.read_number()
    words.read_word(("TICK",))
    tick = words.read_number()
    words.read_word(("LATE",))
    return flight, kind, start, goal, level, wanted, tick, words.read_number()


def menu(chart, request):
    """Return the options of a request: pairs of a course and a tick of entry."""
    _, kind, start, goal, level, wanted, tick, _ = request
    routes = []
    for route in alternatives(chart, start, goal, level, MOST_ALTERNATIVES):
        routes.extend(_with_and_without_loop(chart, route))
    options = []
    for later in ENTRIES:
        for route in routes:
            for aim in _once(wanted, level):
                for speed in _once(kind[2], kind[1]):
                    options.append(((route, speed, aim), tick + later))
    return options


def first_box(request):
    """Return the box in which the aircraft of a request enters."""
    level = request[4]
    return -request[7], 0, level, level


def _fault(chart, request, names):
    """Return the code of the first thing that is wrong in a request behind others with names, or ""."""
    flight, kind, start, goal, level, wanted, tick, late = request
    if not is_name(flight) or flight in names:
        return "name"
    if not is_kind(kind):
        return "kind"
    if start not in chart["fixes"] or goal not in chart["fixes"] or start == goal:
        return "fix"
    if not 0 <= level <= TOP_LEVEL or not 0 <= wanted <= TOP_LEVEL:
        return "level"
    if not 0 <= tick <= LATEST_ENTRY:
        return "tick"
    if not 0 <= late <= MOST_LATE:
        return "late"
    return ""


def _with_and_without_loop(chart, route):
    try:
        return [route, with_loops(chart, route, 1)]
    except RouteError:
        return [route]


def _once(one, other):
    """Return both numbers, or the one if they are equal."""
    if one == other:
        return [one]
    return [one, other]
