"""Texts of charts: a line for each entry."""
from skyapart.errors import TextError
from skyapart.words import read_whole

# The first words of the lines, in the order in which the lines stand.
KINDS = ("FIX", "LEG", "ZONE", "RUNWAY", "HOLD", "HOURS", "CAPACITY")
# The lines that come from dicts, each with the name of its entry behind the first word.
NAMED = ("FIX", "HOLD", "CAPACITY")
FEWEST_POINTS = 3
MOST_POINTS = 8


def chart_text(chart):
    """Return the text of a chart."""
    fixes, holds, capacities = chart["fixes"], chart["holds"], chart["capacities"]
    lines = [_line("FIX", (name, *fixes[name])) for name in sorted(fixes)]
    lines.extend([_line("LEG", leg) for leg in chart["legs"]])
    lines.extend([_line("ZONE", [number for point in zone for number in point]) for zone in chart["zones"]])
    lines.extend([_line("RUNWAY", (name,)) for name in chart["runways"]])
    lines.extend([_line("HOLD", (name, holds[name])) for name in sorted(holds)])
    lines.extend([_line("HOURS", row) for row in chart["hours"]])
    lines.extend([_line("CAPACITY", (sector, capacities[sector])) for sector in sorted(capacities)])
    return "".join(lines)


def read_chart(text):
    """Return the chart whose text it is."""
    *lines, rest = text.split("\n")
    rows = []
    for line in lines:
        row = _row_of(line)
        if row is None or (rows and not _may_follow(rows[-1], row)):
            raise TextError(len(rows))
        rows.append(row)
    if rest != "":
        raise TextError(len(rows))
    return {
        "fixes": dict(_entries(rows, "FIX")), "legs": _entries(rows, "LEG"), "zones": _entries(rows, "ZONE"),
        "runways": _entries(rows, "RUNWAY"), "holds": dict(_entries(rows, "HOLD")), "hours": _entries(rows, "HOURS"),
        "capacities": dict(_entries(rows, "CAPACITY")),
    }


def _line(kind, parts):
    return " ".join([kind] + [str(part) for part in parts]) + "\n"


def _row_of(line):
    """Return the kind of a line and its entry, or None if the line is wrong."""
    try:
        return read_whole(line, _kind_and_entry_of)
    except TextError:
        return None


def _kind_and_entry_of(words):
    kind = words.read_word(KINDS)
    return kind, _entry_of(words, kind)


def _entry_of(words, kind):
    """Read the entry of a line of this kind; for entries of dicts, the pair of the name and its value."""
    match kind:
        case "FIX":
            return words.read_name(), _point_of(words)
        case "LEG":
            return (
                words.read_name(), words.read_name(), words.read_name(), words.read_number(), words.read_number(),
            )
        case "ZONE":
            return _zone_of(words)
        case "RUNWAY":
            return words.read_name()
        case "HOLD":
            return words.read_name(), words.read_name()
        case "HOURS":
            return words.read_name(), words.read_name(), words.read_number(), words.read_number()
    return words.read_name(), words.read_number()


def _point_of(words):
    return words.read_signed(), words.read_signed()


def _zone_of(words):
    points = [_point_of(words) for _ in range(FEWEST_POINTS)]
    while words.more() and len(points) < MOST_POINTS:
        points.append(_point_of(words))
    return tuple(points)


def _may_follow(row, later):
    """Tell whether the row of a line may stand directly behind another one."""
    kind, entry = row
    later_kind, later_entry = later
    if kind == later_kind:
        return kind not in NAMED or entry[0] < later_entry[0]
    return KINDS.index(kind) < KINDS.index(later_kind)


def _entries(rows, kind):
    return [entry for row_kind, entry in rows if row_kind == kind]
