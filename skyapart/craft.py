"""Kinds of aircraft and the rules of separation: their checks."""
from skyapart.errors import RuleError

RANGES = (
    ("lateral", 1, 100000),
    ("vertical", 1, 600),
    ("radius", 0, 10000),
    ("band", 0, 100),
    ("slip", 0, 1000),
    ("radar", 0, 10000),
    ("height", 0, 300),
    ("foreign", 0, 10000),
    ("climb", 0, 600),
    ("memory", 1, 60),
    ("ahead", 0, 60),
)
LEAST_GAP = 1
MOST_GAP = 200


def is_kind(kind):
    """Tell whether a tuple of five numbers has the bounds of a kind of aircraft."""
    wake, slow, fast, least, most = kind
    return 0 <= wake <= 3 and 1 <= slow <= fast <= 10000 and 1 <= least <= most <= 100


def check_rules(rules):
    """Raise RuleError for the first rule that is wrong."""
    for name, low, high in RANGES:
        if not low <= rules[name] <= high:
            raise RuleError(name)
    for row in rules["gaps"]:
        if not all(LEAST_GAP <= gap <= MOST_GAP for gap in row):
            raise RuleError("gaps")
    if 2 * rules["radar"] >= rules["lateral"]:
        raise RuleError("radar")
    if 2 * rules["height"] >= rules["vertical"]:
        raise RuleError("height")
