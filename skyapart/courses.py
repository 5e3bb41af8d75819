"""Courses: all places where an aircraft on a course may be, tick by tick."""
from skyapart.errors import CourseError
from skyapart.wind import step_bounds, wind_at

MOST_BOXES = 240


def target(path, course, index):
    """Return the level towards which an aircraft flies on a leg."""
    level = _within(path.leg(index), course[2])
    if path.begin(index + 1) < path.total():
        level = _within(path.leg(index + 1), level)
    return level


def next_box(path, course, kind, rules, winds, tick, box):
    """Return the box of the next tick: exactly what an aircraft in the box can reach."""
    low, high, down, up = box
    first = path.leg_at(low)
    last = path.leg_at(high)
    lows, highs, downs, ups = [], [], [], []
    for index in range(first, last + 1):
        least, most = _bounds(path, course, rules, winds, tick, index)
        aim = target(path, course, index)
        lows.append((low if index == first else path.begin(index)) + least)
        highs.append((high if index == last else path.begin(index + 1) - 1) + most)
        downs.append(_lowest(kind, down, aim))
        ups.append(_highest(kind, up, aim))
    return min(lows), max(highs), min(downs), max(ups)


def tube(chart, path, course, kind, rules, winds, tick, box):
    """Return the list of the box and those of the ticks behind it, until the aircraft is out."""
    _, slow, fast, _, _ = kind
    if not slow <= course[1] <= fast:
        raise CourseError("speed", tick)
    boxes = []
    while box[0] < path.total():
        now = tick + len(boxes)
        if len(boxes) == MOST_BOXES:
            raise CourseError("long", now)
        _check_box(chart, path, now, box)
        _check_pace(path, course, rules, winds, now, box)
        boxes.append(box)
        box = next_box(path, course, kind, rules, winds, now, box)
    return boxes


def window(path, tick, boxes):
    """Return the earliest and the latest tick at which an aircraft in a tube reaches the total."""
    for index, box in enumerate(boxes):
        if box[1] >= path.total():
            return tick + index, tick + len(boxes)
    return tick + len(boxes), tick + len(boxes)


def changed(course, change):
    """Return the course with a change."""
    route, speed, level = course
    what, value = change
    if what == "route":
        return value, speed, level
    if what == "speed":
        return route, value, level
    return route, speed, value


def _within(leg, level):
    return min(max(level, leg[3]), leg[4])


def _bounds(path, course, rules, winds, tick, index):
    return step_bounds(path.vector(index), course[1], rules["slip"], wind_at(winds, tick))


def _lowest(kind, level, aim):
    """Return the lowest level in the next tick of an aircraft that is at a level or above it."""
    if level < aim:
        return min(level + kind[3], aim)
    return max(level - kind[4], aim)


def _highest(kind, level, aim):
    """Return the highest level in the next tick of an aircraft that is at a level or below it."""
    if level > aim:
        return max(level - kind[3], aim)
    return min(level + kind[4], aim)


def _legs_of(path, box):
    """Return the indexes of the legs to which a progress of a box belongs."""
    return list(range(path.leg_at(box[0]), path.leg_at(box[1]) + 1))


def _check_box(chart, path, tick, box):
    """Raise CourseError if the levels of the box or the hours of its legs forbid to be there."""
    _, high, down, up = box
    if high < 0:
        return
    legs = [path.leg(index) for index in _legs_of(path, box)]
    if any(leg[3] > down or leg[4] < up for leg in legs):
        raise CourseError("level", tick)
    if any(_shut(chart, leg, tick) for leg in legs):
        raise CourseError("shut", tick)


def _shut(chart, leg, tick):
    return any(
        (start, end) == (leg[0], leg[1]) and first <= tick <= last
        for start, end, first, last in chart["hours"]
    )


def _check_pace(path, course, rules, winds, tick, box):
    """Raise CourseError if an aircraft in the box might not get ahead."""
    for index in _legs_of(path, box):
        least, _ = _bounds(path, course, rules, winds, tick, index)
        if least < 1:
            raise CourseError("slow", tick)
