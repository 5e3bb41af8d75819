"""Strips: when the aircraft of a track reaches the fixes of its route."""


def strip(track):
    """Return, for each fix of the route, its name with the earliest and the latest tick."""
    path, _, _ = track
    return [(name, *_ticks(track, path.begin(index))) for index, name in enumerate(path.route())]


def _ticks(track, progress):
    """Return the first ticks at which the high and the low of a track have reached a progress."""
    _, begin, boxes = track
    behind = begin + len(boxes)
    earliest = [begin + index for index, box in enumerate(boxes) if box[1] >= progress]
    latest = [begin + index for index, box in enumerate(boxes) if box[0] >= progress]
    return min(earliest, default=behind), min(latest, default=behind)
