"""Winds, and how far aircraft get in one tick."""


def wind_at(winds, tick):
    """Return the tuple of the winds that holds at a tick."""
    found = winds[0]
    for wind in winds:
        if wind[0] <= tick:
            found = wind
    return found


def step_bounds(vector, speed, slip, wind):
    """Return the least and the greatest number by which the progress on a leg can grow in one tick."""
    dx, dy, length = vector
    _, wx, wy, error = wind
    push = wx * dx + wy * dy
    doubt = error * (abs(dx) + abs(dy))
    return speed - slip + (push - doubt) // length, speed + slip + (push + doubt) // length
