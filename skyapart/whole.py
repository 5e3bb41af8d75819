"""Roots of whole numbers."""
from math import isqrt


def root_down(n):
    """Return the greatest number whose square is at most n."""
    if n <= 0:
        return 0
    return isqrt(n)


def root_up(n):
    """Return the least number of at least 0 whose square is at least n."""
    low = root_down(n)
    if low * low < n:
        return low + 1
    return low
