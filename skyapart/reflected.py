"""Reflected codes: the codes of neighbours differ in one bit."""


def encode(number):
    """Return the reflected code of a number."""
    return number ^ (number // 2)


def decode(code):
    """Return the number of a reflected code."""
    number = 0
    # A bit of the number is the sum, without carry, of the same bit and all higher ones of the code.
    while code > 0:
        number ^= code
        code //= 2
    return number
