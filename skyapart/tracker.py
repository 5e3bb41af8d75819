"""The tracker: to which flights the plots of a tick belong."""
from skyapart.radar import fitted


def assign(rules, flights, plots):
    """Return the names of the flights to which the plots belong, and the followed flights afterwards."""
    followed = [(name, list(candidates)) for name, candidates in flights]
    names = []
    for plot in plots:
        index, candidates = _first_fitting(rules, followed, plot)
        if index is None:
            names.append("")
        else:
            name = followed[index][0]
            followed[index] = (name, candidates)
            names.append(name)
    return names, followed


def _first_fitting(rules, followed, plot):
    """Return the index of the first flight that a plot fits, and its fitted candidates."""
    for index, (_, candidates) in enumerate(followed):
        found = _fitting(rules, candidates, plot)
        if found:
            return index, found
    return None, []


def _fitting(rules, candidates, plot):
    found = []
    for path, box in candidates:
        narrow = fitted(rules, path, box, plot)
        if narrow is not None:
            found.append((path, narrow))
    return found
