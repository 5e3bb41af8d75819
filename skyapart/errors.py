"""The errors that the program raises, each with the fields that tell what failed."""


class SkyError(ValueError):
    """The base class of all errors of the program."""


class ChartError(SkyError):
    """A chart does not pass its check."""

    def __init__(self, code, index):
        super().__init__(f"chart: {code} at {index}")
        self.code = code
        self.index = index


class RouteError(SkyError):
    """A route is wrong, or there is none."""

    def __init__(self, code, index):
        super().__init__(f"route: {code} at {index}")
        self.code = code
        self.index = index


class RuleError(SkyError):
    """The rules do not pass their check."""

    def __init__(self, code):
        super().__init__(f"rules: {code}")
        self.code = code


class CourseError(SkyError):
    """A course cannot be flown."""

    def __init__(self, code, tick):
        super().__init__(f"course: {code} at the tick {tick}")
        self.code = code
        self.tick = tick


class SequenceError(SkyError):
    """There is no good sequence of landings."""

    def __init__(self, code):
        super().__init__(f"sequence: {code}")
        self.code = code


class TextError(SkyError):
    """A text is not one that can be read."""

    def __init__(self, at):
        super().__init__(f"text: wrong at {at}")
        self.at = at


class RequestError(SkyError):
    """A request is wrong."""

    def __init__(self, code, index):
        super().__init__(f"request: {code} at {index}")
        self.code = code
        self.index = index


class ClearError(SkyError):
    """A clearance cannot be given."""

    def __init__(self, code):
        super().__init__(f"clearance: {code}")
        self.code = code


class ConflictError(SkyError):
    """A clearance would bring a flight too near to another one, or overfill a sector."""

    def __init__(self, name, kind, tick):
        super().__init__(f"conflict: {kind} with {name} at the tick {tick}")
        self.name = name
        self.kind = kind
        self.tick = tick


class HandoverError(SkyError):
    """The responsibility cannot be handed over so."""

    def __init__(self, code):
        super().__init__(f"handover: {code}")
        self.code = code
