"""Texts of calls for centres, drawn at random, and the answers of point 74 written out."""
import random

from skyapart.calls import read_call
from skyapart.errors import ClearError, ConflictError, HandoverError, RequestError, TextError
from skyapart.phrase import change_text, clearance_text
from tests.centres import exact_rules, lanes_chart


def plain_reason(reason):
    what, *rest = reason
    if what == "bad":
        return "BAD " + rest[0].upper()
    if what == "held":
        return f"HELD {rest[0]} {rest[1].upper()} {rest[2]}"
    if what == "chosen":
        return f"CHOSEN {rest[0]} {rest[1].upper()} {rest[2]}"
    return f"FULL {rest[0]} {rest[1]}"


def plain_message(message):
    if message is None:
        return "SILENCE"
    if message[0] in ("give", "took"):
        return f"{message[0].upper()} {message[1]} {message[2]} {message[3]}"
    if message[0] in ("say", "read", "confirm"):
        return f"{message[0].upper()} {clearance_text(message[1])}"
    return f"{message[0].upper()} {message[1]} {message[2]}"


def plain_answer(centre, text):
    """Let a centre do the call of a text itself, and return the answer that point 74 asks for."""
    try:
        what, *arguments = read_call(text)
    except TextError as error:
        return f"ERROR TEXT {error.at}"
    try:
        found = getattr(centre, what)(*arguments)
    except ClearError as error:
        return f"ERROR CLEAR {error.code.upper()}"
    except ConflictError as error:
        return f"ERROR CONFLICT {error.name} {error.kind.upper()} {error.tick}"
    except RequestError as error:
        return f"ERROR REQUEST {error.code.upper()} {error.index}"
    except HandoverError as error:
        return f"ERROR HANDOVER {error.code.upper()}"
    if what == "enter":
        if found[0] is not None:
            return "ADMITTED" + "".join(f" {index}" for index in found[0])
        return "REFUSED" + "".join(
            "\n" + ".".join(map(str, prefix)) + " " + plain_reason(reason) for prefix, reason in found[1]
        )
    if what == "solve":
        if found[0] is not None:
            return plain_message(found[0])
        return "NONE" + "".join(f"\n{change_text(change)} {plain_reason(reason)}" for change, reason in found[1])
    if what == "advance":
        return f"TICK {centre.now()}" + "".join(f" {name or '-'}" for name in found)
    return plain_message(found)


def busy_lanes():
    """Return a chart and rules under which calls are refused for each kind of reason."""
    chart = lanes_chart()
    chart["legs"] += [("B1", "A1", "W", 0, 600), ("B2", "C1", "X", 60, 140), ("C3", "B2", "X", 0, 600)]
    chart["holds"] = {"B1": "A1"}
    chart["hours"] = [("B2", "C2", 20, 24), ("B3", "C3", 70, 75)]
    chart["capacities"] = {"W": 4, "E": 3, "X": 2}
    return chart, exact_rules(gaps=((3, 3, 3, 3), (9, 3, 3, 3), (20, 9, 3, 3), (30, 20, 9, 3)))


class Texts:
    """Draws texts of calls for a centre, most of them with a sense, some wrong in a word."""

    def __init__(self, seed):
        self.chance, self.number, self.handed = random.Random(seed), 0, []

    def name(self, centre):
        names = centre.flights()
        flying = [name for name in names if centre.view(name)["state"] == "flying"]
        return self.chance.choice(flying * 5 + names[-3:] + ["F99"])

    def text(self, centre):
        chance = self.chance
        draw = chance.choice((self.enter, self.enter, self.say, self.say, self.solve, self.hear, self.hear, self.hear,
                              self.hand_over, self.advance, self.advance, self.advance))
        text = draw(centre)
        if chance.random() < 0.08:
            words = text.split(" ")
            at = chance.randrange(len(words))
            words[at:at + 1] = chance.choice(([], ["-"], [words[at], ""], [words[at], words[at]], ["/"], ["007"]))
            text = " ".join(words)
        return text

    def heard(self, answer):
        """Remember what a centre has answered."""
        if answer.split(" ")[0] in ("GIVE", "TOOK") and "\n" not in answer:
            self.handed.append((self.given_for, answer))

    def enter(self, centre):
        chance, rows = self.chance, []
        for _ in range(chance.choice((1, 1, 1, 2, 3))):
            self.number += chance.choice((1, 1, 1, 1, 1, 0))
            lane = chance.choice("123")
            start, goal = chance.choice("AAAAC") + lane, chance.choice("CCCCCCB") + chance.choice((lane, lane, "1"))
            slow, level = chance.choice((4, 25, 50, 50)), chance.choice((90, 100, 100, 120, 140, 140, 160, 601))
            rows.append(f"FLIGHT F{self.number} KIND {chance.randint(0, 3)} {slow} {slow + chance.choice((0, 5, 60))} 2 5 "
                        f"FROM {start} TO {goal} AT {level} WANTS {chance.choice((level, 120))} "
                        f"TICK {centre.now() + chance.randint(0, 6)} LATE {chance.choice((0, 0, 50))}")
        return "ENTER " + " / ".join(rows)

    def change(self):
        lanes = [self.chance.choice("123") for _ in range(3)]
        route = self.chance.choice((
            f"A{lanes[0]} B{lanes[0]} C{lanes[1]}", "A1 B1 C2", "A2 B2 C1", "A1 B1 A1 B1 C1", "A1 C1", "A3 B3 C3 B2 C2"))
        return self.chance.choice((
            f"LEVEL {self.chance.choice((80, 100, 110, 120, 140, 601))}", f"SPEED {self.chance.choice((4, 50, 55, 85, 100))}",
            f"ROUTE {route}",
        ))

    def begin(self, centre):
        name = self.name(centre)
        acting = [sector for sector in "WEX" if centre.acts(name, sector)]
        by = self.chance.choice(acting * 6 + ["W", "E", "Q"])
        return f"{by} {name} {centre.now() + self.chance.choice((-1, 0, 1, 2, 3, 5, 9, 30, 31))}"

    def say(self, centre):
        return f"SAY {self.begin(centre)} {self.change()}"

    def solve(self, centre):
        changes = [self.change() for _ in range(self.chance.randint(0, 4))]
        return " ".join([f"SOLVE {self.begin(centre)}"] + [" / ".join(changes)] * (changes != []))

    def hear(self, centre):
        chance, name = self.chance, self.name(centre)
        message = centre.remind(name) if name != "F99" else None
        number, tick = chance.randint(1, 3), centre.now() + chance.randint(-1, 4)
        if message is not None and message[0] == "ask":
            return f"HEAR {chance.choice(('TAKEN', 'TAKEN', 'NOT'))} {name} {message[2]}"
        if message is not None and chance.random() < 0.8:
            return f"HEAR READ {clearance_text(message[1])}"
        return "HEAR " + chance.choice((
            f"READ {name} {number} AT {tick} {self.change()}", f"SAY {name} {number} AT {tick} {self.change()}",
            f"CONFIRM {name} {number} AT {tick} LEVEL 100", f"ASK {name} {number}", f"TAKEN {name} {number}",
            f"NOT {name} {number}",
        ))

    def hand_over(self, centre):
        chance = self.chance
        if self.handed and chance.random() < 0.6:
            name, message = chance.choice(self.handed[-4:])
            self.given_for = name
            return f"PASS {name} {message}"
        self.given_for = self.name(centre)
        acting = [sector for sector in "WEX" if centre.acts(self.given_for, sector)]
        return f"GIVE {self.given_for} {chance.choice(acting * 4 + ['W', 'Q'])} {chance.choice('WEXQ')}"

    def advance(self, centre):
        chance, plots = self.chance, []
        for name in centre.flights():
            view = centre.view(name)
            if view["state"] == "flying" and chance.random() < 0.4:
                (route, speed, _), (low, high, down, up) = view["courses"][0]
                x = (low + high) // 2 + speed
                plots.append(f"{x} {5000 * int(route[0][1]) - 5000 + chance.randint(-20, 20)} {(down + up) // 2}")
        if chance.random() < 0.3:
            plots.append(f"{chance.randint(-9000, 9000)} {chance.randint(-9000, 19000)} {chance.randint(-50, 300)}")
        chance.shuffle(plots)
        return " ".join(["ADVANCE"] + plots)
