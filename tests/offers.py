"""Offers that tests of the joint choice and of the judge use."""
from skyapart.path import Path
from tests.samples import line_chart, plain_chart, small_rules

# Apart are 10 + 2 * 2 levels, or a distance of 50 + 2 * 3.
RULES = small_rules(lateral=50, radius=3, vertical=10, band=2)


def sector_path(*sectors):
    """Return the path over legs of the length 100 in one line, in these sectors."""
    chart = line_chart(*range(0, 100 * len(sectors) + 1, 100))
    chart["legs"] = [(*leg[:2], sector, 0, 600) for leg, sector in zip(chart["legs"], sectors)]
    return Path(chart, tuple(sorted(chart["fixes"])))


def far_path(y, length=1000, sector="S"):
    """Return a path of one leg at some distance from others."""
    chart = plain_chart({"A": (0, y), "B": (length, y)}, [("A", "B", sector, 0, 600)])
    return Path(chart, ("A", "B"))


def offer(path, tick, bounds, level=30, wake=0, runway=""):
    return wake, runway, (path, tick, [(low, high, level, level) for low, high in bounds])


def steady(path, tick, speed, level=30, wake=0, runway=""):
    return offer(path, tick, [(at, at) for at in range(0, path.total(), speed)], level, wake, runway)


def lane(number, tick=0, level=30, **others):
    """Return an offer on the lane with a number; those of one lane at one tick and level are near at once."""
    return steady(far_path(1000 * number, sector=others.pop("sector", "S")), tick, 100, level, **others)


def random_case(chance):
    """Return rules, capacities, a held list and menus with few lanes and ticks, so that there are many reasons."""
    rules = small_rules(lateral=50, radius=3, gaps=((2, 2, 2, 2), (4, 2, 2, 2), (4, 4, 2, 2), (4, 4, 4, 2)))

    def entry():
        made = lane(chance.randint(0, 4), chance.randint(0, 6), chance.choice((10, 20, 30)),
                    sector=chance.choice("STU"), wake=chance.randint(0, 3), runway=chance.choice(("", "B", "R")))
        return made[:2] + ((made[2][0], made[2][1], made[2][2][:chance.choice((3, 6, 10))]),)

    held = [(f"F{index}", [entry() for _ in range(chance.randint(0, 2))]) for index in range(chance.randint(0, 3))]
    menus = [
        [chance.choice(("slow", entry(), entry(), entry())) for _ in range(chance.choice((0, 1, 2, 3, 4, 4)))]
        for _ in range(chance.randint(0, 3))
    ]
    return rules, {"S": chance.randint(1, 3), "T": chance.randint(1, 2)}, held, menus
