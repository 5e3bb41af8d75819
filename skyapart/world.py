"""What a centre knows from its beginning on: the chart, the rules and the winds."""
from skyapart.chart import check_chart
from skyapart.courses import tube
from skyapart.craft import check_rules
from skyapart.path import Path


class World:
    """Copies of a chart, rules and winds, and the offers of courses among them."""

    def __init__(self, chart, rules, winds):
        check_chart(chart)
        check_rules(rules)
        self.chart = {
            "fixes": dict(chart["fixes"]), "legs": list(chart["legs"]), "zones": list(chart["zones"]),
            "runways": list(chart["runways"]), "holds": dict(chart["holds"]), "hours": list(chart["hours"]),
            "capacities": dict(chart["capacities"]),
        }
        self.rules = dict(rules)
        self.winds = list(winds)

    def path_of(self, flown):
        """Return a new path of the route of a course."""
        return Path(self.chart, flown[0])

    def offer(self, kind, path, flown, tick, box):
        """Return the offer of a course that is flown from a tick and a box on; raise CourseError."""
        boxes = tube(self.chart, path, flown, kind, self.rules, self.winds, tick, box)
        return self.offer_of(kind, path, tick, boxes)

    def offer_of(self, kind, path, tick, boxes):
        """Return the offer with a tube that has been made."""
        goal = path.route()[-1]
        runway = goal if goal in self.chart["runways"] else ""
        return kind[0], runway, (path, tick, boxes)

    def sectors(self):
        """Return the sectors of all legs, each once, ascending."""
        return sorted(set([leg[2] for leg in self.chart["legs"]]))
