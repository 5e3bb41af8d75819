import copy
import unittest

from skyapart.path import Path
from skyapart.tracker import assign
from tests.samples import line_chart, plain_chart, small_rules

# A plot is at most 10 + 3 away from the place, and 3 + 2 from the level.
RULES = small_rules(radar=10, radius=3, height=3, band=2)


def path():
    return Path(line_chart(0, 1000), ("A", "B"))


def fork():
    """Return two paths that part at the fix B, at the progress 100."""
    chart = plain_chart(
        {"A": (0, 0), "B": (100, 0), "C": (500, 0), "D": (100, 500)},
        [("A", "B", "S", 0, 600), ("B", "C", "S", 0, 600), ("B", "D", "S", 0, 600)],
    )
    return Path(chart, ("A", "B", "C")), Path(chart, ("A", "B", "D"))


class AssignTest(unittest.TestCase):
    def check(self, flights, plots, names, after):
        before = [(name, list(candidates)) for name, candidates in flights]
        lists = [candidates for _, candidates in flights]
        handed_plots = list(plots)
        found_names, found = assign(RULES, flights, plots)
        self.assertEqual(found_names, names)
        self.assertEqual(found, after)
        self.assertEqual(flights, before)
        self.assertEqual(plots, handed_plots)
        self.assertIsNot(found, flights)
        self.assertIsNot(found_names, plots)
        for (_, candidates), handed in zip(found, lists):
            self.assertIsNot(candidates, handed)

    def test_nothing(self):
        self.check([], [], [], [])
        self.check([], [(0, 0, 0)], [""], [])
        one = path()
        self.check([("F1", [(one, (0, 99, 30, 30))])], [], [], [("F1", [(one, (0, 99, 30, 30))])])

    def test_one_flight(self):
        one = path()
        self.check(
            [("F1", [(one, (0, 99, 20, 40))])], [(50, 0, 30)],
            ["F1"], [("F1", [(one, (37, 63, 25, 35))])],
        )

    def test_plot_of_nobody_changes_nothing(self):
        one = path()
        flights = [("F1", [(one, (0, 99, 20, 40))])]
        for plot in ((50, 14, 30), (50, 0, 14), (50, 0, 46), (113, 0, 30), (-14, 0, 30)):
            self.check(flights, [plot], [""], flights)

    def test_plot_among_others(self):
        one = path()
        self.check(
            [("F1", [(one, (0, 99, 20, 40))])], [(500, 0, 30), (50, 0, 30), (50, 99, 30)],
            ["", "F1", ""], [("F1", [(one, (37, 63, 25, 35))])],
        )

    def test_two_flights(self):
        one, other = path(), path()
        flights = [("F1", [(one, (0, 99, 30, 30))]), ("A2", [(other, (500, 599, 30, 30))])]
        self.check(
            flights, [(550, 0, 30), (50, 0, 30)], ["A2", "F1"],
            [("F1", [(one, (37, 63, 30, 30))]), ("A2", [(other, (537, 563, 30, 30))])],
        )

    def test_first_flight_of_the_list(self):
        one, other = path(), path()
        flights = [("Z9", [(one, (0, 99, 30, 30))]), ("A1", [(other, (40, 140, 30, 30))])]
        self.check(
            flights, [(60, 0, 30)], ["Z9"],
            [("Z9", [(one, (47, 73, 30, 30))]), ("A1", [(other, (40, 140, 30, 30))])],
        )
        self.check(
            flights[::-1], [(60, 0, 30)], ["A1"],
            [("A1", [(other, (47, 73, 30, 30))]), ("Z9", [(one, (0, 99, 30, 30))])],
        )

    def test_two_plots_for_one_flight(self):
        one = path()
        self.check(
            [("F1", [(one, (0, 99, 20, 40))])], [(50, 0, 30), (60, 0, 33)],
            ["F1", "F1"], [("F1", [(one, (47, 63, 28, 35))])],
        )

    def test_fitted_box_counts_for_the_next_plot(self):
        one, other = path(), path()
        flights = [("F1", [(one, (0, 99, 30, 30))]), ("F2", [(other, (40, 140, 30, 30))])]
        # The second plot would fit F1 at first, but not behind the first plot.
        self.check(
            flights, [(50, 0, 30), (77, 0, 30)], ["F1", "F2"],
            [("F1", [(one, (37, 63, 30, 30))]), ("F2", [(other, (64, 90, 30, 30))])],
        )
        self.check(
            flights[:1], [(50, 0, 30), (77, 0, 30)], ["F1", ""], [("F1", [(one, (37, 63, 30, 30))])],
        )

    def test_candidates_are_dropped(self):
        ahead, aside = fork()
        flights = [("F1", [(ahead, (90, 160, 30, 30)), (aside, (90, 160, 30, 30))])]
        self.check(flights, [(140, 0, 30)], ["F1"], [("F1", [(ahead, (127, 153, 30, 30))])])
        self.check(flights, [(100, 40, 30)], ["F1"], [("F1", [(aside, (127, 153, 30, 30))])])
        self.check(
            flights, [(90, 0, 30)], ["F1"],
            [("F1", [(ahead, (90, 103, 30, 30)), (aside, (90, 108, 30, 30))])],
        )
        self.check(flights, [(140, 40, 30)], [""], flights)

    def test_order_of_candidates(self):
        one, two, three = path(), path(), path()
        flights = [("F1", [(one, (0, 99, 90, 90)), (two, (0, 50, 30, 30)), (three, (0, 60, 31, 31))])]
        self.check(
            flights, [(40, 0, 30)], ["F1"],
            [("F1", [(two, (27, 50, 30, 30)), (three, (27, 53, 31, 31))])],
        )

    def test_dropped_candidate_does_not_come_back(self):
        ahead, aside = fork()
        flights = [("F1", [(ahead, (90, 160, 30, 30)), (aside, (90, 160, 30, 30))])]
        self.check(
            flights, [(140, 0, 30), (100, 40, 30)], ["F1", ""], [("F1", [(ahead, (127, 153, 30, 30))])],
        )

    def test_later_candidate_of_an_earlier_flight(self):
        one, two, other = path(), path(), path()
        flights = [
            ("F1", [(one, (0, 9, 30, 30)), (two, (90, 120, 30, 30))]),
            ("F2", [(other, (90, 120, 30, 30))]),
        ]
        self.check(
            flights, [(100, 0, 30)], ["F1"],
            [("F1", [(two, (90, 113, 30, 30))]), ("F2", [(other, (90, 120, 30, 30))])],
        )

    def test_flight_without_candidates(self):
        one = path()
        flights = [("F1", []), ("F2", [(one, (0, 99, 30, 30))])]
        self.check(flights, [(50, 0, 30)], ["F2"], [("F1", []), ("F2", [(one, (37, 63, 30, 30))])])

    def test_lists_handed_out_are_new_each_time(self):
        one = path()
        flights = [("F1", [(one, (0, 99, 30, 30))])]
        _, found = assign(RULES, flights, [])
        found[0][1].clear()
        found.clear()
        self.assertEqual(flights, [("F1", [(one, (0, 99, 30, 30))])])
        self.assertEqual(copy.copy(assign(RULES, flights, [])[1]), flights)


if __name__ == "__main__":
    unittest.main()
