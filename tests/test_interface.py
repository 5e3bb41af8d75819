"""The names and arguments that DOC.md lists exist, each defined in the file under which it is listed."""
import importlib
import inspect
import unittest

FUNCTIONS = {
    "whole": {"root_down": "n", "root_up": "n"},
    "plane": {"closer": "first second limit", "lines_closer": "first second limit", "distance_down": "first second"},
    "zone": {"is_zone": "points", "touches": "zone segment"},
    "chart": {"check_chart": "chart", "leg_length": "chart start end", "leg_between": "chart start end"},
    "routes": {
        "check_route": "chart route", "route_length": "chart route", "shortest": "chart start goal level",
        "confirmed": "chart level route distances", "alternatives": "chart start goal level count",
        "with_loops": "chart route loops",
    },
    "craft": {"is_kind": "kind", "check_rules": "rules"},
    "wind": {"wind_at": "winds tick", "step_bounds": "vector speed slip wind"},
    "courses": {
        "next_box": "path course kind rules winds tick box", "target": "path course index",
        "tube": "chart path course kind rules winds tick box", "window": "path tick boxes",
        "changed": "course change",
    },
    "separation": {"separated": "rules path box other_path other_box", "first_conflict": "rules one other"},
    "probe": {"probe": "rules one other"},
    "landing": {
        "apart": "gaps first second", "landing_ticks": "gaps arrivals order", "best_order": "gaps arrivals shift",
    },
    "radar": {"fitted": "rules path box plot"},
    "tracker": {"assign": "rules flights plots"},
    "requests": {
        "check_requests": "chart requests", "request_text": "request", "read_request": "text",
        "menu": "chart request",
    },
    "occupancy": {"occupies": "offer sector tick"},
    "joint": {"clash": "rules one other", "choose": "rules capacities held menus"},
    "judge": {"takes": "rules capacities held menus refutation"},
    "phrase": {"clearance_text": "clearance", "read_clearance": "text"},
    "foreign": {"reach": "rules sighting tick", "near_reach": "rules path box sighting tick"},
    "strips": {"strip": "track"},
    "replay": {"replay": "chart rules winds log"},
    "approach": {"sequenced": "chart rules winds requests shift"},
    "charttext": {"chart_text": "chart", "read_chart": "text"},
    "radio": {"message_text": "message", "read_message": "text"},
    "calls": {"call_text": "call", "read_call": "text"},
    "journal": {
        "text_sum": "text", "line_of": "number call", "journal_text": "log", "read_line": "number line",
        "read_journal": "text",
    },
    "wire": {"frame_of": "plot count", "read_stream": "numbers"},
    "reflected": {"encode": "number", "decode": "code"},
    "bias": {"narrowed": "rules estimate path box plot", "corrected": "rules estimate plot"},
    "console": {"respond": "centre text"},
    "primary": {"take_over": "chart rules winds standby"},
}
CLASSES = {
    "path": {
        "Path": {
            "__init__": "self chart route", "total": "self", "leg_at": "self progress", "begin": "self index",
            "leg": "self index", "vector": "self index", "place": "self progress", "piece": "self low high",
            "route": "self",
        },
    },
    "pilot": {
        "Pilot": {
            "__init__": "self flight course", "course": "self", "hear": "self message tick", "begin_tick": "self tick",
        },
    },
    "handover": {
        "Responsibility": {
            "__init__": "self sectors first", "give": "self by to", "repeat": "self by", "hear": "self message",
            "acts": "self sector", "responsible": "self",
        },
    },
    "centre": {
        "Centre": {
            "__init__": "self chart rules winds", "now": "self", "enter": "self requests",
            "say": "self by flight change tick", "solve": "self by flight changes tick", "hear": "self message",
            "remind": "self flight", "give": "self flight by to", "repeat": "self flight by",
            "pass_on": "self flight message", "advance": "self plots", "acts": "self flight sector", "flights": "self",
            "view": "self flight", "held": "self", "log": "self", "sightings": "self", "alerts": "self",
            "strips": "self flight", "plan": "self by flight change first second helps", "load": "self sector ahead",
            "watched": "self ticks",
        },
    },
    "standby": {
        "Feed": {
            "__init__": "self", "add": "self call", "safe": "self", "messages": "self", "hear": "self answer",
        },
        "Standby": {"__init__": "self", "hear": "self message", "calls": "self"},
    },
    "desk": {
        "Desk": {
            "__init__": "self rules errors estimates", "receive": "self radar numbers",
            "learn": "self radar path box plot", "estimate": "self radar", "left": "self radar", "lost": "self radar",
            "held_back": "self radar",
        },
    },
    "primary": {
        "Primary": {
            "__init__": "self chart rules winds", "centre": "self", "feed": "self", "respond": "self text",
        },
    },
}


class InterfaceTest(unittest.TestCase):
    def names(self, function):
        return " ".join(inspect.signature(function).parameters)

    def test_functions(self):
        for module, functions in FUNCTIONS.items():
            found = importlib.import_module(f"skyapart.{module}")
            for name, parameters in functions.items():
                function = getattr(found, name)
                self.assertEqual(self.names(function), parameters, name)
                self.assertEqual(function.__module__, f"skyapart.{module}")

    def test_classes(self):
        for module, classes in CLASSES.items():
            found = importlib.import_module(f"skyapart.{module}")
            for name, methods in classes.items():
                made = getattr(found, name)
                self.assertEqual(made.__module__, f"skyapart.{module}")
                for method, parameters in methods.items():
                    self.assertIn(method, vars(made))
                    self.assertEqual(self.names(vars(made)[method]), parameters, method)


if __name__ == "__main__":
    unittest.main()
