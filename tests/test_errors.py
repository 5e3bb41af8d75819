import inspect
import unittest

from skyapart import errors

FIELDS = {
    "ChartError": ["code", "index"],
    "RouteError": ["code", "index"],
    "RuleError": ["code"],
    "CourseError": ["code", "tick"],
    "SequenceError": ["code"],
    "TextError": ["at"],
    "RequestError": ["code", "index"],
    "ClearError": ["code"],
    "ConflictError": ["name", "kind", "tick"],
    "HandoverError": ["code"],
}


class ErrorsTest(unittest.TestCase):
    def test_base(self):
        self.assertEqual(errors.SkyError.__bases__, (ValueError,))

    def test_each_derives_directly(self):
        for name in FIELDS:
            self.assertEqual(getattr(errors, name).__bases__, (errors.SkyError,), name)

    def test_fields_in_order(self):
        values = ("far", 7, 9)
        for name, fields in FIELDS.items():
            made = getattr(errors, name)
            self.assertEqual(list(inspect.signature(made).parameters), fields, name)
            error = made(*values[:len(fields)])
            self.assertEqual([getattr(error, field) for field in fields], list(values[:len(fields)]), name)
            self.assertIsInstance(error, ValueError)

    def test_each_is_caught_by_its_base(self):
        for name, fields in FIELDS.items():
            with self.assertRaises(errors.SkyError):
                raise getattr(errors, name)(*(0 for _ in fields))


if __name__ == "__main__":
    unittest.main()
