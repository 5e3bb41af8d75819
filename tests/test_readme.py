import contextlib
import io
import pathlib
import re
import unittest

README = pathlib.Path(__file__).resolve().parent.parent / "README.md"


class ReadmeTest(unittest.TestCase):
    def test_example_prints_what_it_says(self):
        names, lines = {}, []
        for code in re.findall(r"```python\n(.*?)```", README.read_text(), re.DOTALL):
            told = re.findall(r"^print\(.*\) +# (.*?)(?:: .*)?$", code, re.MULTILINE)
            printed = io.StringIO()
            with contextlib.redirect_stdout(printed):
                exec(code, names)
            self.assertEqual(printed.getvalue().split("\n"), [*told, ""])
            lines += told
        self.assertEqual(len(lines), 14)


if __name__ == "__main__":
    unittest.main()
