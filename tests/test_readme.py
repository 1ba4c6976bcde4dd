"""The examples in README.md answer what it says."""

import ast
import pathlib
import unittest

from smallproducts import products

README = pathlib.Path(__file__).parent.parent / "README.md"


def examples():
    """Each call, and the answer in the remark on the line below it."""
    block = README.read_text(encoding="utf-8").split("```python\n")[1].split("```")[0]
    lines = block.splitlines()
    return [(call, told[2:]) for call, told in zip(lines, lines[1:]) if told.startswith("# ")]


class Readme(unittest.TestCase):
    def test_examples(self):
        found = examples()
        self.assertGreaterEqual(len(found), 5)
        for call, told in found:
            with self.subTest(call=call):
                self.assertEqual(eval(call, dict(vars(products))), ast.literal_eval(told))


if __name__ == "__main__":
    unittest.main()
