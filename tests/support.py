"""What several tests need: lists that refuse changes, fixed inputs, numbers and their bits."""


def refuse_change(self, *args, **kwargs):
    raise AssertionError("a list that was handed in is changed")


class Unchanging(list):
    """Raises at the change itself, so that one taken back later is seen too."""

    append = extend = insert = pop = remove = clear = refuse_change
    sort = reverse = refuse_change
    __setitem__ = __delitem__ = __iadd__ = __imul__ = refuse_change


def spread(count, span, seed):
    """count numbers from 0 to span - 1, the same ones each time."""
    numbers = []
    state = seed
    for _ in range(count):
        state = (state * 6364136223846793005 + 1442695040888963407) % 2**64
        numbers.append((state >> 32) % span)
    return numbers


def signed(bits, size):
    """The number that size bytes stand for, by Python's own reading of them."""
    return int.from_bytes(bits.to_bytes(size, "big"), "big", signed=True)


def bits(number):
    """The 32 bits of a number with a sign."""
    return number % 2**32
