"""Products of a row of numbers with rows of weights, told by their bits."""

MOST_ROWS = 1024
MOST_NUMBERS = 65536

# A span is how many numbers 8, 16, 32 or 64 bits tell apart.
SPAN_8 = 256
SPAN_16 = 65536
SPAN_32 = 4294967296
SPAN_64 = 18446744073709551616


def is_refused(rows, n):
    return rows > MOST_ROWS or n > MOST_NUMBERS


def with_sign(bits, span):
    if 2 * bits >= span:
        return bits - span
    return bits


def all_with_sign(numbers, span):
    return [with_sign(bits, span) for bits in numbers]


def hold_in_32_bits(number):
    half = SPAN_32 // 2
    return max(-half, min(half - 1, number))


def row_total(i, n, x, w):
    total = 0
    for j in range(n):
        total = total + x[j] * w[n * i + j]
    return total


def bytes_of(rows, n, x, w, bias):
    if is_refused(rows, n):
        return [-1]
    weights = all_with_sign(w, SPAN_8)
    answer = [0]
    for i in range(rows):
        # Held only here: a row may go past 32 bits midway and come back.
        total = hold_in_32_bits(with_sign(bias[i], SPAN_32) + row_total(i, n, x, weights))
        answer.append(total % SPAN_32)
    return answer


def words(rows, n, x, w):
    if is_refused(rows, n):
        return [-1]
    factors = all_with_sign(x, SPAN_16)
    weights = all_with_sign(w, SPAN_16)
    answer = [0]
    for i in range(rows):
        answer.append(row_total(i, n, factors, weights) % SPAN_64)
    return answer
