"""Products of a row of numbers with rows of weights, told by their bits."""

MOST_ROWS = 1024
MOST_NUMBERS = 65536
MOST_SHIFT = 62
MOST_BYTE = 255
LANES = 16

# A span is how many numbers 8, 16, 32 or 64 bits tell apart.
SPAN_8 = 256
SPAN_16 = 65536
SPAN_32 = 4294967296
SPAN_64 = 18446744073709551616


def is_refused(rows, n):
    return rows > MOST_ROWS or n > MOST_NUMBERS


def is_scale_refused(n, s, z):
    return n > MOST_NUMBERS or s < 0 or s > MOST_SHIFT or z < 0 or z > MOST_BYTE


def with_sign(bits, span):
    if 2 * bits >= span:
        return bits - span
    return bits


def all_with_sign(numbers, span):
    return [with_sign(bits, span) for bits in numbers]


def hold_in_32_bits(number):
    half = SPAN_32 // 2
    return max(-half, min(half - 1, number))


def rounded_quotient(number, s):
    # A half is added and the rest dropped downward; both are doubled, as half
    # of 2^0 is not whole.
    return (2 * number + (1 << s)) >> (s + 1)


def sixteen(lanes):
    return lanes + [0] * (LANES - len(lanes))


def parts(lane, span):
    numbers = []
    place = 1
    while place < SPAN_32:
        numbers.append(lane // place % span)
        place = place * span
    return numbers


def row_total(i, n, x, w):
    total = 0
    for j in range(n):
        total = total + x[j] * w[n * i + j]
    return total


def bytes_of(rows, n, x, w, bias):
    if is_refused(rows, n):
        return [-1]
    weights = all_with_sign(w, SPAN_8)
    answer = [0]
    for i in range(rows):
        # Held only here: a row may go past 32 bits midway and come back.
        total = hold_in_32_bits(with_sign(bias[i], SPAN_32) + row_total(i, n, x, weights))
        answer.append(total % SPAN_32)
    return answer


def words(rows, n, x, w):
    if is_refused(rows, n):
        return [-1]
    factors = all_with_sign(x, SPAN_16)
    weights = all_with_sign(w, SPAN_16)
    answer = [0]
    for i in range(rows):
        answer.append(row_total(i, n, factors, weights) % SPAN_64)
    return answer


def scale(n, m, s, z, numbers):
    if is_scale_refused(n, s, z):
        return [-1]
    answer = [0]
    for number in all_with_sign(numbers, SPAN_32):
        scaled = z + rounded_quotient(number * m, s)
        answer.append(max(0, min(MOST_BYTE, scaled)))
    return answer


def lane_products(kind, a, b):
    if kind < 2:
        factors = parts(a, SPAN_8)
        weights = all_with_sign(parts(b, SPAN_8), SPAN_8)
    else:
        factors = all_with_sign(parts(a, SPAN_16), SPAN_16)
        weights = all_with_sign(parts(b, SPAN_16), SPAN_16)
    return row_total(0, len(factors), factors, weights)


def lane_sum(kind, lane, a, b):
    total = with_sign(lane, SPAN_32) + lane_products(kind, a, b)
    if kind % 2 == 1:
        total = hold_in_32_bits(total)
    return total % SPAN_32


def sum_of(k, kind, sums, a, b):
    answer = sixteen(sums)
    if kind < 0 or kind > 3:
        return answer
    factors = sixteen(a)
    weights = sixteen(b)
    for j in range(LANES):
        if (k >> j) % 2 == 1:
            answer[j] = lane_sum(kind, answer[j], factors[j], weights[j])
    return answer
