"""Products of a row of numbers with rows of weights, told by their bits."""

MOST_ROWS = 1024
MOST_NUMBERS = 65536
MOST_SHIFT = 62
MOST_BYTE = 255
LANES = 16
BLOCK = 32

# A span is how many numbers 8, 16, 32 or 64 bits tell apart.
SPAN_8 = 256
SPAN_16 = 65536
SPAN_32 = 4294967296
SPAN_64 = 18446744073709551616

# Singles, by their bits. A sign is 2^31; an exponent of 1 is 2^23, and with a
# fraction of 0 the least single that is no denormal.
SIGN = 2147483648
LEAST_NORMAL = 8388608
ONE = 1065353216
INFINITY = 2139095040
SINGLE_BITS = 24
QUIET_BIT = 64

# Its lower 31 bits are those of a NaN, so what reads bits takes it for one too.
NAN = -1


def is_refused(rows, n):
    return rows > MOST_ROWS or n > MOST_NUMBERS


def is_scale_refused(n, s, z):
    return n > MOST_NUMBERS or s < 0 or s > MOST_SHIFT or z < 0 or z > MOST_BYTE


def with_sign(bits, span):
    if 2 * bits >= span:
        return bits - span
    return bits


def all_with_sign(numbers, span):
    return [with_sign(bits, span) for bits in numbers]


def hold_in_32_bits(number):
    half = SPAN_32 // 2
    return max(-half, min(half - 1, number))


def rounded_quotient(number, s):
    # A half is added and the rest dropped downward; both are doubled, as half
    # of 2^0 is not whole.
    return (2 * number + (1 << s)) >> (s + 1)


def sixteen(lanes):
    return lanes + [0] * (LANES - len(lanes))


def is_in(k, j):
    return (k >> j) % 2 == 1


def parts(lane, span):
    numbers = []
    place = 1
    while place < SPAN_32:
        numbers.append(lane // place % span)
        place = place * span
    return numbers


def row_total(i, n, x, w):
    total = 0
    for j in range(n):
        total = total + x[j] * w[n * i + j]
    return total


def bytes_of(rows, n, x, w, bias):
    if is_refused(rows, n):
        return [-1]
    weights = all_with_sign(w, SPAN_8)
    answer = [0]
    for i in range(rows):
        # Held only here: a row may go past 32 bits midway and come back.
        total = hold_in_32_bits(with_sign(bias[i], SPAN_32) + row_total(i, n, x, weights))
        answer.append(total % SPAN_32)
    return answer


def words(rows, n, x, w):
    if is_refused(rows, n):
        return [-1]
    factors = all_with_sign(x, SPAN_16)
    weights = all_with_sign(w, SPAN_16)
    answer = [0]
    for i in range(rows):
        answer.append(row_total(i, n, factors, weights) % SPAN_64)
    return answer


def scale(n, m, s, z, numbers):
    if is_scale_refused(n, s, z):
        return [-1]
    answer = [0]
    for number in all_with_sign(numbers, SPAN_32):
        scaled = z + rounded_quotient(number * m, s)
        answer.append(max(0, min(MOST_BYTE, scaled)))
    return answer


def lane_products(kind, a, b):
    if kind < 2:
        factors = parts(a, SPAN_8)
        weights = all_with_sign(parts(b, SPAN_8), SPAN_8)
    else:
        factors = all_with_sign(parts(a, SPAN_16), SPAN_16)
        weights = all_with_sign(parts(b, SPAN_16), SPAN_16)
    return row_total(0, len(factors), factors, weights)


def lane_sum(kind, lane, a, b):
    total = with_sign(lane, SPAN_32) + lane_products(kind, a, b)
    if kind % 2 == 1:
        total = hold_in_32_bits(total)
    return total % SPAN_32


def sum_of(k, kind, sums, a, b):
    answer = sixteen(sums)
    if kind < 0 or kind > 3:
        return answer
    factors = sixteen(a)
    weights = sixteen(b)
    for j in range(LANES):
        if is_in(k, j):
            answer[j] = lane_sum(kind, answer[j], factors[j], weights[j])
    return answer


def is_nan(single):
    return single % SIGN > INFINITY


def is_infinite(single):
    return single % SIGN == INFINITY


def is_zero(single):
    return single % SIGN < LEAST_NORMAL


def nearest_multiple(number, unit):
    # How many units; of two as near the even one. Doubled, as half of 1 is not
    # whole.
    count = number // unit
    rest = 2 * (number % unit)
    if rest > unit or (rest == unit and count % 2 == 1):
        return count + 1
    return count


def bfloat16_of(single):
    upper = single // SPAN_16
    if is_nan(single):
        # Without this bit a NaN whose set bits all lie below would become an
        # infinity.
        return upper | QUIET_BIT
    if is_zero(single):
        return single // SIGN * (SIGN // SPAN_16)
    # One more past the largest fraction is the next exponent, at last infinity.
    return nearest_multiple(single, SPAN_16)


def short(low, high):
    singles = sixteen(low) + sixteen(high)
    answer = []
    for j in range(LANES):
        answer.append(bfloat16_of(singles[2 * j]) + SPAN_16 * bfloat16_of(singles[2 * j + 1]))
    return answer


def sign_of_product(p, q):
    return (p // SIGN + q // SIGN) % 2


def exact(single):
    # A finite single, with its sign, as a whole number of 2^-149.
    if is_zero(single):
        return 0
    size = single % SIGN
    number = (LEAST_NORMAL + size % LEAST_NORMAL) << (size // LEAST_NORMAL - 1)
    return -number if single >= SIGN else number


def rounded_single(total):
    # total counts 2^-298, as a product of two that count 2^-149 does, and is not
    # 0. With a surplus of 149 the count counts 2^-149, as exponent 1 does.
    surplus = max(0, abs(total).bit_length() - SINGLE_BITS)
    count = nearest_multiple(abs(total), 1 << surplus)
    # Added, not joined: a count that is rounded up to 2^24 raises the exponent.
    size = (surplus - 149) * LEAST_NORMAL + count
    if size < LEAST_NORMAL:
        size = 0
    return min(size, INFINITY) + (SIGN if total < 0 else 0)


def infinite_sum(single, p, q):
    # At least one of the three is an infinity and none is a NaN.
    if not is_infinite(p) and not is_infinite(q):
        return single
    if is_zero(p) or is_zero(q):
        return NAN
    product = INFINITY + SIGN * sign_of_product(p, q)
    if is_infinite(single) and single != product:
        return NAN
    return product


def add_product(single, p, q):
    # p and q are singles too, those of bfloat16s where a step is taken.
    if is_nan(single) or is_nan(p) or is_nan(q):
        return NAN
    if is_infinite(single) or is_infinite(p) or is_infinite(q):
        return infinite_sum(single, p, q)
    # Times ONE a single has the unit of a product.
    total = exact(single) * exact(ONE) + exact(p) * exact(q)
    if total == 0:
        # What cancels has two signs, so where both are negative both are -0.
        return SIGN * (single // SIGN * sign_of_product(p, q))
    return rounded_single(total)


def take_step(single, p, q):
    return add_product(single, p * SPAN_16, q * SPAN_16)


def take_two_steps(single, x, w, at):
    # The later pair comes first.
    single = take_step(single, x[at + 1], w[at + 1])
    return take_step(single, x[at], w[at])


def step(k, sums, a, b):
    answer = sixteen(sums)
    factors = sixteen(a)
    weights = sixteen(b)
    for j in range(LANES):
        if is_in(k, j):
            answer[j] = take_two_steps(answer[j], parts(factors[j], SPAN_16), parts(weights[j], SPAN_16), 0)
    return answer


def whole_blocks(numbers):
    return numbers + [0] * (-len(numbers) % BLOCK)


def sums_of_blocks(x, w):
    # Steps past n are taken too: one with +0 makes a sum of -0 a +0.
    sums = [0] * LANES
    for at in range(0, len(x), 2):
        j = at // 2 % LANES
        sums[j] = take_two_steps(sums[j], x, w, at)
    return sums


def folded(sums):
    while len(sums) > 1:
        half = len(sums) // 2
        sums = [add_product(sums[j], sums[j + half], ONE) for j in range(half)]
    return sums[0]


def floats(rows, n, x, w):
    if is_refused(rows, n):
        return [-1]
    factors = whole_blocks(x)
    answer = [0]
    for i in range(rows):
        # The row's own weights alone: the next row's begin just behind them.
        weights = whole_blocks(w[n * i:n * i + n])
        answer.append(folded(sums_of_blocks(factors, weights)))
    return answer
