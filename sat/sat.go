// Package sat: numbers that stop at their ends (doc/01-sat.md).
package sat

import "math"

// halfBits: sums and products are reckoned by halves of this many bits, so that nothing on the way leaves its 64 bits.
const halfBits = 32

// Add tells a + b; no, and the end that it goes beyond.
func Add(a, b int64) (int64, bool) {
	ha, la := halves(a)
	hb, lb := halves(b)
	return join(ha+hb, la+lb)
}

// Sub tells a - b; no, and the end that it goes beyond.
func Sub(a, b int64) (int64, bool) {
	ha, la := halves(a)
	hb, lb := halves(b)
	return join(ha-hb, la-lb)
}

// Mul tells a times b; no, and the end that it goes beyond.
func Mul(a, b int64) (int64, bool) {
	size, ok := product(magnitude(a), magnitude(b))
	if (a < 0) != (b < 0) {
		return below(size, ok)
	}
	return above(size, ok)
}

// Up tells a by b, rounded up; no, 0: b is below 1, or a below 0.
func Up(a, b int64) (int64, bool) {
	if b < 1 || a < 0 {
		return 0, false
	}
	q := a / b
	if a%b != 0 {
		// b is 2 at least here, so q is far from its end.
		q++
	}
	return q, true
}

// halves tells v as high and low half: only the high one has a sign.
func halves(v int64) (high, low int64) {
	return v >> halfBits, int64(uint32(v))
}

// join puts halves together; what low has beyond its bits, of either sign, is high's.
func join(high, low int64) (int64, bool) {
	high += low >> halfBits
	if high == int64(int32(high)) {
		return high<<halfBits | int64(uint32(low)), true
	}
	if high < 0 {
		return math.MinInt64, false
	}
	return math.MaxInt64, false
}

// magnitude tells v without its sign: it steps by one, for the least int64 has no opposite.
func magnitude(v int64) uint64 {
	if v < 0 {
		return uint64(-(v + 1)) + 1
	}
	return uint64(v)
}

// product tells a times b, neither above 2^63; no: it has more than 64 bits.
func product(a, b uint64) (uint64, bool) {
	ha, la := a>>halfBits, uint64(uint32(a))
	hb, lb := b>>halfBits, uint64(uint32(b))
	if ha != 0 && hb != 0 {
		return 0, false
	}
	low := la * lb
	// One of the two cross products is 0, and the other is below 2^63.
	high := ha*lb + hb*la + low>>halfBits
	if high>>halfBits != 0 {
		return 0, false
	}
	return high<<halfBits | uint64(uint32(low)), true
}

// above tells size as a number that is not below 0.
func above(size uint64, ok bool) (int64, bool) {
	if !ok || size > math.MaxInt64 {
		return math.MaxInt64, false
	}
	return int64(size), true
}

// below tells the opposite of size; its end is one farther off than above's.
func below(size uint64, ok bool) (int64, bool) {
	if !ok || size > math.MaxInt64+1 {
		return math.MinInt64, false
	}
	if size == 0 {
		return 0, true
	}
	return -int64(size-1) - 1, true
}
