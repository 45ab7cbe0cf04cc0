package sat

import (
	"math"
	"math/big"
	"testing"
)

const top, low = math.MaxInt64, math.MinInt64

type row struct {
	a, b, want int64
	ok         bool
}

type call func(a, b int64) (int64, bool)

func check(t *testing.T, name string, f call, rows []row) {
	t.Helper()
	for _, x := range rows {
		if v, ok := f(x.a, x.b); v != x.want || ok != x.ok {
			t.Errorf("%s(%d, %d): %d %v, want %d %v", name, x.a, x.b, v, ok, x.want, x.ok)
		}
	}
}

// P1.1, Add.
func TestAdd(t *testing.T) {
	check(t, "Add", Add, []row{
		{0, 0, 0, true},
		{1, 2, 3, true},
		{7, -9, -2, true},
		{-7, 9, 2, true},
		{-7, -9, -16, true},
		{1<<32 - 1, 1, 1 << 32, true},
		{1 << 32, -1, 1<<32 - 1, true},
		{-1 << 32, -1, -1<<32 - 1, true},
		{top, 0, top, true},
		{low, 0, low, true},
		{top - 1, 1, top, true},
		{top, 1, top, false},
		{1, top, top, false},
		{top, top, top, false},
		{low + 1, -1, low, true},
		{low, -1, low, false},
		{-1, low, low, false},
		{low, low, low, false},
		{top, low, -1, true},
		{low, top, -1, true},
		{1 << 62, 1<<62 - 1, top, true},
		{1 << 62, 1 << 62, top, false},
		{-1 << 62, -1 << 62, low, true},
		{-1 << 62, -1<<62 - 1, low, false},
	})
}

// P1.1, Sub.
func TestSub(t *testing.T) {
	check(t, "Sub", Sub, []row{
		{0, 0, 0, true},
		{1, 2, -1, true},
		{7, -9, 16, true},
		{-7, 9, -16, true},
		{-7, -9, 2, true},
		{1 << 32, 1, 1<<32 - 1, true},
		{1<<32 - 1, -1, 1 << 32, true},
		{-1 << 32, 1, -1<<32 - 1, true},
		{top, 0, top, true},
		{low, 0, low, true},
		{top - 1, -1, top, true},
		{top, -1, top, false},
		{low + 1, 1, low, true},
		{low, 1, low, false},
		{top, low, top, false},
		{low, top, low, false},
		{top, top, 0, true},
		{low, low, 0, true},
		{-1, low, top, true},
		{0, low, top, false},
		{0, top, -top, true},
		{-1, top, low, true},
		{-2, top, low, false},
	})
}

// P1.1, Mul.
func TestMul(t *testing.T) {
	check(t, "Mul", Mul, []row{
		{0, 0, 0, true},
		{6, 7, 42, true},
		{6, -7, -42, true},
		{-6, 7, -42, true},
		{-6, -7, 42, true},
		{0, top, 0, true},
		{0, low, 0, true},
		{low, 0, 0, true},
		{-1, 0, 0, true},
		{top, 1, top, true},
		{top, -1, -top, true},
		{low, 1, low, true},
		{low, -1, top, false},
		{-1, low, top, false},
		{top, 2, top, false},
		{top, -2, low, false},
		{low, 2, low, false},
		{top, top, top, false},
		{low, low, top, false},
		{top, low, low, false},
		{low, top, low, false},
		{1 << 62, 2, top, false},
		{1 << 62, -2, low, true},
		{1<<62 + 1, -2, low, false},
		{-1 << 62, -2, top, false},
		{1<<62 - 1, 2, top - 1, true},
		{1 << 31, 1 << 32, top, false},
		{1 << 31, -1 << 32, low, true},
		{1 << 32, 1 << 32, top, false},
		{1 << 32, -1 << 32, low, false},
		{1<<32 - 1, 1<<31 - 1, 9223372030412324865, true},
		{1<<32 - 1, 1<<32 - 1, top, false},
		{1<<32 + 1, 1<<31 - 1, 1<<63 - 1<<32 + 1<<31 - 1, true},
		{3037000499, 3037000499, 9223372030926249001, true},
		{3037000500, 3037000500, top, false},
		{3037000500, -3037000500, low, false},
		{7, 1317624576693539401, top, true}, // a divisor of the greatest
		{7, 1317624576693539402, top, false},
	})
}

// P1.1, Up: with and without a remainder, and at the greatest.
func TestUp(t *testing.T) {
	check(t, "Up", Up, []row{
		{7, 3, 3, true},
		{6, 3, 2, true},
		{8, 3, 3, true},
		{0, 1, 0, true},
		{0, top, 0, true},
		{1, 1, 1, true},
		{1, 2, 1, true},
		{1, top, 1, true},
		{top, 1, top, true},
		{top, 2, 1 << 62, true},
		{top - 1, 2, 1<<62 - 1, true},
		{top, 7, 1317624576693539401, true},
		{top, top, 1, true},
		{top - 1, top, 1, true},
		{top, top - 1, 2, true},
	})
}

// P1.1, Up: what it may not be handed.
func TestUpWrong(t *testing.T) {
	check(t, "Up", Up, []row{
		{3, 0, 0, false},
		{0, 0, 0, false},
		{3, -1, 0, false},
		{3, low, 0, false},
		{-1, 1, 0, false},
		{-1, 3, 0, false},
		{low, 1, 0, false},
		{-3, -3, 0, false},
		{low, -1, 0, false},
		{low, low, 0, false},
		{low, 0, 0, false},
	})
}

// edges are numbers about each power of two that halves hang on, of either sign, and about both ends.
func edges() []int64 {
	var l []int64
	for _, v := range []int64{0, 1 << 15, 1 << 16, 1 << 30, 1 << 31, 1 << 32, 1 << 33, 3037000500, 1 << 47, 1 << 48, 1 << 61, 1 << 62, top / 3, top / 7, 0x5555555555555555, 0x123456789abcdef} {
		for d := int64(-3); d <= 3; d++ {
			l = append(l, v+d, -v+d)
		}
	}
	for d := int64(0); d <= 3; d++ {
		l = append(l, top-d, low+d)
	}
	return l
}

// clamp tells v as P1.1 wants it told, by numbers that have no end.
func clamp(v *big.Int) (int64, bool) {
	switch {
	case v.IsInt64():
		return v.Int64(), true
	case v.Sign() < 0:
		return low, false
	}
	return top, false
}

// "Nothing wraps": each call against numbers that have no end.
func TestAgainstBig(t *testing.T) {
	for _, a := range edges() {
		for _, b := range edges() {
			x, y := big.NewInt(a), big.NewInt(b)
			v, ok := clamp(new(big.Int).Add(x, y))
			check(t, "Add", Add, []row{{a, b, v, ok}})
			v, ok = clamp(new(big.Int).Sub(x, y))
			check(t, "Sub", Sub, []row{{a, b, v, ok}})
			v, ok = clamp(new(big.Int).Mul(x, y))
			check(t, "Mul", Mul, []row{{a, b, v, ok}})
			checkUp(t, a, b)
		}
	}
}

// checkUp asks of Up what its promise says: the least q for which q times b is not below a.
func checkUp(t *testing.T, a, b int64) {
	t.Helper()
	q, ok := Up(a, b)
	if a < 0 || b < 1 {
		if q != 0 || ok {
			t.Errorf("Up(%d, %d): %d %v, want 0 false", a, b, q, ok)
		}
		return
	}
	x, y, z := big.NewInt(a), big.NewInt(b), big.NewInt(q)
	product := new(big.Int).Mul(z, y)
	before := new(big.Int).Sub(product, y)
	if !ok || product.Cmp(x) < 0 || before.Cmp(x) >= 0 {
		t.Errorf("Up(%d, %d): %d %v", a, b, q, ok)
	}
}
