package row

import (
	"math"
	"math/bits"
	"testing"
)

const all = math.MaxUint64

var noBits = []int{-1, -2, -63, -64, -65, 64, 65, 127, 128, 1 << 32, 1<<32 + 5, -1 << 32, 1<<40 + 63, math.MinInt, math.MinInt + 5, math.MaxInt, math.MaxInt - 63}

// rows are ordinary ones and edges: each bit alone, each missing alone, all from one on, all below one, and a run that goes on from itself.
func rows() []uint64 {
	l := []uint64{0, all, 12, 1 << 31, 1 << 32, 1<<32 - 1, 0x5555555555555555, 0xaaaaaaaaaaaaaaaa, 1<<63 | 1}
	for i := range 64 {
		one := uint64(1) << i
		l = append(l, one, ^one, uint64(all)<<i, one-1)
	}
	x := uint64(1)
	for range 2000 {
		x = x*6364136223846793005 + 1442695040888963407
		l = append(l, x, x&(x>>7)&(x<<9), x<<(x>>58))
	}
	return l
}

// has says what a row holds by another road than shifts: halving it i times.
func has(r uint64, i int) bool {
	if i < 0 || i > 63 {
		return false
	}
	for range i {
		r /= 2
	}
	return r%2 == 1
}

// P3.1: Set and Clear change bit i alone, and Is tells it.
func TestSetClearIs(t *testing.T) {
	for _, r := range rows()[:400] {
		for i := range 64 {
			with, without := Set(r, i), Clear(r, i)
			if !Is(with, i) || Is(without, i) {
				t.Errorf("%#x, bit %d: with %#x, without %#x", r, i, with, without)
			}
			if Is(r, i) != has(r, i) {
				t.Errorf("Is(%#x, %d): %v", r, i, Is(r, i))
			}
			if Is(r, i) && with != r || !Is(r, i) && without != r {
				t.Errorf("%#x, bit %d: with %#x, without %#x: one of them is the row", r, i, with, without)
			}
			if with-without != uint64(1)<<i {
				t.Errorf("%#x, bit %d: with %#x, without %#x: another bit changed", r, i, with, without)
			}
		}
	}
}

// P3.1: each bit alone, bits 0 and 63 as numbers.
func TestEachBit(t *testing.T) {
	want := uint64(1)
	for i := range 64 {
		if Set(0, i) != want || Clear(want, i) != 0 || Set(all-want, i) != all || Clear(all, i) != all-want {
			t.Errorf("bit %d: %#x", i, Set(0, i))
		}
		if at, ok := First(want); at != i || !ok {
			t.Errorf("First(%#x): %d %v", want, at, ok)
		}
		if Count(want) != 1 || Count(all-want) != 63 {
			t.Errorf("bit %d: %d, %d", i, Count(want), Count(all-want))
		}
		want *= 2
	}
	if Set(0, 0) != 1 || Set(0, 63) != 9223372036854775808 {
		t.Errorf("ends: %d, %d", Set(0, 0), Set(0, 63))
	}
}

// P3.1: no such bit: the row as it was, and it is not set.
func TestNoSuchBit(t *testing.T) {
	for _, i := range noBits {
		for _, r := range []uint64{0, 1, 9, 12, 1 << 63, 1<<63 | 1, all} {
			if v := Set(r, i); v != r {
				t.Errorf("Set(%#x, %d): %#x", r, i, v)
			}
			if v := Clear(r, i); v != r {
				t.Errorf("Clear(%#x, %d): %#x", r, i, v)
			}
			if Is(r, i) {
				t.Errorf("Is(%#x, %d)", r, i)
			}
		}
	}
}

// P3.1, First, at the edges and the chapter's example.
func TestFirst(t *testing.T) {
	for _, x := range []struct {
		r    uint64
		want int
		ok   bool
	}{
		{0, 0, false},
		{1, 0, true},
		{2, 1, true},
		{12, 2, true},
		{all, 0, true},
		{all - 1, 1, true},
		{1 << 31, 31, true},
		{1<<32 | 1<<31, 31, true},
		{1 << 32, 32, true},
		{1<<63 | 1<<62, 62, true},
		{1 << 63, 63, true},
	} {
		if at, ok := First(x.r); at != x.want || ok != x.ok {
			t.Errorf("First(%#x): %d %v, want %d %v", x.r, at, ok, x.want, x.ok)
		}
	}
}

// What follows: what is first is set, and none below it.
func TestFirstIsSetAndNoneBelow(t *testing.T) {
	for _, r := range rows() {
		at, ok := First(r)
		if ok != (r != 0) {
			t.Errorf("First(%#x): %v", r, ok)
			continue
		}
		if !ok {
			continue
		}
		if !Is(r, at) {
			t.Errorf("First(%#x): %d is not set", r, at)
		}
		for i := range at {
			if Is(r, i) {
				t.Errorf("First(%#x): %d, and %d is set", r, at, i)
			}
		}
	}
}

// P3.1, Count.
func TestCount(t *testing.T) {
	for _, x := range []struct {
		r    uint64
		want int
	}{
		{0, 0}, {1, 1}, {12, 2}, {1 << 63, 1}, {1<<63 | 1, 2}, {all, 64}, {all - 1, 63}, {all >> 1, 63}, {1<<32 - 1, 32}, {all - (1<<32 - 1), 32}, {0x5555555555555555, 32},
	} {
		if n := Count(x.r); n != x.want {
			t.Errorf("Count(%#x): %d, want %d", x.r, n, x.want)
		}
	}
	for _, r := range rows() {
		if n := Count(r); n != bits.OnesCount64(r) {
			t.Errorf("Count(%#x): %d, want %d", r, n, bits.OnesCount64(r))
		}
	}
}

// A row that is taken from its first on comes out in order, whole, and is then empty.
func TestTakenFromFirstOn(t *testing.T) {
	for _, r := range rows() {
		rest, last := r, -1
		for left := Count(r); left > 0; left-- {
			at, ok := First(rest)
			if !ok || at <= last || Count(rest) != left {
				t.Fatalf("%#x: %d %v behind %d, %d left", r, at, ok, last, Count(rest))
			}
			rest, last = Clear(rest, at), at
		}
		if rest != 0 {
			t.Errorf("%#x: %#x is left", r, rest)
		}
	}
}
