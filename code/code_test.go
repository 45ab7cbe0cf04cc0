package code

import (
	"bytes"
	"math"
	"slices"
	"testing"

	"foliot/api"
)

// span is a range, both ends in it.
type span struct{ low, high int }

func (s span) has(v int) bool { return s.low <= v && v <= s.high }

// ranges has what P5.1 says of each operation, in numbers: what is not named is 0.
var ranges = []struct {
	op      int
	a, b, n span
}{
	{api.End, span{}, span{}, span{}},
	{api.Set, span{0, 7}, span{}, span{-2147483648, 2147483647}},
	{api.Add, span{0, 7}, span{0, 7}, span{}},
	{api.Sub, span{0, 7}, span{0, 7}, span{}},
	{api.Mul, span{0, 7}, span{0, 7}, span{}},
	{api.Shift, span{0, 7}, span{}, span{-63, 63}},
	{api.Narrow, span{0, 7}, span{}, span{1, 64}},
	{api.Skip, span{0, 7}, span{}, span{1, 24}},
	{api.Rep, span{}, span{1, 24}, span{1, 20}},
	{api.Lock, span{0, 3}, span{}, span{}},
	{api.Unlock, span{0, 3}, span{}, span{}},
	{api.Mark, span{}, span{}, span{}},
}

// may says what P5.1 says, by the ranges.
func may(i api.Inst) bool {
	for _, r := range ranges {
		if r.op == i.Op {
			return r.a.has(i.A) && r.b.has(i.B) && r.n.has(i.N)
		}
	}
	return false
}

// numbers are those about each end of a range, about what a byte or four hold, and about the ends of all.
func numbers() []int {
	l := []int{math.MinInt, math.MinInt + 1, math.MaxInt - 1, math.MaxInt}
	for _, v := range []int{0, 1, 3, 7, 12, 20, 24, 63, 64, 127, 128, 255, 256, 1 << 15, 1 << 16, 1 << 24, 1 << 31, 1 << 32, 1 << 40, 1 << 56} {
		for d := -2; d <= 2; d++ {
			l = append(l, v+d, -v+d)
		}
	}
	slices.Sort(l)
	return slices.Compact(l)
}

// each is one of each operation, with numbers of either sign where it has them.
func each() []api.Inst {
	return []api.Inst{
		{Op: api.Set, A: 3, N: -2}, {Op: api.Set, A: 7, N: 0x01020304}, {Op: api.Set, N: math.MinInt32}, {Op: api.Set, N: math.MaxInt32},
		{Op: api.Add, A: 1, B: 7}, {Op: api.Sub, A: 2, B: 6}, {Op: api.Mul, A: 3, B: 5},
		{Op: api.Shift, A: 4, N: -63}, {Op: api.Shift, A: 4, N: 5}, {Op: api.Narrow, A: 5, N: 64}, {Op: api.Skip, A: 6, N: 2},
		{Op: api.Rep, B: 4, N: 20}, {Op: api.Lock, A: 3}, {Op: api.Unlock, A: 3}, {Op: api.Mark}, {Op: api.End},
	}
}

// put says what P5.1 says of Put, by another road than shifts: what has a sign is counted on from 2^32, and divided.
func put(l []api.Inst) []byte {
	b := []byte{byte(len(l))}
	for _, i := range l {
		n := uint64(i.N)
		if i.N < 0 {
			n = uint64(i.N + 4294967296)
		}
		b = append(b, byte(i.Op), byte(i.A), byte(i.B), byte(n/16777216), byte(n/65536%256), byte(n/256%256), byte(n%256))
	}
	return b
}

// checkGood asks that l's Put is what it must be, and is taken as l.
func checkGood(t *testing.T, l []api.Inst) {
	t.Helper()
	b := Put(l)
	if !bytes.Equal(b, put(l)) {
		t.Errorf("Put(%v): %x, want %x", l, b, put(l))
	}
	if x, ok := Take(b); !ok || !slices.Equal(x, l) {
		t.Errorf("Take(%x): %v %v, want %v", b, x, ok, l)
	}
}

// checkRefused asks that b is nobody's Put.
func checkRefused(t *testing.T, b []byte) {
	t.Helper()
	if x, ok := Take(b); ok || len(x) != 0 {
		t.Errorf("Take(%x): %v %v", b, x, ok)
	}
}

// P5.1, May: each operation, at the ends of what it names and one beyond.
func TestMayEnds(t *testing.T) {
	for _, r := range ranges {
		for _, a := range []int{r.a.low - 1, r.a.low, r.a.high, r.a.high + 1} {
			for _, b := range []int{r.b.low - 1, r.b.low, r.b.high, r.b.high + 1} {
				for _, n := range []int{r.n.low - 1, r.n.low, r.n.high, r.n.high + 1} {
					i := api.Inst{Op: r.op, A: a, B: b, N: n}
					want := r.a.has(a) && r.b.has(b) && r.n.has(n)
					if May(i) != want {
						t.Errorf("May(%v): %v", i, !want)
					}
				}
			}
		}
	}
}

// P5.1, May and Put: the numbers of which a few bits alone would be in a range, too.
func TestMayAll(t *testing.T) {
	l := numbers()
	for op := -2; op <= api.Mark+2; op++ {
		for _, v := range l {
			for _, w := range l {
				for _, i := range []api.Inst{{Op: op, A: v, B: w}, {Op: op, A: v, N: w}, {Op: op, B: v, N: w}, {Op: op, A: v, B: 1, N: w}, {Op: op, A: 1, B: v, N: w}} {
					if May(i) != may(i) {
						t.Fatalf("May(%v): %v", i, May(i))
					}
					if (Put([]api.Inst{i}) != nil) != may(i) {
						t.Fatalf("Put(%v): %x", i, Put([]api.Inst{i}))
					}
				}
			}
		}
	}
}

// P5.1, May: operations that there are not.
func TestMayOp(t *testing.T) {
	for _, op := range numbers() {
		for _, n := range []int{0, 1} {
			for _, b := range []int{0, 1} {
				i := api.Inst{Op: op, B: b, N: n}
				if May(i) != may(i) {
					t.Errorf("May(%v): %v", i, May(i))
				}
			}
		}
	}
	for _, op := range []int{api.End - 1, api.Mark + 1} {
		if May(api.Inst{Op: op}) {
			t.Errorf("operation %d", op)
		}
	}
}

// P5.1, Put: the bytes of some, written out; the chapter's example, too.
func TestPutBytes(t *testing.T) {
	for _, x := range []struct {
		l    []api.Inst
		want string
	}{
		{nil, "\x00"},
		{[]api.Inst{}, "\x00"},
		{[]api.Inst{{Op: api.End}}, "\x01\x00\x00\x00\x00\x00\x00\x00"},
		{[]api.Inst{{Op: api.Mark}}, "\x01\x0b\x00\x00\x00\x00\x00\x00"},
		{[]api.Inst{{Op: api.Set, A: 7, N: -1}}, "\x01\x01\x07\x00\xff\xff\xff\xff"},
		{[]api.Inst{{Op: api.Set, N: math.MinInt32}}, "\x01\x01\x00\x00\x80\x00\x00\x00"},
		{[]api.Inst{{Op: api.Set, N: math.MaxInt32}}, "\x01\x01\x00\x00\x7f\xff\xff\xff"},
		{[]api.Inst{{Op: api.Set, A: 1, N: 0x12345678}}, "\x01\x01\x01\x00\x12\x34\x56\x78"},
		{[]api.Inst{{Op: api.Shift, A: 2, N: -63}}, "\x01\x05\x02\x00\xff\xff\xff\xc1"},
		{[]api.Inst{{Op: api.Sub, A: 1, B: 6}, {Op: api.Rep, B: 24, N: 20}, {Op: api.Unlock, A: 3}}, "\x03\x03\x01\x06\x00\x00\x00\x00\x08\x00\x18\x00\x00\x00\x14\x0a\x03\x00\x00\x00\x00\x00"},
	} {
		if b := Put(x.l); string(b) != x.want {
			t.Errorf("Put(%v): %x, want %x", x.l, b, x.want)
		}
		if l, ok := Take([]byte(x.want)); !ok || !slices.Equal(l, x.l) {
			t.Errorf("Take(%x): %v %v, want %v", x.want, l, ok, x.l)
		}
	}
}

// 'What follows': what is put is taken. Each operation alone, at the ends of what it names, and in rows of each length.
func TestPutTaken(t *testing.T) {
	for _, r := range ranges {
		for _, a := range []int{r.a.low, r.a.high} {
			for _, b := range []int{r.b.low, r.b.high} {
				for _, n := range []int{r.n.low, r.n.high} {
					checkGood(t, []api.Inst{{Op: r.op, A: a, B: b, N: n}})
				}
			}
		}
	}
	long := append(each(), each()...)
	for from := range each() {
		for n := 0; n <= api.MaxCode && from+n <= len(long); n++ {
			checkGood(t, long[from:from+n])
		}
	}
}

// 'What follows', of numbers with a sign: each bit of N alone, each missing alone, and a run that goes on from itself.
func TestSigns(t *testing.T) {
	var l []int32
	for k := range 32 {
		one := int32(uint32(1) << k)
		l = append(l, one, -one, ^one, one-1)
	}
	x := uint32(1)
	for range 5000 {
		x = x*1664525 + 1013904223
		l = append(l, int32(x))
	}
	for _, n := range l {
		checkGood(t, []api.Inst{{Op: api.Set, A: 2, N: int(n)}, {Op: api.End}})
	}
	for n := -63; n <= 63; n++ {
		checkGood(t, []api.Inst{{Op: api.Shift, N: n}})
	}
}

// P5.1, Put: MaxCode instructions, and more; one that may not be, at each place.
func TestPutNothing(t *testing.T) {
	full := make([]api.Inst, api.MaxCode)
	if b := Put(full); len(b) != 169 || b[0] != 24 {
		t.Errorf("MaxCode: %x", b)
	}
	for _, n := range []int{25, 26, 255, 256, 257, 256 + 24, 1 << 16} {
		if b := Put(make([]api.Inst, n)); len(b) != 0 {
			t.Errorf("%d instructions: %d bytes", n, len(b))
		}
	}
	for _, bad := range []api.Inst{{Op: -1}, {Op: 12}, {Op: 256}, {Op: api.Narrow}, {Op: api.End, N: 1}, {Op: api.Set, N: 1 << 32}, {Op: api.Add, A: 256}} {
		for at := range full {
			l := slices.Clone(full)
			l[at] = bad
			for _, m := range [][]api.Inst{l, l[:at+1], l[at:]} {
				if b := Put(m); len(b) != 0 {
					t.Errorf("%v at %d: %x", bad, at, b)
				}
			}
		}
	}
}

// P5.1, Take: bytes cut off, and bytes with more behind them.
func TestTakeLength(t *testing.T) {
	checkRefused(t, nil)
	checkRefused(t, []byte{})
	for n := range api.MaxCode + 1 {
		b := put(make([]api.Inst, n))
		for k := range len(b) {
			checkRefused(t, b[:k:k])
			checkRefused(t, b[:k]) // what stands in the spare room is not read
		}
		for more := 1; more <= 8; more++ {
			checkRefused(t, append(slices.Clone(b), make([]byte, more)...))
		}
	}
}

// P5.1, Take: each count there is, ahead of each number of instructions.
func TestTakeCount(t *testing.T) {
	for count := range 256 {
		for n := range 40 {
			b := make([]byte, 1+7*n)
			b[0] = byte(count)
			l, ok := Take(b)
			if want := count == n && n <= 24; ok != want || want && len(l) != n || !want && len(l) != 0 {
				t.Errorf("count %d of %d: %v %v", count, n, l, ok)
			}
		}
		checkRefused(t, append([]byte{byte(count)}, make([]byte, 7*256+7*count)...))
	}
	for count := 25; count < 256; count++ {
		checkRefused(t, append([]byte{byte(count)}, make([]byte, 7*count)...))
	}
}

// P5.1, Take: it says yes to just the bytes of instructions that may be, and those are what is told.
func TestTakeInstructions(t *testing.T) {
	fields := []byte{0, 1, 2, 3, 4, 7, 8, 9, 20, 21, 24, 25, 127, 128, 254, 255}
	for op := range 256 {
		for _, a := range fields {
			for _, b := range fields {
				for _, n := range numbers() {
					if n < math.MinInt32 || n > math.MaxInt32 || op > 20 && op < 250 && n != 0 {
						continue
					}
					i := api.Inst{Op: op, A: int(a), B: int(b), N: n}
					if l, ok := Take(put([]api.Inst{i})); ok != may(i) || ok && !slices.Equal(l, []api.Inst{i}) || !ok && len(l) != 0 {
						t.Fatalf("%v: %v %v", i, l, ok)
					}
				}
			}
		}
	}
}

// P5.1, Take: one that may not be, at each place of a row.
func TestTakeBadPlace(t *testing.T) {
	for _, bad := range []api.Inst{{Op: 12}, {Op: 255}, {Op: api.End, A: 1}, {Op: api.Mark, N: -1}, {Op: api.Narrow, N: -1}, {Op: api.Shift, N: -64}, {Op: api.Lock, A: 4}} {
		for at := range each() {
			l := each()
			l[at] = bad
			checkRefused(t, put(l))
		}
	}
}

// P5.1, Take: each bit of a row turned: no, or instructions whose Put is just that.
func TestTakeTurned(t *testing.T) {
	good := Put(each())
	for at := range good {
		for bit := range 8 {
			b := slices.Clone(good)
			b[at] ^= 1 << bit
			l, ok := Take(b)
			if ok && !bytes.Equal(Put(l), b) || !ok && len(l) != 0 {
				t.Errorf("bit %d of byte %d: %v %v", bit, at, l, ok)
			}
		}
	}
}

// R1: whatever bytes there are: no panic, and a yes for a Put alone.
func FuzzTake(f *testing.F) {
	f.Add([]byte{})
	f.Add([]byte{0})
	f.Add(Put(each()))
	f.Add(append([]byte{25}, make([]byte, 175)...))
	f.Fuzz(func(t *testing.T, b []byte) {
		was := slices.Clone(b)
		l, ok := Take(b)
		if !bytes.Equal(b, was) {
			t.Errorf("%x became %x", was, b)
		}
		if ok && !bytes.Equal(Put(l), b) || !ok && len(l) != 0 {
			t.Errorf("Take(%x): %v %v", b, l, ok)
		}
	})
}

// R3: what is handed in stays as it is, its spare room too.
func TestHandedInStays(t *testing.T) {
	bad := append(each(), api.Inst{Op: 99, A: -1, N: math.MaxInt})
	for n := range len(bad) + 1 {
		l := slices.Clone(bad)
		Put(l[:n])
		if !slices.Equal(l, bad) {
			t.Errorf("Put of %d: %v", n, l)
		}
	}
	full := append(put(each()), 9, 8, 7)
	for n := range len(full) + 1 {
		b := slices.Clone(full)
		Take(b[:n])
		if !bytes.Equal(b, full) {
			t.Errorf("Take of %d: %x", n, b)
		}
	}
}

// R3 and R4: what is told is new memory, so whatever becomes of it, the same again tells the same.
func TestSameAgain(t *testing.T) {
	l := each()
	want := put(l)
	for range 3 {
		b := Put(l)
		x, ok := Take(want)
		if !bytes.Equal(b, want) || !ok || !slices.Equal(x, l) {
			t.Errorf("%x, %v %v", b, x, ok)
		}
		clear(b[:cap(b)])
		clear(x[:cap(x)])
	}
	if b := Put(nil); len(b) == 1 {
		b[0] = 5
	}
	if b := Put(nil); !bytes.Equal(b, []byte{0}) {
		t.Errorf("no instruction: %x", b)
	}
}
