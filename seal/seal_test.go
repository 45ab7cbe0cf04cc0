package seal

import (
	"encoding/binary"
	"math"
	"math/bits"
	"slices"
	"testing"
)

const least, greatest = math.MinInt64, math.MaxInt64

// edges are numbers at and beside the ends of numbers and of their bytes.
var edges = []int64{
	least, least + 1, -1 << 56, -1 << 55, -1 << 32, -1<<31 - 1, -1 << 31, -65536, -257, -256, -255, -129, -128, -127, -2, -1,
	0, 1, 2, 127, 128, 255, 256, 257, 65535, 65536, 1<<31 - 1, 1 << 31, 1<<32 - 1, 1 << 32, 1<<55 - 1, 1 << 55, 1<<56 - 1, 1 << 56, 1 << 62, greatest - 1, greatest,
}

// want asks that the sum of l is h, each time, and that l is left as it was.
func want(t *testing.T, l []int64, h uint32) {
	t.Helper()
	was := slices.Clone(l)
	for range 2 {
		if got := Sum(l); got != h {
			t.Errorf("%v: %#08x, want %#08x", short(l), got, h)
		}
	}
	if !slices.Equal(l, was) {
		t.Errorf("%v became %v", short(was), short(l))
	}
}

// short tells the beginning of l.
func short(l []int64) []int64 { return l[:min(len(l), 12)] }

// laid tells the sum of l in another way: the beginning and each byte lie in it side by side, each turned once for each byte that comes behind.
func laid(l []int64) uint32 {
	var b []byte
	for _, v := range l {
		b = binary.LittleEndian.AppendUint64(b, uint64(v))
	}
	h := bits.RotateLeft32(0x811C9DC5, 5*len(b)%32)
	for i, x := range b {
		h ^= bits.RotateLeft32(uint32(x), 5*(len(b)-1-i)%32)
	}
	return h
}

// rows are rows of numbers of all lengths up to 40, and some long ones; each number is of the edges, or made by a rule.
func rows() [][]int64 {
	l := [][]int64{nil}
	for n := 1; n <= 40; n++ {
		l = append(l, made(n), slices.Repeat([]int64{int64(-n)}, n))
	}
	for _, v := range edges {
		for _, w := range edges {
			l = append(l, []int64{v, w})
		}
		l = append(l, []int64{v}, []int64{7, v, -8}, slices.Repeat([]int64{v}, 5))
	}
	return append(l, edges, made(257), made(1000), made(65537))
}

// made tells n numbers, which have nothing in common.
func made(n int) []int64 {
	l := make([]int64, n)
	v := uint64(n)
	for i := range l {
		v = v*6364136223846793005 + 1442695040888963407
		l[i] = int64(v ^ v>>29)
	}
	return l
}

// P10.1: the sum of nothing; nil and an empty list are one, whatever room there is.
func TestNothing(t *testing.T) {
	want(t, nil, 0x811C9DC5)
	want(t, []int64{}, 0x811C9DC5)
	want(t, make([]int64, 0, 9), 0x811C9DC5)
	want(t, []int64{1, 2, 3}[:0], 0x811C9DC5)
}

// P10.1: sums of one number: its bytes, the lowest first; each turns all that was ahead of it by five bits.
func TestOne(t *testing.T) {
	for _, x := range []struct {
		v int64
		h uint32
	}{
		{0, 0x1C9DC581}, {1, 0x1C9DC589}, {-1, 0x2D11A158}, {85, 0x1C9DC729}, {-86, 0x2D11A3F0},
		{127, 0x1C9DC679}, {128, 0x1C9DC181}, {-128, 0x2D11A2A0}, {255, 0x1C9DC279}, {256, 0x5C9DC581},
		{0x0102030405060708, 0xD0CFC981}, {0x0807060504030201, 0x9ADF5D61},
		{1 << 56, 0x1C9DC580}, {-1 << 56, 0x1C9DC57E}, {0x7F << 56, 0x1C9DC5FE},
		{greatest, 0x2D11A1D8}, {greatest - 1, 0x2D11A1D0}, {least, 0x1C9DC501}, {least + 1, 0x1C9DC509},
	} {
		want(t, []int64{x.v}, x.h)
	}
}

// P10.1: sums of rows of numbers, in their order.
func TestRows(t *testing.T) {
	for _, x := range []struct {
		l []int64
		h uint32
	}{
		{[]int64{1, 2}, 0x9DC5890C}, {[]int64{2, 1}, 0x9DC59114}, {[]int64{7, -8}, 0xAC49DDFD}, {[]int64{-1, -1}, 0x202D3CF4},
		{[]int64{least, greatest}, 0xAC496545}, {[]int64{greatest, least}, 0x11A1D8AD},
		{[]int64{1, 2, 3}, 0xC5890C85}, {[]int64{3, 2, 1}, 0xC5990C95},
	} {
		want(t, x.l, x.h)
	}
}

// P10.1: noughts are numbers too: each turns the sum by forty bits, that is by eight.
func TestNoughts(t *testing.T) {
	for i, h := range []uint32{0x811C9DC5, 0x1C9DC581, 0x9DC5811C, 0xC5811C9D, 0x811C9DC5, 0x1C9DC581} {
		want(t, make([]int64, i), h)
	}
	want(t, []int64{1, 0}, 0x9DC5891C)
	want(t, []int64{0, 1}, 0x9DC58114)
}

// P10.1: long rows.
func TestLong(t *testing.T) {
	want(t, slices.Repeat([]int64{0}, 1000), 0x811C9DC5)
	want(t, slices.Repeat([]int64{-1}, 1000), 0x811C9DC5)
	want(t, slices.Repeat([]int64{least}, 999), 0x45811C9D)
	var up, about []int64
	for i := range int64(1000) {
		up, about = append(up, i), append(about, i-500)
	}
	want(t, up, 0xA13CBDE5)
	want(t, about, 0x990485DD)
}

// P10.1: rows of all kinds, against sums that are laid out at once.
func TestLaid(t *testing.T) {
	for _, l := range rows() {
		want(t, l, laid(l))
	}
}

// P10.1: numbers of which one byte alone is set, that one anything: it stands in the sum where the bytes behind it have turned it.
func TestOneByte(t *testing.T) {
	for at := range 8 {
		for b := range 256 {
			v := int64(uint64(b) << (8 * at))
			want(t, []int64{v}, 0x1C9DC581^bits.RotateLeft32(uint32(b), 5*(7-at)))
		}
	}
}

// P10.1: what is ahead of a number counts as its sum alone: a row that is cut is summed as one that goes on.
func TestGoesOn(t *testing.T) {
	l := made(24)
	for n := range l {
		h := bits.RotateLeft32(Sum(l[:n]), 8) ^ Sum(l[n:n+1]) ^ 0x1C9DC581
		want(t, l[:n+1], h)
	}
}

// What follows: each byte of each number, at the beginning, in the middle and at the end of a row, turned to anything else: the sum is another one, and for each another.
func TestTurned(t *testing.T) {
	for _, l := range [][]int64{{0}, {-1}, {least}, {greatest}, {0, 0, 0}, {5, -6, 7}, {least, 0, greatest}, made(4), made(9)} {
		for i := range l {
			for at := range 8 {
				turnedByte(t, l, i, at)
			}
		}
	}
}

// turnedByte asks that l has 256 sums, as one byte of its number i goes through all that it can be.
func turnedByte(t *testing.T, l []int64, i, at int) {
	t.Helper()
	seen := map[uint32]int{}
	for b := range 256 {
		other := slices.Clone(l)
		other[i] ^= int64(uint64(b) << (8 * at))
		h := Sum(other)
		if was, ok := seen[h]; ok {
			t.Errorf("%v: number %d, byte %d, by %#x and by %#x: %#08x", l, i, at, was, b, h)
		}
		seen[h] = b
	}
}

// What follows: in a long row too, a bit that is turned is seen, wherever it is.
func TestTurnedInLong(t *testing.T) {
	l := made(1000)
	h := Sum(l)
	for _, i := range []int{0, 1, 3, 4, 31, 32, 499, 500, 998, 999} {
		for bit := range 64 {
			l[i] ^= int64(uint64(1) << bit)
			if Sum(l) == h {
				t.Errorf("number %d, bit %d", i, bit)
			}
			l[i] ^= int64(uint64(1) << bit)
		}
	}
	want(t, l, h)
}

// R3: neither what is handed in nor its spare room is changed, nor does the room count.
func TestHandedIn(t *testing.T) {
	all := made(16)
	was := slices.Clone(all)
	for n := range all {
		want(t, all[:n], Sum(all[:n:n]))
		want(t, all[n:], laid(was[n:]))
		if !slices.Equal(all, was) {
			t.Fatalf("%d: %v became %v", n, was, all)
		}
	}
}

// R1, R3: a list that is changed behind a sum does not change that one, nor does anything stay from it for the next.
func TestKeepsNothing(t *testing.T) {
	l := []int64{1, 2, 3}
	first := Sum(l)
	l[0], l[2] = 3, 1
	want(t, l, 0xC5990C95)
	want(t, []int64{1, 2, 3}, first)
	want(t, nil, 0x811C9DC5)
}

// FuzzSum: any bytes as numbers: no panic, and the sum as it is laid out.
func FuzzSum(f *testing.F) {
	f.Add([]byte{})
	f.Add(binary.LittleEndian.AppendUint64(nil, 1))
	f.Add(slices.Repeat([]byte{0x80, 0xFF, 0, 1}, 14))
	f.Fuzz(func(t *testing.T, b []byte) {
		var l []int64
		for ; len(b) >= 8; b = b[8:] {
			l = append(l, int64(binary.LittleEndian.Uint64(b)))
		}
		want(t, l, laid(l))
	})
}
