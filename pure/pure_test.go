package pure

import (
	"math"
	"math/big"
	"slices"
	"strconv"
	"strings"
	"testing"

	"foliot/api"
	"foliot/cost"
	"foliot/shape"
)

// edges are numbers at and beside the ends of numbers.
var edges = []int64{
	math.MinInt64, math.MinInt64 + 1, math.MinInt64 / 2, -1 << 32, math.MinInt32, -256, -129, -128, -3, -2, -1,
	0, 1, 2, 3, 5, 127, 128, 255, 256, math.MaxInt32, 1 << 31, 1 << 32, 1 << 62, 0x5555555555555555, math.MaxInt64 - 1, math.MaxInt64,
}

// operations are the letters of words, by what they are.
var operations = map[byte]int{
	'e': api.End, 's': api.Set, 'a': api.Add, 'd': api.Sub, 'p': api.Mul, 'h': api.Shift, 'n': api.Narrow, 'k': api.Skip, 'r': api.Rep, 'l': api.Lock, 'u': api.Unlock, 'm': api.Mark,
}

// words reads a program, a word an instruction: s1x-5 sets memory 1 to -5; a1x2, d1x2, p1x2 add, subtract, multiply memory 2; h1x3 shifts, n1x8 narrows memory 1; k1x2 passes over 2 if memory 1 is 0; r2x3 does the next 2 for 3 times; l1, u1 a Lock, an Unlock; m a Mark; e an End. No End is put behind it.
func words(s string) []api.Inst {
	var l []api.Inst
	for _, w := range strings.Fields(s) {
		one, two, _ := strings.Cut(w[1:], "x")
		first, _ := strconv.Atoi(one)
		second, _ := strconv.Atoi(two)
		i := api.Inst{Op: operations[w[0]]}
		switch i.Op {
		case api.Add, api.Sub, api.Mul:
			i.A, i.B = first, second
		case api.Rep:
			i.B, i.N = first, second
		default:
			i.A, i.N = first, second
		}
		l = append(l, i)
	}
	return l
}

// repeated is a word, n times.
func repeated(n int, w string) string { return strings.Repeat(w+" ", n) }

// want asks that l, given in, comes to out in so many ticks, within its cost.
func want(t *testing.T, l []api.Inst, in, out, ticks int64) {
	t.Helper()
	was := slices.Clone(l)
	gotOut, gotTicks, ok := Run(l, in)
	if !ok || gotOut != out || gotTicks != ticks {
		t.Errorf("%v of %d: %d in %d, %v, want %d in %d", l, in, gotOut, gotTicks, ok, out, ticks)
	}
	if c, ok := cost.Of(l); !ok || gotTicks > c.All {
		t.Errorf("%v of %d: %d ticks, of %v", l, in, gotTicks, c)
	}
	if !slices.Equal(l, was) {
		t.Errorf("%v became %v", was, l)
	}
}

// refused asks that Run says no of l, with nothing beside it.
func refused(t *testing.T, l []api.Inst) {
	t.Helper()
	was := slices.Clone(l)
	for _, in := range []int64{math.MinInt64, -1, 0, 1, 7, math.MaxInt64} {
		if out, ticks, ok := Run(l, in); ok || out != 0 || ticks != 0 {
			t.Errorf("%v of %d: %d in %d, %v", l, in, out, ticks, ok)
		}
	}
	if !slices.Equal(l, was) {
		t.Errorf("%v became %v", was, l)
	}
}

// P9.1: an End alone comes to what it is given, whatever that is, in one tick.
func TestEnd(t *testing.T) {
	want(t, words("e"), 7, 7, 1)
	for _, in := range edges {
		want(t, words("e"), in, in, 1)
	}
}

// P9.1: straight programs: what stands at memory 0 at the end, a tick an instruction, with the End.
func TestStraight(t *testing.T) {
	for _, x := range []struct {
		s       string
		in, out int64
	}{
		{"s0x5 e", 7, 5}, {"s0x-5 e", 7, -5}, {"s0x0 e", 7, 0}, {"s0x2147483647 e", 7, math.MaxInt32}, {"s0x-2147483648 e", 7, math.MinInt32},
		{"s1x5 e", 7, 7}, {"s7x5 e", -7, -7}, // another memory is not what it comes to
		{"s1x5 a0x1 e", 7, 12}, {"s1x5 d0x1 e", 7, 2}, {"s1x5 p0x1 e", 7, 35}, {"s7x5 d0x7 e", -7, -12},
		{"a0x0 e", 7, 14}, {"d0x0 e", 7, 0}, {"p0x0 e", -7, 49}, {"a1x0 e", 7, 7}, {"a1x0 a1x0 s0x0 a0x1 e", 7, 14},
		{"a0x1 a0x2 a0x3 a0x4 a0x5 a0x6 a0x7 e", 7, 7}, {"p0x1 e", 7, 0}, {"p0x7 e", -1, 0}, // the others are 0 when it begins
		{"h0x3 e", 7, 56}, {"h0x-1 e", 7, 3}, {"h0x-1 e", -7, -4}, {"h0x0 e", -7, -7}, {"h0x63 e", 7, math.MinInt64}, {"h0x-63 e", -7, -1}, {"h0x-63 e", 7, 0},
		{"n0x8 e", 255, -1}, {"n0x8 e", 127, 127}, {"n0x8 e", -129, 127}, {"n0x1 e", 7, -1}, {"n0x64 e", math.MinInt64, math.MinInt64},
		{"s1x3 s2x4 p1x1 p2x2 a1x2 s0x0 a0x1 e", 9, 25},
		{"s0x1 s0x2 s0x3 e", 9, 3}, // the last one holds
		{"s1x100 p0x1 h0x-3 n0x4 e", 3, 5},
	} {
		l := words(x.s)
		want(t, l, x.in, x.out, int64(len(l)))
	}
}

// P9.1: the least and the greatest number as what is given: nothing stops at an end.
func TestEnds(t *testing.T) {
	for _, x := range []struct {
		s       string
		in, out int64
	}{
		{"s1x1 a0x1 e", math.MaxInt64, math.MinInt64}, {"s1x1 d0x1 e", math.MinInt64, math.MaxInt64}, {"s1x-1 a0x1 e", math.MinInt64, math.MaxInt64},
		{"a0x0 e", math.MaxInt64, -2}, {"a0x0 e", math.MinInt64, 0}, {"p0x0 e", math.MaxInt64, 1}, {"p0x0 e", math.MinInt64, 0}, {"d1x0 s0x0 a0x1 e", math.MinInt64, math.MinInt64},
		{"s1x-1 p0x1 e", math.MinInt64, math.MinInt64}, {"s1x-1 p0x1 e", math.MaxInt64, math.MinInt64 + 1},
		{"h0x1 e", math.MaxInt64, -2}, {"h0x1 e", math.MinInt64, 0}, {"h0x-1 e", math.MinInt64, -1 << 62}, {"h0x-62 e", math.MaxInt64, 1}, {"h0x-63 e", math.MinInt64, -1},
		{"n0x63 e", math.MaxInt64, -1}, {"n0x63 e", math.MinInt64, 0}, {"n0x32 e", math.MaxInt64, -1}, {"s1x5 e", math.MinInt64, math.MinInt64}, {"s1x5 e", math.MaxInt64, math.MaxInt64},
	} {
		l := words(x.s)
		want(t, l, x.in, x.out, int64(len(l)))
	}
	want(t, words("s1x1 r1x20 a0x1 e"), math.MaxInt64, math.MinInt64+19, 23)
	want(t, words("k0x1 s0x9 e"), math.MinInt64, 9, 3)
	want(t, words("k0x1 s0x9 e"), math.MaxInt64, 9, 3)
}

// P9.1: bodies, done as often as their Reps say; each go is ticks of its own, the Rep one.
func TestBodies(t *testing.T) {
	for _, x := range []struct {
		s              string
		in, out, ticks int64
	}{
		{"s1x1 r1x1 a0x1 e", 7, 8, 4},
		{"s1x1 r1x2 a0x1 e", 7, 9, 5},
		{"s1x1 r1x20 a0x1 e", 7, 27, 23},
		{"r1x5 a0x0 e", 3, 96, 7},
		{"s1x3 r1x4 p0x1 e", 2, 162, 7},
		{"s1x3 r2x4 a0x1 d1x2 e", 5, 17, 11},
		{"s1x1 r3x20 a2x1 a3x2 a0x2 e", 0, 210, 63},               // 1 + 2 + .. + 20
		{"s1x1 s2x1 r2x10 a3x1 p2x3 s0x0 a0x2 e", 9, 3628800, 26}, // 1 * 2 * .. * 10
		{"s1x1 r1x3 a0x1 r1x4 a0x1 e", 0, 7, 11},                  // one behind the other
		{"s1x1 r1x3 a0x1 a0x1 a0x1 e", 0, 5, 8},                   // what is behind it is done once
		{"s1x1 r2x3 r1x4 a0x1 e", 0, 12, 18},                      // a body within a body, ending together
		{"s1x1 r3x3 r1x4 a0x1 a0x1 e", 0, 15, 21},                 // ending ahead of it
		{"s1x1 r3x3 a0x1 r1x4 a0x1 e", 0, 15, 21},
		{"s1x1 r4x3 a0x1 r1x4 a0x1 a0x1 e", 0, 18, 24},
		{"s1x1 r4x3 r1x2 a0x1 r1x5 a0x1 e", 0, 21, 30}, // two within one
		{"s1x1 r2x1 r1x1 a0x1 e", 0, 1, 5},
		{"s1x1 r2x20 r1x20 a0x1 e", 5, 405, 423},
		{"s2x1 r6x20 s3x0 a3x1 a3x2 s1x0 a1x2 d2x2 e", 4, 4, 123}, // what it does to other memories only
	} {
		want(t, words(x.s), x.in, x.out, x.ticks)
	}
	for b := 1; b <= 21; b++ {
		for n := 1; n <= 20; n++ {
			s := "s1x1 r" + strconv.Itoa(b) + "x" + strconv.Itoa(n) + " " + repeated(b, "a0x1") + "e"
			want(t, words(s), -7, int64(b*n-7), int64(3+b*n))
		}
	}
}

// P9.1: Skips, taken or not: what is passed over is neither done nor a tick.
func TestSkips(t *testing.T) {
	for _, x := range []struct {
		s              string
		in, out, ticks int64
	}{
		{"k0x1 s0x9 e", 0, 0, 2},
		{"k0x1 s0x9 e", 1, 9, 3},
		{"k0x1 s0x9 e", -1, 9, 3},
		{"k0x2 s0x9 s0x8 e", 0, 0, 2},
		{"k0x2 s0x9 s0x8 e", 1, 8, 4},
		{"k0x1 s0x9 s0x8 e", 0, 8, 3},
		{"k1x1 s0x9 e", 5, 5, 2}, // another memory is 0 when it begins
		{"s1x1 k1x1 s0x9 e", 5, 9, 4},
		{"k0x2 k1x1 s0x9 e", 0, 0, 2}, // one within the other one
		{"k0x2 k1x1 s0x9 e", 5, 5, 3},
		{"k0x3 s1x1 k1x1 s0x9 e", 5, 9, 5},
		{"k1x2 r1x20 s0x9 e", 5, 5, 2}, // a body is passed over
		{"k0x2 r1x20 a0x0 e", 3, 3 << 20, 23},
		{"s1x1 r2x5 k0x1 d0x1 e", 3, 0, 11}, // in a body: passed over as of the go in which it is 0
		{"s1x1 r2x5 k0x1 d0x1 e", 9, 4, 13},
		{"s1x1 r2x5 k0x1 d0x1 e", 0, 0, 8},
		{"s1x1 r3x4 k0x2 d0x1 a2x1 s0x0 a0x2 e", 2, 2, 13},
		{"r3x3 k0x2 k1x1 s0x9 e", 0, 0, 5},
		{"r4x3 k0x3 r2x2 k1x1 s0x9 e", 4, 4, 14},
		{"r4x3 k0x3 r2x2 k1x1 s0x9 e", 0, 0, 5},
		{"k0x22 " + repeated(22, "s0x9") + "e", 0, 0, 2}, // as far as may be
		{"k0x22 " + repeated(22, "s0x9") + "e", 1, 9, 24},
		{"s1x0 a1x0 h1x-63 k1x2 s2x-1 p0x2 e", -42, 42, 7}, // without its sign
		{"s1x0 a1x0 h1x-63 k1x2 s2x-1 p0x2 e", 42, 42, 5},
	} {
		want(t, words(x.s), x.in, x.out, x.ticks)
	}
}

// P9.1: Locks, Unlocks and Marks: a tick each, which changes nothing of what it comes to.
func TestNothingElse(t *testing.T) {
	for _, x := range []struct {
		s              string
		in, out, ticks int64
	}{
		{"m e", 7, 7, 2}, {"m m m e", 7, 7, 4}, {"l0 u0 e", 7, 7, 3}, {"l3 u3 e", 7, 7, 3},
		{"s1x3 m a0x1 e", 7, 10, 4}, // nothing begins anew
		{"a0x0 m a0x0 m a0x0 e", 1, 8, 6},
		{"l1 a0x0 u1 e", 7, 14, 4},
		{"l1 a0x0 l2 a0x0 u2 a0x0 u1 a0x0 e", 1, 16, 9},
		{"l1 u1 l1 u1 e", 7, 7, 5},
		{"s1x1 r3x5 l0 a0x1 u0 e", 0, 5, 18},
		{"s1x1 l0 r3x5 l1 a0x1 u1 u0 m e", 0, 5, 21},
		{"l0 k0x1 s0x9 u0 m e", 0, 0, 5},
		{"k1x3 l0 s0x9 u0 e", 7, 7, 2}, // passed over
		{"m s1x3 r2x4 a0x1 d1x2 m l0 u0 m e", 5, 17, 16},
	} {
		want(t, words(x.s), x.in, x.out, x.ticks)
	}
	want(t, words(repeated(23, "m")+"e"), -7, -7, 24)
	want(t, words(repeated(11, "l0 u0")+"m e"), -7, -7, 24)
}

// P9.1: as many instructions as may be, and the greatest costs.
func TestLongest(t *testing.T) {
	want(t, words(repeated(23, "s0x9")+"e"), 7, 9, 24)
	want(t, words("s1x1 "+repeated(22, "a0x1")+"e"), 7, 29, 24)
	want(t, words(repeated(23, "a0x0")+"e"), 7, 7<<23, 24)
	want(t, words("r22x20 "+repeated(22, "h0x1")+"e"), 7, 0, 442)
	want(t, words("s1x1 r21x20 "+repeated(21, "a0x1")+"e"), 7, 427, 423)
	two := words("r22x20 r21x20 s1x1 " + repeated(20, "a0x1") + "e")
	want(t, two, 7, 7+20*20*20, 1+20*(1+20*21)+1)
	want(t, two, math.MaxInt64, math.MinInt64+7999, 1+20*(1+20*21)+1)
	if c, ok := cost.Of(two); !ok || c.All != 1+20*(1+20*21)+1 {
		t.Errorf("%v %v", c, ok)
	}
	// What is behind the Skip is passed over in each go, or in none.
	want(t, words("r22x20 r21x20 k0x20 "+repeated(20, "s0x1")+"e"), 0, 0, 1+20*(1+20)+1)
	want(t, words("r22x20 r21x20 k0x20 "+repeated(20, "s0x1")+"e"), 5, 1, 1+20*(1+20*21)+1)
	for _, n := range []int{24, 25, 255, 256, 1 << 16} {
		refused(t, words(repeated(n, "s0x9")+"e"))
		refused(t, words(repeated(n, "m")+"e"))
	}
}

// P9.1: whatever may not be: no, and nothing beside it.
func TestNo(t *testing.T) {
	refused(t, nil)
	refused(t, []api.Inst{})
	refused(t, words("s0x9 e")[:0]) // none at all, though there is spare room
	for _, s := range []string{
		"s0x9", "s0x9 s0x9", "m", "l0 u0", "e e", "s0x9 e s0x9 e", "e s0x9", // no End, or one that is not the last alone
		"k1x1 e", "k1x2 s0x9 e", "r1x2 e", "r2x2 s0x9 e", "r24x20 e", "r2x2 s0x9 r1x2 s0x9 e", "k0x2 s0x9 k1x1 s0x9 e", "r1x2 k1x1 s0x9 e", // too far
		"r1x0 s0x9 e", "r1x21 s0x9 e", "r0x2 s0x9 e", "r25x2 s0x9 e", "k0x0 s0x9 e", "k0x25 s0x9 e", "k8x1 s0x9 e", "l4 u4 e", "s8x1 e", "a0x8 e", "h0x64 e", "h0x-64 e", "n0x0 e", "n0x65 e", // what may not be itself
		"r3x2 r2x2 r1x2 s0x9 e",                                                                                                            // too deep
		"l0 e", "u0 e", "l0 u1 e", "l0 l0 u0 u0 e", "l0 l1 u0 u1 e", "l0 l1 l2 u2 u1 u0 e", "r1x2 l0 u0 e", "k1x1 l0 u0 e", "l0 r1x2 u0 e", // no pairs
		"r1x2 m e", "k1x1 m e", "l0 m u0 e", "r3x2 l0 m u0 e", // a Mark in something
	} {
		refused(t, words(s))
	}
	for _, i := range []api.Inst{
		{Op: -1}, {Op: 12}, {Op: math.MinInt}, {Op: math.MaxInt}, {Op: api.Set, A: 8}, {Op: api.Set, A: -1}, {Op: api.Set, B: 1}, {Op: api.Set, N: math.MaxInt32 + 1}, {Op: api.Set, N: math.MinInt32 - 1}, {Op: api.Add, B: -1}, {Op: api.Mul, N: 1}, {Op: api.Narrow, N: -1}, {Op: api.Mark, A: 1},
		{Op: api.Skip, N: math.MaxInt}, {Op: api.Skip, N: math.MinInt}, {Op: api.Rep, B: math.MaxInt, N: 1}, {Op: api.Rep, B: math.MinInt, N: 1}, {Op: api.Rep, B: 1, N: math.MaxInt}, {Op: api.Rep, B: 1, N: -1},
		{Op: api.Rep, A: 1, B: 1, N: 1}, {Op: api.Lock, A: -1}, {Op: api.Lock, A: math.MaxInt}, {Op: api.Unlock, A: math.MinInt}, {A: 1}, {B: 1}, {N: 1},
	} {
		refused(t, []api.Inst{i})
		refused(t, []api.Inst{i, {Op: api.Set}, {}})
		refused(t, []api.Inst{{Op: api.Set}, i})
		refused(t, []api.Inst{{Op: api.Skip, A: 1, N: 1}, i, {}}) // though it would be passed over
		refused(t, []api.Inst{{Op: api.Rep, B: 2, N: 2}, i, {Op: api.Set}, {}})
	}
}

// chance is a run of numbers that goes on from itself.
type chance uint64

func (c *chance) below(n int) int {
	*c = *c*6364136223846793005 + 1442695040888963407
	return int(uint64(*c)>>33) % n
}

// number is a number, one of the edges as often as not.
func (c *chance) number() int64 {
	if c.below(2) == 0 {
		return edges[c.below(len(edges))]
	}
	return int64(c.below(1<<30))<<34 ^ int64(c.below(1<<30))<<10 ^ int64(c.below(1<<10))
}

// plain is an instruction that reckons.
func (c *chance) plain() api.Inst {
	a, b := c.below(4), c.below(4)
	switch c.below(6) {
	case 0:
		return api.Inst{Op: api.Set, A: a, N: c.below(7) - 3}
	case 1:
		return api.Inst{Op: api.Shift, A: a, N: c.below(127) - 63}
	case 2:
		return api.Inst{Op: api.Narrow, A: a, N: 1 + c.below(64)}
	case 3:
		return api.Inst{Op: api.Add, A: a, B: b}
	case 4:
		return api.Inst{Op: api.Sub, A: a, B: b}
	}
	return api.Inst{Op: api.Mul, A: a, B: b}
}

// grown is a piece of a program that may be: at most so long, in so many bodies, with these held.
func grown(c *chance, size, bodies int, held []int, top bool) []api.Inst {
	var l []api.Inst
	for room := size; room > 0 && c.below(8) > 0; room = size - len(l) {
		inner := c.below(room)
		sema := c.below(api.MaxSemas)
		switch kind := c.below(6); {
		case kind == 0 && inner > 0 && bodies < 2:
			if body := grown(c, inner, bodies+1, held, false); len(body) > 0 {
				l = append(append(l, api.Inst{Op: api.Rep, B: len(body), N: 1 + c.below(6)}), body...)
			}
		case kind == 1 && inner > 0:
			if body := grown(c, inner, bodies, held, false); len(body) > 0 {
				l = append(append(l, api.Inst{Op: api.Skip, A: c.below(4), N: len(body)}), body...)
			}
		case kind == 2 && inner > 0 && len(held) < 2 && !slices.Contains(held, sema):
			l = append(l, api.Inst{Op: api.Lock, A: sema})
			l = append(l, grown(c, inner-1, bodies, append(slices.Clone(held), sema), false)...)
			l = append(l, api.Inst{Op: api.Unlock, A: sema})
		case kind == 3 && top:
			l = append(l, api.Inst{Op: api.Mark})
		default:
			l = append(l, c.plain())
		}
	}
	return l
}

// course is a run as it is told here, body in body, by numbers that have no ends.
type course struct {
	mem    [api.MaxMem]*big.Int
	ticks  int64
	passed bool // some Skip passed something over
}

// begun is a course that has not begun, and is given in.
func begun(in int64) *course {
	var c course
	for at := range c.mem {
		c.mem[at] = new(big.Int)
	}
	c.mem[0].SetInt64(in)
	return &c
}

// power is 2^n.
func power(n int) *big.Int { return new(big.Int).Lsh(big.NewInt(1), uint(n)) }

// signed makes x the number with a sign that it is modulo 2^n.
func signed(x *big.Int, n int) {
	x.Mod(x, power(n))
	if x.Cmp(power(n-1)) >= 0 {
		x.Sub(x, power(n))
	}
}

// do does one instruction that reckons.
func (c *course) do(i api.Inst) {
	a := c.mem[i.A]
	switch i.Op {
	case api.Set:
		a.SetInt64(int64(i.N))
	case api.Add:
		a.Add(a, c.mem[i.B])
	case api.Sub:
		a.Sub(a, c.mem[i.B])
	case api.Mul:
		a.Mul(a, c.mem[i.B])
	case api.Narrow:
		signed(a, i.N)
	case api.Shift:
		if i.N < 0 { // what is left of a division is from 0 on, so it rounds down
			a.Div(a, power(-i.N))
		} else {
			a.Mul(a, power(i.N))
		}
	}
	signed(a, 64)
}

// walk goes through a piece of a program in which all that begins ends.
func (c *course) walk(l []api.Inst) {
	for at := 0; at < len(l); at++ {
		i := l[at]
		c.ticks++
		switch i.Op {
		case api.Rep:
			for range i.N {
				c.walk(l[at+1 : at+1+i.B])
			}
			at += i.B
		case api.Skip:
			if c.mem[i.A].Sign() == 0 {
				c.passed = true
				at += i.N
			}
		default:
			c.do(i)
		}
	}
}

// check asks that Run tells of l what its course is, or says no, and leaves l as it is; it tells whether l may be.
func check(t *testing.T, l []api.Inst, in int64) bool {
	t.Helper()
	was := slices.Clone(l)
	out, ticks, ok := Run(l, in)
	if !slices.Equal(l, was) {
		t.Fatalf("%v became %v", was, l)
	}
	if !shape.May(l) {
		if ok || out != 0 || ticks != 0 {
			t.Fatalf("%v of %d: %d in %d, %v", l, in, out, ticks, ok)
		}
		return false
	}
	c := begun(in)
	c.walk(l)
	if !ok || out != c.mem[0].Int64() || ticks != c.ticks {
		t.Fatalf("%v of %d: %d in %d, %v, want %v in %d", l, in, out, ticks, ok, c.mem[0], c.ticks)
	}
	all, ok := cost.Of(l)
	if !ok || ticks > all.All || !c.passed && ticks != all.All {
		t.Fatalf("%v of %d: %d ticks, of %v", l, in, ticks, all)
	}
	return true
}

// P9.1 and 'What follows': all programs of a few instructions, within their cost, and just as long if none is passed over.
func TestAllShort(t *testing.T) {
	alphabet := words("s0x0 s1x1 a0x1 d0x1 m e k0x1 k0x2 k1x1 r1x2 r2x3 r3x2 l0 u0")
	n := 0
	var grow func(l []api.Inst, more int)
	grow = func(l []api.Inst, more int) {
		for _, in := range []int64{0, 1} {
			if check(t, append(slices.Clone(l), api.Inst{}), in) {
				n++
			}
		}
		for _, i := range alphabet {
			if more > 0 {
				grow(append(slices.Clone(l), i), more-1)
			}
		}
	}
	grow(nil, 4)
	if n < 1000 {
		t.Errorf("%d of them may be", n)
	}
}

// P9.1 and 'What follows': programs that are grown as shape has it, of numbers at the ends and others; with one instruction turned, left out or put in, they are run or refused.
func TestGrown(t *testing.T) {
	c := chance(9)
	alphabet := words("s0x9 m e k0x1 k1x2 k2x3 k3x5 r1x2 r2x3 r3x20 r5x1 l0 l1 l2 l3 u0 u1 u2 u3")
	for range 3000 {
		l := append(grown(&c, 23, 0, nil, true), api.Inst{})
		for range 3 {
			if !check(t, l, c.number()) {
				t.Fatalf("%v: it may be", l)
			}
		}
		at := c.below(len(l))
		i := alphabet[c.below(len(alphabet))]
		turned := slices.Clone(l)
		turned[at] = i
		check(t, turned, c.number())
		check(t, slices.Delete(slices.Clone(l), at, at+1), c.number())
		check(t, slices.Insert(slices.Clone(l), at, i), c.number())
	}
}

// P9.1: with Shifts by no place where Locks, Unlocks and Marks stand, a program comes to the same in the same time.
func TestWithoutLocks(t *testing.T) {
	c := chance(6)
	turned := 0
	for range 3000 {
		l := append(grown(&c, 23, 0, nil, true), api.Inst{})
		plain := slices.Clone(l)
		for at, i := range l {
			if i.Op == api.Lock || i.Op == api.Unlock || i.Op == api.Mark {
				plain[at] = api.Inst{Op: api.Shift, A: c.below(api.MaxMem)}
				turned++
			}
		}
		in := c.number()
		out, ticks, ok := Run(l, in)
		if !ok {
			t.Fatalf("%v: no", l)
		}
		if plainOut, plainTicks, ok := Run(plain, in); !ok || plainOut != out || plainTicks != ticks {
			t.Fatalf("%v of %d: %d in %d, without its Locks %d in %d, %v", l, in, out, ticks, plainOut, plainTicks, ok)
		}
	}
	if turned < 1000 {
		t.Errorf("%d of them were turned", turned)
	}
}

// R1 and R3: whatever there is: no panic, nothing handed in is changed, its spare room too, and nothing beside a no.
func TestWhatever(t *testing.T) {
	c := chance(3)
	numbers := []int{math.MinInt, math.MinInt + 1, -25, -24, -1, 0, 1, 2, 3, 4, 20, 23, 24, 25, 1 << 31, math.MaxInt - 1, math.MaxInt}
	for range 20000 {
		full := make([]api.Inst, 40)
		for at := range full {
			full[at] = api.Inst{Op: c.below(14) - 1, A: c.below(5) - 1, B: numbers[c.below(len(numbers))], N: numbers[c.below(len(numbers))]}
		}
		was := slices.Clone(full)
		check(t, full[:c.below(len(full)+1)], c.number())
		if !slices.Equal(full, was) {
			t.Fatalf("%v became %v", was, full)
		}
	}
	full := slices.Concat(words("s1x1 l0 r3x4 l1 a0x1 u1 u0 m k2x2 l2 u2 e"), words("m l3 e"))
	was := slices.Clone(full)
	if !check(t, full[:12], 5) || !slices.Equal(full, was) {
		t.Errorf("%v became %v", was, full)
	}
}

// R4: it hangs on what it is handed alone: a run, or a no, ahead of it leaves nothing to it.
func TestSameAgain(t *testing.T) {
	l := words("k1x1 s0x9 s1x3 r2x4 a0x1 d1x2 m l0 u0 a0x3 s3x8 e")
	for range 3 {
		want(t, l, 5, 17, 17)
		want(t, l, -12, 0, 17)
		refused(t, words("s0x9 s1x9 s3x9"))
		want(t, words("a0x1 a0x3 e"), 7, 7, 3)
	}
}
