package cost

import (
	"math"
	"slices"
	"strconv"
	"testing"

	"foliot/api"
	"foliot/sample"
	"foliot/shape"
)

// same tells whether two costs are one; no spans are one, nil or empty.
func same(a, b api.Cost) bool {
	return a.All == b.All && a.Piece == b.Piece && slices.Equal(a.Spans, b.Spans)
}

// want asks that Of tells that cost of the program.
func want(t *testing.T, s string, c api.Cost) {
	t.Helper()
	if got, ok := Of(sample.Words(s)); !ok || !same(got, c) {
		t.Errorf("%q: %v %v, want %v", s, got, ok, c)
	}
}

// refused asks that Of says no of l, with nothing beside it.
func refused(t *testing.T, l []api.Inst) {
	t.Helper()
	if c, ok := Of(l); ok || !same(c, api.Cost{}) {
		t.Errorf("%v: %v %v", l, c, ok)
	}
}

// P7.1, All: each instruction is one tick, of whatever kind it is.
func TestAll(t *testing.T) {
	want(t, "e", api.Cost{All: 1, Piece: 1})
	want(t, "s e", api.Cost{All: 2, Piece: 2})
	want(t, "s s s s e", api.Cost{All: 5, Piece: 5})
	l := []api.Inst{
		{Op: api.Set, A: 7, N: math.MinInt32}, {Op: api.Set, N: math.MaxInt32}, {Op: api.Add, A: 1, B: 7}, {Op: api.Sub, A: 2, B: 6}, {Op: api.Mul, A: 3, B: 5},
		{Op: api.Shift, A: 4, N: -63}, {Op: api.Shift, A: 4, N: 63}, {Op: api.Narrow, A: 5, N: 64}, {Op: api.End},
	}
	for n := range l {
		if c, ok := Of(l[n:]); !ok || !same(c, api.Cost{All: int64(len(l) - n), Piece: int64(len(l) - n)}) {
			t.Errorf("%v: %v %v", l[n:], c, ok)
		}
	}
}

// P7.1, All: a Rep is one tick, and then its body as often as it says.
func TestAllRep(t *testing.T) {
	for s, all := range map[string]int64{
		"r1x1 s e":                  3,
		"r1x2 s e":                  4,
		"r1x20 s e":                 22,
		"r2x2 s s e":                6,
		"r3x5 s s s e":              17,
		"s s r1x3 s s e":            8,
		"r1x3 s r1x4 s e":           10,
		"r2x3 s s s r3x2 s s s e":   16,
		"r2x3 r1x2 s e":             1 + 3*(1+2) + 1, // one in the other one, ending together
		"r2x2 r1x3 s e":             1 + 2*(1+3) + 1,
		"r4x3 r3x5 s s s e":         1 + 3*(1+5*3) + 1,
		"r3x3 r1x2 s s e":           1 + 3*(1+2+1) + 1, // ending ahead of it
		"r4x3 s r1x2 s s e":         1 + 3*(1+1+2+1) + 1,
		"r4x3 r1x2 s r1x5 s e":      1 + 3*(1+2+1+5) + 1,
		"r5x2 r1x7 s s r1x3 s e":    1 + 2*(1+7+1+1+3) + 1,
		"r2x3 r1x2 s r2x5 r1x4 s e": 1 + 3*(1+2) + 1 + 5*(1+4) + 1,
		"s r2x20 r1x20 s s e":       1 + 1 + 20*(1+20) + 1 + 1,
	} {
		want(t, s, api.Cost{All: all, Piece: all})
	}
	for n := 1; n <= 20; n++ {
		for b := 1; b <= 22; b++ {
			all := int64(1 + b*n + 1)
			want(t, rep(b, n)+sample.Repeated(b, "s")+"e", api.Cost{All: all, Piece: all})
		}
	}
}

// P7.1, All: none is passed over, in whatever a Skip stands.
func TestAllSkip(t *testing.T) {
	for s, all := range map[string]int64{
		"k1 s e":                                 3,
		"k3 s s s e":                             5,
		"s k2 s s s e":                           6,
		"k1 s k1 s e":                            5,
		"k3 k2 k1 s e":                           5,
		"k22 " + sample.Repeated(22, "s") + " e": 24,
		"k2 r1x20 s e":                           1 + 1 + 20 + 1,
		"k3 s r1x3 s e":                          1 + 1 + 1 + 3 + 1,
		"r2x3 k1 s e":                            1 + 3*2 + 1,
		"r3x3 k1 s s e":                          1 + 3*3 + 1,
		"r3x3 s k1 s e":                          1 + 3*3 + 1,
		"r4x2 k3 r2x3 s s e":                     1 + 2*(1+1+3*2) + 1,
		"r6x2 k5 r3x3 k1 s s s e":                1 + 2*(1+1+3*3+1) + 1,
	} {
		want(t, s, api.Cost{All: all, Piece: all})
	}
}

// P7.1, Piece: the longest of those that end with a Mark or End, each with that one.
func TestPiece(t *testing.T) {
	for s, c := range map[string][2]int64{
		"s m e":                           {3, 2},
		"m e":                             {2, 1},
		"m m e":                           {3, 1},
		"m s e":                           {3, 2},
		"m s s s e":                       {5, 4}, // at the beginning
		"s s s m e":                       {5, 4}, // right ahead of the End
		"s m s e":                         {4, 2}, // in the middle
		"s s m s s e":                     {6, 3},
		"s s s m s e":                     {6, 4}, // the first one is the longest
		"s m s s s m s e":                 {8, 4}, // one between is
		"s m s m s s s e":                 {8, 4}, // the last one is
		"s s m m s s e":                   {7, 3},
		"m s s m s s m e":                 {8, 3},
		"r1x5 s m s s e":                  {10, 7},
		"s s m r1x5 s e":                  {10, 7},
		"s s m r2x2 s s m s s e":          {12, 6},
		"s m r3x3 r1x4 s s m r2x5 s s e":  {2 + 20 + 12, 20},
		"r1x2 s m r2x2 r1x2 s m k2 s s e": {4 + 8 + 4, 8},
		"s s s m k1 s m s s s s e":        {12, 5},
	} {
		want(t, s, api.Cost{All: c[0], Piece: c[1]})
	}
	for n := range 23 {
		for at := range n + 1 {
			want(t, sample.Repeated(at, "s")+"m "+sample.Repeated(n-at, "s")+"e", api.Cost{All: int64(n + 2), Piece: int64(max(at, n-at) + 1)})
			want(t, sample.Repeated(at, "m")+sample.Repeated(n-at, "s")+"e", api.Cost{All: int64(n + 1), Piece: int64(n - at + 1)})
		}
	}
}

// P7.1, Spans: of each Lock, as they stand in the program, what is behind it up to its Unlock, with that.
func TestSpans(t *testing.T) {
	for s, c := range map[string]api.Cost{
		"l0 u0 e":                   {All: 3, Piece: 3, Spans: []api.Span{{Sema: 0, Len: 1}}},
		"l3 u3 e":                   {All: 3, Piece: 3, Spans: []api.Span{{Sema: 3, Len: 1}}},
		"s l2 s s u2 s e":           {All: 7, Piece: 7, Spans: []api.Span{{Sema: 2, Len: 3}}},
		"l0 u0 l0 u0 e":             {All: 5, Piece: 5, Spans: []api.Span{{Sema: 0, Len: 1}, {Sema: 0, Len: 1}}}, // apart
		"l1 s s u1 l0 s u0 e":       {All: 8, Piece: 8, Spans: []api.Span{{Sema: 1, Len: 3}, {Sema: 0, Len: 2}}},
		"l0 s u0 s m l0 s s u0 e":   {All: 10, Piece: 5, Spans: []api.Span{{Sema: 0, Len: 2}, {Sema: 0, Len: 3}}},
		"l0 l1 u1 u0 e":             {All: 5, Piece: 5, Spans: []api.Span{{Sema: 0, Len: 3}, {Sema: 1, Len: 1}}}, // one in the other one
		"l3 s l2 s s u2 u3 e":       {All: 8, Piece: 8, Spans: []api.Span{{Sema: 3, Len: 6}, {Sema: 2, Len: 3}}},
		"l1 l0 u0 l0 s u0 u1 e":     {All: 8, Piece: 8, Spans: []api.Span{{Sema: 1, Len: 6}, {Sema: 0, Len: 1}, {Sema: 0, Len: 2}}},
		"l2 r2x2 s s u2 e":          {All: 8, Piece: 8, Spans: []api.Span{{Sema: 2, Len: 6}}}, // with bodies and reaches between
		"l2 k2 s s u2 e":            {All: 6, Piece: 6, Spans: []api.Span{{Sema: 2, Len: 4}}},
		"l2 r2x3 r1x4 s u2 e":       {All: 19, Piece: 19, Spans: []api.Span{{Sema: 2, Len: 17}}},
		"l2 k3 s r1x9 s u2 e":       {All: 15, Piece: 15, Spans: []api.Span{{Sema: 2, Len: 13}}},
		"l0 r3x5 l1 s u1 s u0 e":    {All: 20, Piece: 20, Spans: []api.Span{{Sema: 0, Len: 18}, {Sema: 1, Len: 2}}},
		"r1x9 s l0 s u0 r1x9 s e":   {All: 24, Piece: 24, Spans: []api.Span{{Sema: 0, Len: 2}}}, // with bodies ahead and behind
		"r2x5 l0 u0 e":              {All: 12, Piece: 12, Spans: []api.Span{{Sema: 0, Len: 1}}}, // in a body: it is held in each go anew
		"r3x20 l1 s u1 e":           {All: 62, Piece: 62, Spans: []api.Span{{Sema: 1, Len: 2}}},
		"r4x3 r2x2 l1 u1 s e":       {All: 20, Piece: 20, Spans: []api.Span{{Sema: 1, Len: 1}}},
		"r5x3 l1 r1x5 s u1 s m e":   {All: 30, Piece: 29, Spans: []api.Span{{Sema: 1, Len: 7}}},
		"r6x2 l0 r3x3 l1 s u1 u0 e": {All: 26, Piece: 26, Spans: []api.Span{{Sema: 0, Len: 11}, {Sema: 1, Len: 2}}},
		"k3 l1 s u1 e":              {All: 5, Piece: 5, Spans: []api.Span{{Sema: 1, Len: 2}}},
	} {
		want(t, s, c)
	}
}

// P7.1: End alone, as many instructions as may be, and more.
func TestEdges(t *testing.T) {
	want(t, "e", api.Cost{All: 1, Piece: 1})
	want(t, sample.Repeated(23, "s")+"e", api.Cost{All: 24, Piece: 24})
	want(t, sample.Repeated(23, "m")+"e", api.Cost{All: 24, Piece: 1})
	want(t, "l3 "+sample.Repeated(21, "s")+"u3 e", api.Cost{All: 24, Piece: 24, Spans: []api.Span{{Sema: 3, Len: 22}}})
	want(t, sample.Repeated(11, "l0 u0")+"m e", api.Cost{All: 24, Piece: 23, Spans: slices.Repeat([]api.Span{{Sema: 0, Len: 1}}, 11)})
	for _, w := range []string{"s", "m"} {
		for _, n := range []int{24, 25, 255, 256, 1 << 16} {
			refused(t, sample.Words(sample.Repeated(n, w)+"e"))
		}
	}
}

// P7.1: N and B as great as may be, in one body and in two that end together, and beyond that.
func TestGreatest(t *testing.T) {
	const two = 1 + 20*(1+20*21) + 1
	const held = 1 + 20*(1+20*18) + 1
	want(t, rep(22, 20)+sample.Repeated(22, "s")+"e", api.Cost{All: 442, Piece: 442})
	want(t, rep(22, 20)+rep(21, 20)+sample.Repeated(21, "s")+"e", api.Cost{All: two, Piece: two})
	want(t, rep(22, 20)+rep(21, 20)+"l0 "+sample.Repeated(19, "s")+"u0 e", api.Cost{All: two, Piece: two, Spans: []api.Span{{Sema: 0, Len: 20}}})
	want(t, "l0 "+rep(19, 20)+rep(18, 20)+sample.Repeated(18, "s")+"u0 m e", api.Cost{All: 1 + held + 2, Piece: 1 + held + 1, Spans: []api.Span{{Sema: 0, Len: held}}})
	refused(t, sample.Words(rep(22, 21)+sample.Repeated(22, "s")+"e"))
	refused(t, sample.Words(rep(23, 20)+sample.Repeated(22, "s")+"e"))
	refused(t, sample.Words(rep(21, 20)+rep(21, 20)+sample.Repeated(21, "s")+"e"))
	refused(t, sample.Words("r3x2 r2x2 r1x2 s e"))
}

// P7.1: whatever may not be: no, and nothing beside it.
func TestNo(t *testing.T) {
	refused(t, nil)
	refused(t, []api.Inst{})
	for _, s := range []string{
		"s", "s s", "m", "l0 u0", "e e", "s e s e", "e s", // no End, or one that is not the last alone
		"k1 e", "k2 s e", "r1x2 e", "r2x2 s e", "r24x20 e", "r2x2 s r1x2 s e", "k2 s k1 s e", "r1x2 k1 s e", // too far
		"r1x0 s e", "r1x21 s e", "r0x2 s e", "r25x2 s e", "k0 s e", "k25 s e", "l4 u4 e", // what may not be itself
		"l0 e", "u0 e", "l0 u1 e", "l0 l0 u0 u0 e", "l0 l1 u0 u1 e", "l0 l1 l2 u2 u1 u0 e", "r1x2 l0 u0 e", "k1 l0 u0 e", "l0 r1x2 u0 e", // no pairs
		"r1x2 m e", "k1 m e", "l0 m u0 e", "r3x2 l0 m u0 e", // a Mark in something
	} {
		refused(t, sample.Words(s))
	}
	for _, i := range []api.Inst{
		{Op: -1}, {Op: 12}, {Op: math.MinInt}, {Op: math.MaxInt}, {Op: api.Set, A: 8}, {Op: api.Set, N: 1 << 31}, {Op: api.Shift, N: 64}, {Op: api.Narrow}, {Op: api.Mark, A: 1},
		{Op: api.Skip, N: math.MaxInt}, {Op: api.Skip, N: math.MinInt}, {Op: api.Rep, B: math.MaxInt, N: 1}, {Op: api.Rep, B: math.MinInt, N: 1}, {Op: api.Rep, B: 1, N: math.MaxInt}, {Op: api.Rep, B: 1, N: -1},
		{Op: api.Rep, A: 1, B: 1, N: 1}, {Op: api.Lock, A: -1}, {Op: api.Lock, A: math.MaxInt}, {Op: api.Unlock, A: math.MinInt},
	} {
		refused(t, []api.Inst{i})
		refused(t, []api.Inst{i, {Op: api.Set}, {}})
		refused(t, []api.Inst{{Op: api.Rep, B: 2, N: 2}, i, {Op: api.Set}, {}})
	}
}

// rep is the word of a Rep.
func rep(b, n int) string { return "r" + strconv.Itoa(b) + "x" + strconv.Itoa(n) + " " }

// times tells how often the instruction at a place is done, seen from another place: as often as the bodies say, together, in which it stands and the other one does not.
func times(l []api.Inst, at, from int) int64 {
	n := int64(1)
	for r, i := range l {
		in := func(p int) bool { return r < p && p <= r+i.B }
		if i.Op == api.Rep && in(at) && !in(from) {
			n *= int64(i.N)
		}
	}
	return n
}

// reckoned says what P7.1 says of a program that may be, instruction by instruction: each is as many ticks as it is done times.
func reckoned(l []api.Inst) api.Cost {
	var c api.Cost
	var piece int64
	end := len(l) - 1 // in no body
	for at, i := range l {
		c.All += times(l, at, end)
		piece += times(l, at, end)
		c.Piece = max(c.Piece, piece)
		if i.Op == api.Mark {
			piece = 0
		}
		if i.Op != api.Lock {
			continue
		}
		s := api.Span{Sema: i.A}
		for p := at + 1; ; p++ {
			s.Len += int(times(l, p, at))
			if l[p].Op == api.Unlock && l[p].A == i.A { // it is not taken twice, so the first one is its own
				break
			}
		}
		c.Spans = append(c.Spans, s)
	}
	return c
}

// check asks that Of tells of l what is reckoned, or says no, and leaves l as it is; it tells whether l may be.
func check(t *testing.T, l []api.Inst) bool {
	t.Helper()
	was := slices.Clone(l)
	may := shape.May(l)
	if may {
		if c, ok := Of(l); !ok || !same(c, reckoned(l)) {
			t.Fatalf("%v: %v %v, want %v", l, c, ok, reckoned(l))
		}
	} else {
		refused(t, l)
	}
	if !slices.Equal(l, was) {
		t.Fatalf("%v became %v", was, l)
	}
	return may
}

// P7.1: all programs of a few instructions.
func TestAllShort(t *testing.T) {
	alphabet := sample.Words("s m e k1 k2 r1x2 r1x5 r2x1 r2x3 r3x2 r4x3 l0 l1 u0 u1")
	n := 0
	var grow func(l []api.Inst, more int)
	grow = func(l []api.Inst, more int) {
		if check(t, append(slices.Clone(l), api.Inst{})) {
			n++
		}
		for _, i := range alphabet {
			if more > 0 {
				grow(append(slices.Clone(l), i), more-1)
			}
		}
	}
	grow(nil, 5)
	if n < 1000 {
		t.Errorf("%d of them may be", n)
	}
}

// grown is a piece of a program that may be: at most so long, in so many bodies, with these held.
func grown(c *sample.Chance, size, bodies int, held []int, top bool) []api.Inst {
	var l []api.Inst
	for room := size; room > 0 && c.Below(8) > 0; room = size - len(l) {
		inner := c.Below(room)
		sema := c.Below(api.MaxSemas)
		switch kind := c.Below(5); {
		case kind == 0 && inner > 0 && bodies < 2:
			if body := grown(c, inner, bodies+1, held, false); len(body) > 0 {
				l = append(append(l, api.Inst{Op: api.Rep, B: len(body), N: 1 + c.Below(20)}), body...)
			}
		case kind == 1 && inner > 0:
			if body := grown(c, inner, bodies, held, false); len(body) > 0 {
				l = append(append(l, api.Inst{Op: api.Skip, A: c.Below(8), N: len(body)}), body...)
			}
		case kind == 2 && inner > 0 && len(held) < 2 && !slices.Contains(held, sema):
			l = append(l, api.Inst{Op: api.Lock, A: sema})
			l = append(l, grown(c, inner-1, bodies, append(slices.Clone(held), sema), false)...)
			l = append(l, api.Inst{Op: api.Unlock, A: sema})
		case kind == 3 && top:
			l = append(l, api.Inst{Op: api.Mark})
		default:
			l = append(l, api.Inst{Op: api.Mul, A: c.Below(8), B: c.Below(8)})
		}
	}
	return l
}

// P7.1: programs that are grown as shape has it; with one instruction turned, left out or put in, they are reckoned or refused.
func TestGrown(t *testing.T) {
	c := sample.Chance(7)
	alphabet := sample.Words("s m e k1 k2 k3 k5 r1x2 r2x3 r3x20 r5x1 l0 l1 l2 l3 u0 u1 u2 u3")
	for range 5000 {
		l := append(grown(&c, 23, 0, nil, true), api.Inst{})
		if !check(t, l) {
			t.Fatalf("%v: it may be", l)
		}
		at := c.Below(len(l))
		i := alphabet[c.Below(len(alphabet))]
		turned := slices.Clone(l)
		turned[at] = i
		check(t, turned)
		check(t, slices.Delete(slices.Clone(l), at, at+1))
		check(t, slices.Insert(slices.Clone(l), at, i))
	}
}

// run goes through a program that may be, as the operations are told in package api, and tells how long it was: all of it, its longest piece, and of each Lock, by its place, how long it was held at most; skip tells whether a Skip passes over.
func run(l []api.Inst, skip func() bool) (all, piece int64, held map[int]int) {
	type go2 struct{ first, last, left int }
	var reps []go2
	var locks []int
	var since int64
	taken := map[int]int64{}
	held = map[int]int{}
	for at := 0; ; {
		i := l[at]
		all++
		since++
		if i.Op == api.Mark || i.Op == api.End {
			piece = max(piece, since)
			since = 0
		}
		switch i.Op {
		case api.End:
			return all, piece, held
		case api.Lock:
			locks = append(locks, at)
			taken[at] = all
		case api.Unlock:
			lock := locks[len(locks)-1]
			locks = locks[:len(locks)-1]
			held[lock] = max(held[lock], int(all-taken[lock]))
		case api.Rep:
			reps = append(reps, go2{at + 1, at + i.B, i.N - 1})
		case api.Skip:
			if skip() {
				at += i.N
			}
		}
		at++
		for len(reps) > 0 && reps[len(reps)-1].last < at {
			last := &reps[len(reps)-1]
			if last.left > 0 {
				at = last.first
				last.left--
				break
			}
			reps = reps[:len(reps)-1]
		}
	}
}

// 'What follows': no run is longer, nor any piece or span of it, and one that passes nothing over is just as long.
func TestNoRunIsLonger(t *testing.T) {
	c := sample.Chance(1)
	some := func() bool { return c.Below(2) == 0 }
	for range 3000 {
		l := append(grown(&c, 23, 0, nil, true), api.Inst{})
		cost, ok := Of(l)
		if !ok {
			t.Fatalf("%v: no", l)
		}
		for n, skip := range []func() bool{func() bool { return false }, func() bool { return true }, some, some} {
			all, piece, held := run(l, skip)
			if all > cost.All || piece > cost.Piece || n == 0 && (all != cost.All || piece != cost.Piece) {
				t.Fatalf("%v: %v, a run is %d and %d", l, cost, all, piece)
			}
			spans := cost.Spans
			for at, i := range l {
				if i.Op != api.Lock {
					continue
				}
				if s := spans[0]; s.Sema != i.A || held[at] > s.Len || n == 0 && held[at] != s.Len {
					t.Fatalf("%v: %v, a run holds %d at %d", l, cost, held[at], at)
				}
				spans = spans[1:]
			}
			if len(spans) > 0 {
				t.Fatalf("%v: %v: spans of no Lock", l, cost)
			}
		}
	}
}

// R1 and R3: whatever there is: no panic, nothing handed in is changed, its spare room too, and nothing beside a no.
func TestWhatever(t *testing.T) {
	c := sample.Chance(3)
	numbers := []int{math.MinInt, math.MinInt + 1, -25, -24, -1, 0, 1, 2, 3, 4, 20, 23, 24, 25, 1 << 31, math.MaxInt - 1, math.MaxInt}
	for range 20000 {
		full := make([]api.Inst, 40)
		for at := range full {
			full[at] = api.Inst{Op: c.Below(14) - 1, A: c.Below(5) - 1, B: numbers[c.Below(len(numbers))], N: numbers[c.Below(len(numbers))]}
		}
		was := slices.Clone(full)
		check(t, full[:c.Below(len(full)+1)])
		if !slices.Equal(full, was) {
			t.Fatalf("%v became %v", was, full)
		}
	}
	full := slices.Concat(sample.Words("l0 r3x4 l1 s u1 u0 m k2 l2 u2 e"), sample.Words("m l3 e"))
	was := slices.Clone(full)
	if !check(t, full[:11]) || !slices.Equal(full, was) {
		t.Errorf("%v became %v", was, full)
	}
}

// R3 and R4: what is told is new memory, so whatever becomes of it, the same again tells the same.
func TestSameAgain(t *testing.T) {
	l := sample.Words("l0 r3x4 l1 s u1 u0 m k2 l2 u2 e")
	for range 3 {
		c, ok := Of(l)
		if !ok || !same(c, api.Cost{All: 20, Piece: 16, Spans: []api.Span{{Sema: 0, Len: 14}, {Sema: 1, Len: 2}, {Sema: 2, Len: 1}}}) {
			t.Errorf("%v %v", c, ok)
		}
		spans := c.Spans[:cap(c.Spans)]
		for at := range spans {
			spans[at] = api.Span{Sema: -1, Len: -1}
		}
	}
}
