package task

import (
	"math"
	"slices"
	"strings"
	"testing"

	"foliot/api"
	"foliot/cost"
	"foliot/sample"
	"foliot/shape"
)

// of is a task of rank 5 whose Period and End are so far off, with these programs.
func of(period, end int64, main, way, opt string) api.Task {
	return api.Task{Rank: 5, Period: period, End: end, Main: sample.Words(main), Way: sample.Words(way), Opt: sample.Words(opt)}
}

// ordinary is a task that may be, with all there is in it.
func ordinary() api.Task {
	return of(40, 30, "l0 s l1 s u1 u0 m r2x3 s s m e", "l2 s s u2 s e", "r1x9 s k1 s m e")
}

// wrong are programs that may not be, of every kind.
func wrong() [][]api.Inst {
	var all [][]api.Inst
	for _, s := range []string{
		"s", "s s", "m", "l0 u0", "e e", "s e s e", "e s", sample.Repeated(24, "s") + "e", sample.Repeated(300, "s") + "e",
		"k1 e", "k2 s e", "r1x2 e", "r24x20 e", "r2x2 s r1x2 s e", "k2 s k1 s e", "r1x2 k1 s e", "r3x2 r2x2 r1x2 s e",
		"r1x0 s e", "r1x21 s e", "r0x2 s e", "r25x2 s e", "k0 s e", "k25 s e", "l4 u4 e",
		"l0 e", "u0 e", "l0 u1 e", "l0 l0 u0 u0 e", "l0 l1 u0 u1 e", "l0 l1 l2 u2 u1 u0 e", "r1x2 l0 u0 e", "k1 l0 u0 e", "l0 r1x2 u0 e",
		"r1x2 m e", "k1 m e", "l0 m u0 e",
	} {
		all = append(all, sample.Words(s))
	}
	for _, i := range []api.Inst{
		{Op: -1}, {Op: 12}, {Op: math.MinInt}, {Op: math.MaxInt}, {Op: api.Set, A: 8}, {Op: api.Set, N: 1 << 31}, {Op: api.Shift, N: 64}, {Op: api.Narrow}, {Op: api.Mark, A: 1},
		{Op: api.Skip, N: math.MaxInt}, {Op: api.Skip, N: math.MinInt}, {Op: api.Rep, B: math.MaxInt, N: 1}, {Op: api.Rep, B: 1, N: math.MaxInt}, {Op: api.Rep, B: 1, N: -1}, {Op: api.Lock, A: -1}, {Op: api.Unlock, A: math.MinInt},
	} {
		all = append(all, []api.Inst{i}, []api.Inst{i, {}}, []api.Inst{i, {Op: api.Set}, {}})
	}
	return all
}

// judged says what P15.1 says of May, with plain comparisons.
func judged(t api.Task) api.Errno {
	if t.Rank < 0 || t.Rank > 63 {
		return api.EArg
	}
	if t.Period < 1 || t.Period > 16384 || t.End < 1 || t.End > t.Period {
		return api.EPeriod
	}
	way := len(t.Way) > 0
	if !shape.May(t.Main) || way && !shape.May(t.Way) {
		return api.EForm
	}
	if len(t.Opt) > 0 && !shape.May(t.Opt) {
		return api.EForm
	}
	for _, i := range t.Opt {
		if i.Op == api.Lock {
			return api.EForm
		}
	}
	main, _ := cost.Of(t.Main)
	if main.All > t.End {
		return api.ECost
	}
	if w, _ := cost.Of(t.Way); way && w.All > main.All {
		return api.EBackup
	}
	return api.OK
}

// roomy is a copy of t, each program in memory of its own with some room behind it, in which more instructions stand.
func roomy(t api.Task) api.Task {
	room := func(l []api.Inst) []api.Inst {
		x := append(slices.Clone(l), sample.Words("l3 s u3 e")...)
		return x[:len(l)]
	}
	t.Main, t.Way, t.Opt = room(t.Main), room(t.Way), room(t.Opt)
	return t
}

// memory is a copy of all that stands in the memory of t's programs, spare room too.
func memory(t api.Task) []api.Inst {
	return slices.Concat(t.Main[:cap(t.Main)], t.Way[:cap(t.Way)], t.Opt[:cap(t.Opt)])
}

// want asks that May tells e of x, that Costs tells nothing beside an error, and that x stays as it is.
func want(t *testing.T, x api.Task, e api.Errno) {
	t.Helper()
	x = roomy(x)
	was := memory(x)
	if got := May(x); got != e {
		t.Errorf("%v: %d, want %d", x, got, e)
	}
	c, lost, spans := Costs(x)
	if e != api.OK && (c != 0 || lost != 0 || len(spans) != 0) {
		t.Errorf("%v: %d, and yet %d %d %v", x, e, c, lost, spans)
	}
	if e == api.OK && (c < 1 || lost < 1 || c > x.End || lost > c) {
		t.Errorf("%v: %d %d %v", x, c, lost, spans)
	}
	if !slices.Equal(memory(x), was) {
		t.Errorf("%v: it was changed", x)
	}
}

// P15.1, May: tasks that may be, with Main alone, with a Way, with an Opt, with both.
func TestMay(t *testing.T) {
	want(t, ordinary(), api.OK)
	for _, main := range []string{"e", "s e", "m e", "s m s e", "l0 s u0 e", "l0 l1 u1 u0 m l2 u2 e", "r2x3 s s e", "r2x2 r1x3 s e", "k2 s s e", "r3x2 l1 s u1 m e", "l1 r1x3 s u1 e"} {
		for _, way := range []string{"", "e", "s e", "m e", "l0 u0 e", "r1x1 s e", "k1 s e", main} {
			for _, opt := range []string{"", "e", "s s m s e", "r3x20 s k1 s e", "m k2 s s m e", main} {
				e := api.OK
				m, _ := cost.Of(sample.Words(main))
				if w, ok := cost.Of(sample.Words(way)); ok && w.All > m.All {
					e = api.EBackup
				}
				if strings.Contains(opt, "l") {
					e = api.EForm
				}
				want(t, of(40, 30, main, way, opt), e)
			}
		}
	}
}

// P15.1, May: no list and an empty one are no program: there must be a Main, not a Way or an Opt.
func TestNoProgram(t *testing.T) {
	none := [][]api.Inst{nil, {}, sample.Words("s e")[:0]}
	for _, no := range none {
		for _, l := range append(none, sample.Words("s e")) {
			x := of(40, 30, "s e", "", "")
			x.Way, x.Opt = no, l
			want(t, x, api.OK)
			x.Way, x.Opt = l, no
			want(t, x, api.OK)
			x.Main = no
			want(t, x, api.EForm)
			x.Main, x.Way, x.Opt = no, l, l
			want(t, x, api.EForm)
		}
	}
	want(t, api.Task{}, api.EPeriod)
	want(t, api.Task{Period: 1, End: 1}, api.EForm)
}

// numbers are some around the limits, around where fewer bits end, and as far off as there are.
var numbers = []int64{
	math.MinInt64, math.MinInt64 + 1, math.MinInt64 + 30, -1 << 62, -1<<32 + 5, -1 << 32, math.MinInt32, -1 << 16, -1<<14 - 1, -1 << 14, -1<<14 + 1, -256, -64, -63, -2, -1,
	0, 1, 2, 5, 13, 14, 62, 63, 64, 65, 127, 128, 255, 256, 261, 1<<14 - 1, 1 << 14, 1<<14 + 1, 1<<15 + 5, 1 << 16, 1<<16 + 5, math.MaxInt32, 1 << 31, 1 << 32, 1<<32 + 5, 1<<32 + 14, 1 << 62, math.MaxInt64 - 1, math.MaxInt64,
}

// P15.1, EArg: Rank from 0 to MaxRank.
func TestRank(t *testing.T) {
	for rank := -300; rank <= 300; rank++ {
		x, e := ordinary(), api.OK
		if rank < 0 || rank > api.MaxRank {
			e = api.EArg
		}
		x.Rank = rank
		want(t, x, e)
	}
	for _, n := range numbers {
		x := ordinary()
		x.Rank = int(n)
		want(t, x, judged(x))
	}
}

// P15.1, EPeriod: Period from 1 to MaxEnd, End from 1 to Period.
func TestPeriod(t *testing.T) {
	for _, x := range []struct {
		period, end int64
		e           api.Errno
	}{
		{1, 1, api.OK}, {2, 1, api.OK}, {2, 2, api.OK}, {api.MaxEnd, 1, api.OK}, {api.MaxEnd, api.MaxEnd - 1, api.OK}, {api.MaxEnd, api.MaxEnd, api.OK}, {api.MaxEnd - 1, api.MaxEnd - 1, api.OK},
		{0, 1, api.EPeriod}, {-1, 1, api.EPeriod}, {0, 0, api.EPeriod}, {-1, -1, api.EPeriod}, {0, -1, api.EPeriod}, {-5, -7, api.EPeriod}, {api.MaxEnd + 1, 1, api.EPeriod}, {api.MaxEnd + 1, api.MaxEnd, api.EPeriod}, {api.MaxEnd + 1, api.MaxEnd + 1, api.EPeriod},
		{1, 0, api.EPeriod}, {1, 2, api.EPeriod}, {1, -1, api.EPeriod}, {10, 0, api.EPeriod}, {10, -1, api.EPeriod}, {10, 11, api.EPeriod}, {10, api.MaxEnd, api.EPeriod}, {api.MaxEnd, 0, api.EPeriod}, {api.MaxEnd, api.MaxEnd + 1, api.EPeriod},
		{math.MinInt64, math.MinInt64, api.EPeriod}, {math.MinInt64, 1, api.EPeriod}, {10, math.MinInt64, api.EPeriod}, {math.MaxInt64, math.MaxInt64, api.EPeriod}, {math.MaxInt64, 1, api.EPeriod}, {10, math.MaxInt64, api.EPeriod}, {math.MinInt64, math.MaxInt64, api.EPeriod},
	} {
		want(t, of(x.period, x.end, "e", "", ""), x.e)
		want(t, of(x.period, x.end, "e", "e", "s s s e"), x.e)
	}
	for period := int64(-3); period <= 30; period++ {
		for end := int64(-3); end <= 33; end++ {
			for _, main := range []string{"e", "s s s s e", "s s"} {
				x := of(period, end, main, "", "")
				want(t, x, judged(x))
			}
		}
	}
}

// P15.1, EArg and EPeriod: whatever numbers, together.
func TestNumbers(t *testing.T) {
	for _, rank := range []int{math.MinInt, -1, 0, api.MaxRank, api.MaxRank + 1, math.MaxInt} {
		for _, period := range numbers {
			for _, end := range numbers {
				x := ordinary()
				x.Rank, x.Period, x.End = rank, period, end
				want(t, x, judged(x))
			}
		}
	}
}

// P15.1, EForm: a Main, a Way, an Opt that may not be, whatever the other two are.
func TestForm(t *testing.T) {
	for _, l := range wrong() {
		for _, x := range []api.Task{of(40, 30, "s m s e", "", ""), of(40, 30, "s m s e", "s e", ""), of(40, 30, "s m s e", "", "s e"), ordinary()} {
			main, way, opt := x, x, x
			main.Main, way.Way, opt.Opt = l, l, l
			want(t, main, api.EForm)
			want(t, way, api.EForm)
			want(t, opt, api.EForm)
		}
	}
}

// P15.1, EForm: an Opt has no Lock, wherever; Main and Way may have it.
func TestLockInOpt(t *testing.T) {
	for _, s := range []string{
		"l0 u0 e", "l1 s s u1 s m e", "s s m l2 s u2 e", "s l3 u3 s e", // first, last, between
		"r2x2 l0 u0 e", "r4x3 s l1 u1 s e", "r5x2 r4x2 l2 s s u2 e", "k2 l0 u0 e", "k4 s r2x2 l1 u1 e", // in a body, a reach
		"l0 l1 u1 u0 e", "l0 u0 l1 u1 e", "l0 r1x3 s u0 e", "r1x3 s k1 s m l0 u0 e", // more than one, and what else there is
		"l0 " + sample.Repeated(21, "s") + "u0 e", sample.Repeated(21, "s") + "l3 u3 e",
	} {
		l := sample.Words(s)
		x := of(600, 500, "s e", "e", "s e")
		x.Opt = l
		want(t, x, api.EForm)
		x.Way, x.Main = nil, l
		want(t, x, api.EForm)
		x.Way, x.Opt = l, nil
		want(t, x, api.OK)
	}
}

// P15.1, ECost: Main just as long as End may be, and one tick more may not.
func TestLongerThanEnd(t *testing.T) {
	for n := 1; n <= 120; n++ {
		for by := int64(-2); by <= 2; by++ {
			end := int64(n) + by
			x := of(end, end, "", "", "")
			x.Main = sample.Ticks(n)
			e := api.OK
			if end < 1 {
				e = api.EPeriod
			} else if by < 0 {
				e = api.ECost
			}
			want(t, x, e)
			x.Period = api.MaxEnd
			x.Way = sample.Ticks(n)
			want(t, x, e)
		}
	}
	main, n := sample.Ticks(sample.Longest), int64(sample.Longest)
	for by, e := range []api.Errno{api.ECost, api.OK, api.OK} {
		x := of(api.MaxEnd, n-1+int64(by), "", "", "")
		x.Main = main
		want(t, x, e)
	}
}

// P15.1, ECost: it is all of Main that counts: not its piece, not its instructions, not the Opt, nor what a Skip may pass over.
func TestWhatIsLong(t *testing.T) {
	for s, n := range map[string]int64{"s m s m s e": 6, "m m m m e": 5, "r2x5 s s e": 12, "r4x3 r3x5 s s s e": 50, "k3 s s s e": 5, "l0 s u0 m l1 u1 e": 7} {
		want(t, of(100, n, s, "", "r3x20 s s s e"), api.OK)
		want(t, of(100, n, s, s, "r3x20 s s s e"), api.OK)
		want(t, of(100, n-1, s, "", ""), api.ECost)
		want(t, of(100, n-1, s, "e", "e"), api.ECost)
	}
	x := of(1, 1, "e", "e", "")
	x.Opt = sample.Ticks(sample.Longest)
	want(t, x, api.OK)
}

// P15.1, EBackup: Way just as long as Main may be, and one tick more may not.
func TestLongerWay(t *testing.T) {
	for n := 1; n <= 60; n++ {
		for way := max(1, n-2); way <= n+2; way++ {
			x, e := of(api.MaxEnd, api.MaxEnd, "", "", "s e"), api.OK
			x.Main, x.Way = sample.Ticks(n), sample.Ticks(way)
			if way > n {
				e = api.EBackup
			}
			want(t, x, e)
		}
	}
	most, n := sample.Ticks(sample.Longest), int64(sample.Longest)
	x := of(api.MaxEnd, n, "", "", "")
	x.Main, x.Way = most, most
	want(t, x, api.OK)
	x.Main = sample.Words("r22x20 r20x20 " + sample.Repeated(21, "s") + "e")
	want(t, x, api.EBackup)
	for _, x := range []struct {
		main, way string
		e         api.Errno
	}{
		{"s m s m s e", "s s s s s e", api.OK}, {"s m s m s e", "s m s s m s e", api.EBackup}, // it is all of both that counts, not the pieces
		{"r1x5 s e", "s s s s s s e", api.OK}, {"s s s s e", "r1x4 s e", api.EBackup}, {"s s s s e", "r1x3 s e", api.OK}, // nor the instructions
		{"e", "e", api.OK}, {"e", "m e", api.EBackup}, {"s s e", "k2 s s e", api.EBackup}, {"k2 s s e", "s s s e", api.OK},
	} {
		want(t, of(40, 30, x.main, x.way, ""), x.e)
	}
}

// faults are what may be wrong with a task, in the order in which they are told: any of them is made in ordinary, with whatever others.
func faults() []struct {
	e    api.Errno
	make func(t *api.Task)
} {
	bad := func(l *[]api.Inst) { *l = append(slices.Clone(*l), api.Inst{Op: api.Unlock}) }
	return []struct {
		e    api.Errno
		make func(t *api.Task)
	}{
		{api.EArg, func(t *api.Task) { t.Rank = -1 }},
		{api.EArg, func(t *api.Task) { t.Rank = api.MaxRank + 1 }},
		{api.EPeriod, func(t *api.Task) { t.Period = 0 }},
		{api.EPeriod, func(t *api.Task) { t.Period = api.MaxEnd + 1 }},
		{api.EPeriod, func(t *api.Task) { t.End = 0 }},
		{api.EPeriod, func(t *api.Task) { t.End = t.Period + 1 }},
		{api.EForm, func(t *api.Task) { bad(&t.Main) }},
		{api.EForm, func(t *api.Task) { t.Main = nil }},
		{api.EForm, func(t *api.Task) { bad(&t.Way) }},
		{api.EForm, func(t *api.Task) { bad(&t.Opt) }},
		{api.EForm, func(t *api.Task) { t.Opt = append(sample.Words("l0 u0"), t.Opt...) }},
		{api.ECost, func(t *api.Task) { t.Main = sample.Ticks(41) }},
		{api.EBackup, func(t *api.Task) { t.Way = sample.Ticks(42) }},
	}
}

// P15.1, May: of several errors the first one is told, whichever are due with it.
func TestOrder(t *testing.T) {
	all := faults()
	for set := range 1 << len(all) {
		x, e := ordinary(), api.OK
		for at := len(all) - 1; at >= 0; at-- { // from the last on, so that a program is long first and may not be then
			if set>>at&1 == 1 {
				all[at].make(&x)
				e = all[at].e
			}
		}
		want(t, x, e)
	}
}

// costs asks that Costs tells just this of x.
func costs(t *testing.T, x api.Task, c, lost int64, spans []api.Span) {
	t.Helper()
	want(t, x, api.OK)
	if gotC, gotLost, gotSpans := Costs(x); gotC != c || gotLost != lost || !slices.Equal(gotSpans, spans) {
		t.Errorf("%v: %d %d %v, want %d %d %v", x, gotC, gotLost, gotSpans, c, lost, spans)
	}
}

// P15.1, Costs: how long Main is, and what is lost: with no Way its longest piece, with one all of that.
func TestCosts(t *testing.T) {
	for _, x := range []struct {
		main, way string
		c, lost   int64
	}{
		{"e", "", 1, 1}, {"s s e", "", 3, 3}, {"s m s e", "", 4, 2}, {"s s m s e", "", 5, 3}, {"s m s s s e", "", 6, 4}, {"m m m e", "", 4, 1}, {"s s s m e", "", 5, 4},
		{"r2x3 s s m s e", "", 10, 8}, {"s m r2x2 r1x3 s e", "", 12, 10}, {"k2 s s m e", "", 5, 4},
		{"s m s e", "e", 4, 1}, {"s m s e", "s e", 4, 2}, {"s m s e", "s s e", 4, 3}, {"s m s e", "s s s e", 4, 4}, // shorter, as long, longer than Main's piece
		{"s s s s e", "e", 5, 1}, {"s s s s e", "s m s e", 5, 4}, {"s s s s e", "m m m m e", 5, 5}, {"s s s s e", "r1x3 s e", 5, 5}, {"s s s s e", "k2 s s e", 5, 4}, // all of the Way, not its piece
		{"e", "e", 1, 1}, {"m e", "m e", 2, 2},
	} {
		costs(t, of(40, 30, x.main, x.way, ""), x.c, x.lost, nil)
		costs(t, of(40, 30, x.main, x.way, "r3x9 s s s m s s s e"), x.c, x.lost, nil) // what the Opt is counts nothing
	}
	x := of(api.MaxEnd, api.MaxEnd, "", "", "")
	most, n := sample.Ticks(sample.Longest), int64(sample.Longest)
	x.Main = most
	costs(t, x, n, n, nil)
	x.Way = sample.Words("s e")
	costs(t, x, n, 2, nil)
	x.Way = most
	costs(t, x, n, n, nil)
}

// P15.1, Costs: the spans of Main as they stand in it, then those of Way.
func TestSpans(t *testing.T) {
	costs(t, ordinary(), 16, 6, []api.Span{{Sema: 0, Len: 5}, {Sema: 1, Len: 2}, {Sema: 2, Len: 3}})
	for _, x := range []struct {
		main, way string
		c, lost   int64
		spans     []api.Span
	}{
		{"l0 u0 e", "", 3, 3, []api.Span{{Sema: 0, Len: 1}}},
		{"l0 u0 m l1 s s u1 e", "", 8, 5, []api.Span{{Sema: 0, Len: 1}, {Sema: 1, Len: 3}}},
		{"l3 s u3 l1 u1 e", "e", 6, 1, []api.Span{{Sema: 3, Len: 2}, {Sema: 1, Len: 1}}},           // in Main alone
		{"s s s s s e", "l2 s u2 l0 u0 e", 6, 6, []api.Span{{Sema: 2, Len: 2}, {Sema: 0, Len: 1}}}, // in Way alone
		{"l2 u2 s e", "l1 s u1 e", 4, 4, []api.Span{{Sema: 2, Len: 1}, {Sema: 1, Len: 2}}},         // Main first, whichever is longer, or has the lower number
		{"l0 s u0 e", "l1 u1 e", 4, 3, []api.Span{{Sema: 0, Len: 2}, {Sema: 1, Len: 1}}},
		{"l1 s u1 m e", "l1 s u1 m e", 5, 5, []api.Span{{Sema: 1, Len: 2}, {Sema: 1, Len: 2}}}, // the same in both is told twice
		{"l0 l3 u3 u0 l3 u3 e", "l3 l0 s u0 u3 e", 7, 6, []api.Span{{Sema: 0, Len: 3}, {Sema: 3, Len: 1}, {Sema: 3, Len: 1}, {Sema: 3, Len: 4}, {Sema: 0, Len: 2}}},
		{"r3x3 l0 s u0 l2 r1x9 s u2 e", "r2x3 l1 u1 e", 23, 8, []api.Span{{Sema: 0, Len: 2}, {Sema: 2, Len: 11}, {Sema: 1, Len: 1}}}, // in a body, and with one between
	} {
		costs(t, of(40, 30, x.main, x.way, ""), x.c, x.lost, x.spans)
		costs(t, of(40, 30, x.main, x.way, "s m s e"), x.c, x.lost, x.spans)
	}
	lock := sample.Words(sample.Repeated(11, "l0 u0") + "m e")
	x := of(40, 30, "", "", "")
	x.Main, x.Way = lock, lock
	costs(t, x, 24, 24, slices.Repeat([]api.Span{{Sema: 0, Len: 1}}, 22))
}

// P15.1, Costs: zero of a task that may not be, for each of the errors, though its Main alone might be told (want asks it).
func TestNoCosts(t *testing.T) {
	for _, f := range faults() {
		for _, x := range []api.Task{ordinary(), of(40, 30, "s m s e", "", ""), of(40, 30, "l0 s u0 e", "s e", ""), of(40, 30, "l0 s u0 e", "", "s e")} {
			want(t, x, api.OK)
			f.make(&x)
			want(t, x, f.e)
		}
	}
}

// grown is a piece of a program that may be: at most so long, in so many bodies, with these held.
func grown(c *sample.Chance, size, bodies int, held []int, top bool) []api.Inst {
	var l []api.Inst
	for room := size; room > 0 && c.Below(8) > 0; room = size - len(l) {
		inner := c.Below(room)
		sema := c.Below(api.MaxSemas)
		switch kind := c.Below(5); {
		case kind == 0 && inner > 0 && bodies < 2:
			if body := grown(c, inner, bodies+1, held, false); len(body) > 0 {
				l = append(append(l, api.Inst{Op: api.Rep, B: len(body), N: 1 + c.Below(4)}), body...)
			}
		case kind == 1 && inner > 0:
			if body := grown(c, inner, bodies, held, false); len(body) > 0 {
				l = append(append(l, api.Inst{Op: api.Skip, A: c.Below(8), N: len(body)}), body...)
			}
		case kind == 2 && inner > 0 && len(held) < 2 && !slices.Contains(held, sema):
			l = append(l, api.Inst{Op: api.Lock, A: sema})
			l = append(l, grown(c, inner-1, bodies, append(slices.Clone(held), sema), false)...)
			l = append(l, api.Inst{Op: api.Unlock, A: sema})
		case kind == 3 && top:
			l = append(l, api.Inst{Op: api.Mark})
		default:
			l = append(l, api.Inst{Op: api.Mul, A: c.Below(8), B: c.Below(8)})
		}
	}
	return l
}

// program is a program that may be; now and then none.
func program(c *sample.Chance) []api.Inst {
	if c.Below(4) == 0 {
		return nil
	}
	return append(grown(c, 23, 0, nil, true), api.Inst{})
}

// P15.1: tasks of programs that may be: what May tells of each, what Costs tells of those that may be, and 'What follows': another way is no longer than the first one.
func TestGrown(t *testing.T) {
	c := sample.Chance(5)
	told := map[api.Errno]int{}
	for range 20000 {
		x := api.Task{Rank: c.Below(66) - 1, Period: int64(c.Below(60)), Main: program(&c), Way: program(&c), Opt: program(&c)}
		x.End = int64(c.Below(int(x.Period) + 2))
		e := judged(x)
		told[e]++
		want(t, x, e)
		if e != api.OK {
			continue
		}
		main, _ := cost.Of(x.Main)
		way, is := cost.Of(x.Way)
		lost := main.Piece
		if is {
			lost = way.All
		}
		if way.All > main.All {
			t.Errorf("%v: a Way of %d, a Main of %d", x, way.All, main.All)
		}
		costs(t, x, main.All, lost, append(main.Spans, way.Spans...))
	}
	for _, e := range []api.Errno{api.OK, api.EArg, api.EPeriod, api.EForm, api.ECost, api.EBackup} {
		if told[e] < 100 {
			t.Errorf("%d: only %d of them", e, told[e])
		}
	}
}

// R1 and R3: whatever there is in a task: no panic, nothing handed in is changed, its spare room too, and nothing beside an error.
func TestWhatever(t *testing.T) {
	c := sample.Chance(3)
	some := func() int { return int(numbers[c.Below(len(numbers))]) }
	junk := func() []api.Inst {
		l := make([]api.Inst, c.Below(40))
		for at := range l {
			l[at] = api.Inst{Op: c.Below(14) - 1, A: c.Below(5) - 1, B: some(), N: some()}
		}
		return l
	}
	for range 20000 {
		x := api.Task{Rank: some(), Period: int64(some()), End: int64(some()), Main: junk(), Way: junk(), Opt: junk()}
		want(t, x, judged(x))
		x.Rank, x.Period, x.End = 5, api.MaxEnd, api.MaxEnd
		want(t, x, judged(x))
		x.Main = sample.Words("s e")
		want(t, x, judged(x))
	}
	long := make([]api.Inst, 1<<20)
	for _, x := range []api.Task{{Main: long}, {Main: sample.Words("e"), Way: long}, {Main: sample.Words("e"), Opt: long}} {
		x.Period, x.End = 5, 5
		want(t, x, api.EForm)
	}
}

// R3 and R4: what is told is new memory, so whatever becomes of it, the same again tells the same; and programs that share their memory are taken each for itself.
func TestSameAgain(t *testing.T) {
	shared := sample.Words("l0 s l1 u1 u0 s m e")
	x := of(40, 30, "", "", "")
	x.Main, x.Way, x.Opt = shared, shared[5:], shared[5:]
	for _, way := range [][]api.Inst{nil, shared[5:], shared} {
		x.Way = way
		was := roomy(x)
		c, lost, spans := Costs(x)
		first := slices.Clone(spans)
		for range 3 {
			again := spans[:cap(spans)]
			for at := range again {
				again[at] = api.Span{Sema: -1, Len: -1}
			}
			var nextC, nextLost int64
			nextC, nextLost, spans = Costs(x)
			if nextC != c || nextLost != lost || !slices.Equal(spans, first) || len(first) < 2 {
				t.Errorf("%v: %d %d %v, then %d %d %v", x, c, lost, first, nextC, nextLost, spans)
			}
		}
		if !slices.Equal(x.Main, was.Main) || !slices.Equal(x.Way, was.Way) || !slices.Equal(x.Opt, was.Opt) {
			t.Errorf("%v became %v", was, x)
		}
	}
}
