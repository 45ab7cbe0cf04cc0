package bound

import (
	"math"
	"reflect"
	"slices"
	"strings"
	"testing"

	"foliot/api"
	"foliot/block"
	"foliot/sample"
	"foliot/task"
)

// sized is a task that is cost ticks long, and loses lost ticks at most (as long as its Way is).
func sized(period, end int64, cost, lost int) api.Task {
	return api.Task{Period: period, End: end, Main: sample.Ticks(cost), Way: sample.Ticks(lost)}
}

// text is a task whose Main is in words; behind a comma its Way.
func text(period, end int64, s string) api.Task {
	main, way, isWay := strings.Cut(s, ",")
	t := api.Task{Period: period, End: end, Main: sample.Program(main)}
	if isWay {
		t.Way = sample.Program(way)
	}
	return t
}

// row is a row of these tasks: their Ranks rise.
func row(l ...api.Task) []api.Task {
	for at := range l {
		l[at].Rank = 3 + 7*at
	}
	return l
}

// told is what Resp tells.
type told struct {
	r      int64
	rounds int
	e      api.Errno
}

// ask tells what Resp tells. It asks twice, and that l stays as it is.
func ask(t *testing.T, l []api.Task, i int, apart int64) told {
	t.Helper()
	l = sample.Roomy(l)
	same, was := slices.Clone(l), sample.Memory(l)
	var got, again told
	got.r, got.rounds, got.e = Resp(l, i, apart)
	again.r, again.rounds, again.e = Resp(l, i, apart)
	if got != again {
		t.Errorf("%v at %d, %d apart: %v, then %v", l, i, apart, got, again)
	}
	if !reflect.DeepEqual(l, same) || !reflect.DeepEqual(sample.Memory(l), was) {
		t.Errorf("%v became %v", was, l)
	}
	if got.e != api.OK && got != (told{e: got.e}) {
		t.Errorf("%v at %d, %d apart: %v", l, i, apart, got)
	}
	return got
}

// brief is a row in a few numbers, a task each: Period, End, cost, what is lost, what holds it up.
func brief(l []api.Task) [][5]int64 {
	var all [][5]int64
	for i, x := range l {
		cost, lost, _ := task.Costs(x)
		all = append(all, [5]int64{x.Period, x.End, cost, lost, block.By(l, i)})
	}
	return all
}

// isRight asks that l is a row of tasks.
func isRight(t *testing.T, l []api.Task) {
	t.Helper()
	for at, x := range l {
		if e := task.May(x); e != api.OK || at > 0 && l[at-1].Rank >= x.Rank {
			t.Fatalf("%v is no row: %d at %d", l, e, at)
		}
	}
}

// want asks that Resp tells just this of a row.
func want(t *testing.T, l []api.Task, i int, apart int64, w told) {
	t.Helper()
	isRight(t, l)
	if got := ask(t, l, i, apart); got != w {
		t.Errorf("%v at %d, %d apart: %v, want %v", brief(l), i, apart, got, w)
	}
}

// in is an answer.
func in(r int64, rounds int) told { return told{r, rounds, api.OK} }

// no is none.
func no(e api.Errno) told { return told{e: e} }

// far is a distance that nothing comes to again.
const far = math.MaxInt64

// P17.1: the helpers' tasks are as long, and lose as much, as they say.
func TestHelpers(t *testing.T) {
	for _, x := range [][2]int{{1, 1}, {2, 1}, {3, 3}, {24, 7}, {40, 25}, {99, 99}, {sample.Longest, 302}, {sample.Longest, sample.Longest}} {
		cost, lost, _ := task.Costs(sized(api.MaxEnd, api.MaxEnd, x[0], x[1]))
		if cost != int64(x[0]) || lost != int64(x[1]) {
			t.Errorf("%v: %d %d", x, cost, lost)
		}
	}
}

// P17.1: a task alone: its cost, and what is lost as often as hits come.
func TestAlone(t *testing.T) {
	for _, x := range []struct {
		t     api.Task
		apart int64
		w     told
	}{
		{text(100, 100, "s s"), 100, in(6, 2)}, // the chapter's example: 3, 6, 6
		{text(100, 100, "s s"), far, in(6, 2)},
		{sized(100, 100, 1, 1), 100, in(2, 2)},  // as short as there is
		{sized(100, 100, 9, 4), 100, in(13, 2)}, // what is lost is its Way's cost
		{sized(100, 100, 9, 1), 100, in(10, 2)},
		{text(100, 100, "s s s s m s s,s s s"), 100, in(12, 2)},
		{text(100, 100, "s s s s m s s"), 100, in(13, 2)}, // no Way: the longest piece of Main
		{text(100, 100, "s m s s s s m s"), 100, in(14, 2)},
		{text(100, 100, "l0 s u0"), 100, in(8, 2)}, // what it locks itself holds it up for no time
		{sized(100, 100, 8, 2), 10, in(10, 2)},     // 8, 10, 10: just a multiple of apart
		{sized(100, 100, 8, 2), 9, in(12, 3)},      // 8, 10, 12, 12: one above it
		{sized(100, 100, 8, 2), 8, in(12, 3)},
		{sized(100, 100, 8, 2), 7, in(12, 2)},
		{sized(100, 100, 8, 2), 6, in(12, 2)}, // just two times
		{sized(100, 100, 8, 2), 5, in(14, 3)}, // 8, 12, 14, 14
		{sized(100, 100, 8, 2), 4, in(16, 4)}, // 8, 12, 14, 16, 16
		{sized(100, 100, 8, 2), 3, in(24, 6)}, // 8, 14, 18, 20, 22, 24, 24
		{sized(100, 100, 8, 2), 2, no(api.EBound)},
		{sized(100, 100, 8, 2), 1, no(api.EBound)},
		{sized(100, 100, 2, 1), 2, in(4, 3)}, // 2, 3, 4, 4
		{sized(100, 100, 1, 1), 2, in(2, 2)},
		{sized(100, 100, 1, 1), 1, no(api.EBound)},
	} {
		want(t, row(x.t), 0, x.apart, x.w)
	}
}

// P17.1: at just its End it is OK, just above it EBound, in whichever round that comes.
func TestEnd(t *testing.T) {
	for _, x := range []struct {
		cost, lost int
		apart      int64
		first      int64 // the first End that is enough
		w          told
	}{
		{3, 3, 100, 6, in(6, 2)},
		{8, 2, 8, 12, in(12, 3)},
		{8, 2, 3, 24, in(24, 6)},
		{1, 1, 2, 2, in(2, 2)},
		{40, 25, 60, 90, in(90, 3)}, // 40, 65, 90, 90
	} {
		for end := int64(x.cost); end <= 2*x.first; end++ {
			w := x.w
			if end < x.first {
				w = no(api.EBound)
			}
			want(t, row(sized(api.MaxEnd, end, x.cost, x.lost)), 0, x.apart, w)
			want(t, row(sized(end, end, x.cost, x.lost)), 0, x.apart, w)
		}
	}
}

// P17.1: ends as far off as there are.
func TestFarEnd(t *testing.T) {
	want(t, row(sized(api.MaxEnd, api.MaxEnd, 1, 1)), 0, 1, no(api.EBound)) // it rises by one, as far as the end goes
	want(t, row(sized(api.MaxEnd, api.MaxEnd, sample.Longest, sample.Longest)), 0, far, no(api.EBound))
	for _, end := range []int64{sample.Longest, sample.Longest + 301} {
		want(t, row(sized(api.MaxEnd, end, sample.Longest, 302)), 0, far, no(api.EBound))
	}
	for _, end := range []int64{sample.Longest + 302, sample.Longest + 303, api.MaxEnd} {
		want(t, row(sized(api.MaxEnd, end, sample.Longest, 302)), 0, far, in(sample.Longest+302, 2))
	}
	for _, x := range []struct {
		end  int64
		lost int
		w    told
	}{ // 8422, 12905, 14893, 15887, 16384, 16384
		{api.MaxEnd, 10, in(api.MaxEnd, 5)}, {api.MaxEnd - 1, 10, no(api.EBound)}, {api.MaxEnd, 11, no(api.EBound)},
	} {
		want(t, row(sized(1024, 1024, 382, 1), sized(1024, 1024, 115, 1), sized(api.MaxEnd, x.end, sample.Longest, x.lost)), 2, far, x.w)
	}
}

// P17.1: it is its own End that counts, not one of a task ahead or behind.
func TestOtherEnds(t *testing.T) {
	l := row(sized(100, 3, 1, 1), sized(100, 100, 9, 2), sized(100, 4, 1, 1), sized(100, 100, 1, 1))
	want(t, l, 0, far, in(2, 2))
	want(t, l, 1, far, in(12, 2))
	want(t, l, 2, far, no(api.EBound))
	want(t, l, 3, far, in(14, 2))
}

// P17.1: what holds it up (block.By) comes once, from the first on.
func TestHeldUp(t *testing.T) {
	for end := int64(3); end < 30; end++ {
		w := in(10, 2) // 3 + 4, 10, 10
		if end < 10 {
			w = no(api.EBound) // from 7 on in the first round, though what it begins with is not above it
		}
		want(t, row(text(1000, end, "l0 u0"), text(1000, 1000, "l0 s s s u0")), 0, far, w)
		w = in(13, 3) // 7, 10, 13, 13
		if end < 13 {
			w = no(api.EBound)
		}
		want(t, row(text(1000, end, "l0 u0"), text(1000, 1000, "s s s s s,l0 s s s u0")), 0, 7, w)
	}
	l := row(text(100, 100, "s s"), text(100, 100, "l1 s u1"), text(100, 100, "s s s s s"), text(100, 100, "l1 s s s s u1"))
	want(t, l, 0, far, in(6, 2))  // not held up
	want(t, l, 1, far, in(16, 2)) // 4 + 5, and 3 ahead, and 4 lost: 16
	want(t, l, 2, far, in(24, 2)) // it locks nothing, and is held up as long
	want(t, l, 3, far, in(29, 2)) // 7 + 2: by one ahead of it too; 13 ahead, 7 lost
	want(t, l, 0, 5, in(9, 3))    // 3, 6, 9, 9
	want(t, l, 1, 8, in(24, 3))   // 9, 20, 24, 24
}

// P17.1: what is lost at most is the greatest E of the task's own and of those ahead, whoever's it is; of those behind it does not count.
func TestLost(t *testing.T) {
	for _, x := range []struct {
		lost [4]int
		rs   [4]int64
	}{ // each is 9 ticks long
		{[4]int{1, 2, 3, 4}, [4]int64{10, 20, 30, 40}},
		{[4]int{4, 3, 2, 1}, [4]int64{13, 22, 31, 40}},
		{[4]int{2, 9, 4, 1}, [4]int64{11, 27, 36, 45}},
		{[4]int{1, 1, 1, 8}, [4]int64{10, 19, 28, 44}},
		{[4]int{1, 1, 8, 1}, [4]int64{10, 19, 35, 44}},
		{[4]int{5, 5, 5, 5}, [4]int64{14, 23, 32, 41}},
	} {
		l := row(sized(200, 200, 9, x.lost[0]), sized(200, 200, 9, x.lost[1]), sized(200, 200, 9, x.lost[2]), sized(200, 200, 9, x.lost[3]))
		for i, r := range x.rs {
			want(t, l, i, far, in(r, 2))
		}
	}
	// a hit costs the greatest, each time
	l := row(sized(200, 200, 1, 1), sized(200, 200, 9, 6), sized(200, 200, 5, 2), sized(200, 200, 9, 9))
	want(t, l, 2, 40, in(21, 2))
	want(t, l, 2, 21, in(21, 2))
	want(t, l, 2, 20, in(27, 3)) // 5, 21, 27, 27
	want(t, l, 2, 9, in(45, 5))  // 5, 21, 33, 39, 45, 45
}

// P17.1: each task ahead comes as often as its Period goes into r, rounded up.
func TestAhead(t *testing.T) {
	for _, x := range []struct {
		period int64 // of one ahead that is 2 ticks long; 5 are its own, and 1 is lost
		w      told
	}{
		{1000, in(8, 2)}, {9, in(8, 2)},
		{8, in(8, 2)},  // 5, 8, 8: just a multiple
		{7, in(10, 3)}, // 5, 8, 10, 10: one above it
		{6, in(10, 3)},
		{5, in(10, 3)}, // 5 is once, 8 is twice, and 10 is
		{4, in(12, 3)}, // 5 is twice: 10; 10 is three times: 12, and 12 is
		{3, in(18, 5)}, // 5, 10, 14, 16, 18, 18
		{2, no(api.EBound)},
	} {
		want(t, row(sized(x.period, x.period, 2, 1), sized(100, 100, 5, 1)), 1, far, x.w)
	}
}

// P17.1: several tasks ahead, each by its own Period.
func TestSeveralAhead(t *testing.T) {
	l := row(sized(10, 10, 2, 1), sized(15, 12, 3, 1), sized(40, 40, 4, 2), sized(200, 200, 20, 3))
	want(t, l, 0, far, in(3, 2))
	want(t, l, 1, far, in(6, 2))
	want(t, l, 2, far, in(13, 3)) // 4, 11, 13, 13
	want(t, l, 3, far, in(55, 6)) // 20, 37, 44, 50, 53, 55, 55
	// many rounds: 302, 755, 982, 1095, 1152, 1180, 1194, 1201, 1205, 1207, 1208, 1208
	want(t, row(sized(2, 2, 1, 1), sized(api.MaxEnd, api.MaxEnd, 302, 302)), 1, far, in(1208, 11))
}

// P17.1: tasks behind come not at all: whatever they are, if they lock nothing.
func TestBehind(t *testing.T) {
	ahead := row(sized(10, 10, 2, 2), sized(40, 40, 9, 3))
	for _, behind := range []api.Task{sized(1, 1, 1, 1), sized(9, 9, 9, 9), sized(api.MaxEnd, api.MaxEnd, sample.Longest, sample.Longest), sized(40, 40, 1, 1)} {
		l := row(ahead[0], ahead[1], behind)
		for i := range 2 {
			for apart := int64(1); apart < 40; apart++ {
				want(t, l, i, apart, ask(t, ahead, i, apart))
			}
		}
	}
}

// rounds says what P17.1 says of the rounds of a place of a row: what each makes of r.
func rounds(l []api.Task, i int, apart int64) func(r int64) int64 {
	often := func(r, every int64) int64 {
		n := r / every
		if n*every < r {
			n++
		}
		return n
	}
	all := brief(l[:i+1])
	held, most := block.By(l, i), int64(0)
	for _, x := range all {
		most = max(most, x[3])
	}
	return func(r int64) int64 {
		sum := held + all[i][2] + often(r, apart)*most
		for _, x := range all[:i] {
			sum += often(r, x[0]) * x[2]
		}
		return sum
	}
}

// reckoned says what P17.1 says of Resp of a row and a place of it, round by round.
func reckoned(l []api.Task, i int, apart int64) told {
	round := rounds(l, i, apart)
	r := round(0)
	for n := 1; ; n++ {
		next := round(r)
		if next > l[i].End {
			return no(api.EBound)
		}
		if next == r {
			return in(r, n)
		}
		r = next
	}
}

// agree asks that Resp tells what P17.1 says of a row, at each place. How often it is OK, it tells.
func agree(t *testing.T, l []api.Task, apart int64) int {
	t.Helper()
	oks := 0
	for i := range l {
		w := reckoned(l, i, apart)
		want(t, l, i, apart, w)
		if w.e == api.OK {
			oks++
		}
	}
	return oks
}

// P17.1: all rows of two short tasks, hits a few ticks apart, with one behind them that holds up.
func TestAllShort(t *testing.T) {
	var ahead []api.Task
	for period := int64(1); period <= 7; period++ {
		for cost := 1; cost <= min(4, int(period)); cost++ {
			for lost := 1; lost <= cost; lost++ {
				ahead = append(ahead, sized(period, period, cost, lost))
			}
		}
	}
	behind := text(9, 9, "l2 s u2")
	for _, first := range ahead {
		for cost := 1; cost <= 3; cost++ {
			for lost := 1; lost <= cost; lost++ {
				for apart := int64(1); apart <= 9; apart++ {
					agree(t, row(first, sized(90, 30, cost, lost)), apart)
				}
				for apart := int64(1); apart <= 4; apart++ {
					second := text(90, 25, "l2 u2 "+sample.Repeated(cost-1, "s"))
					second.Way = sample.Ticks(lost)
					agree(t, row(first, second, behind), apart)
				}
			}
		}
	}
}

// tasks is a row of n tasks of such programs, which come about so often that it is enough, or just not.
func tasks(c *sample.Chance, n int) []api.Task {
	var l []api.Task
	for range n {
		x := text(api.MaxEnd, api.MaxEnd, sample.Pieces(c, 4))
		if way := sample.Program(sample.Pieces(c, 3)); c.Below(2) == 0 {
			x.Way = way
		}
		if task.May(x) != api.OK { // the Way is the longer one
			x.Main, x.Way = x.Way, x.Main
		}
		cost, _, _ := task.Costs(x)
		x.Period = cost*int64(1+c.Below(3*n)) + int64(c.Below(200))
		x.End = x.Period - int64(c.Below(int(x.Period-cost)+1))/2
		l = append(l, x)
	}
	return row(l...)
}

// distance is how far hits are apart: near, far, or farther than all.
func distance(c *sample.Chance) int64 {
	switch c.Below(5) {
	case 0:
		return far - int64(c.Below(3))
	case 1:
		return int64(1 + c.Below(20))
	}
	return int64(1 + c.Below(600))
}

// P17.1: rows of some tasks, as many as may be.
func TestSome(t *testing.T) {
	c := sample.Chance(17)
	all, oks := 0, 0
	for n := range 1200 {
		l := tasks(&c, n%(api.MaxTasks+1))
		all += len(l)
		oks += agree(t, l, distance(&c))
	}
	if oks < all/5 || oks > all*4/5 {
		t.Errorf("%d of %d are OK", oks, all)
	}
}

// 'What follows': it is the least r that is so; where there is none up to End, EBound.
func TestLeast(t *testing.T) {
	c := sample.Chance(5)
	for n := range 600 {
		l := tasks(&c, 1+n%api.MaxTasks)
		apart := distance(&c)
		for i, x := range l {
			w, round := no(api.EBound), rounds(l, i, apart)
			for r := range x.End + 1 {
				if round(r) == r {
					w = told{r: r}
					break
				}
			}
			got := ask(t, l, i, apart)
			if got.r != w.r || got.e != w.e {
				t.Errorf("%v at %d, %d apart: %v, want %v", brief(l), i, apart, got, w)
			}
		}
	}
}

// 'What follows': with hits farther apart, less that is lost, or fewer tasks ahead, it is no more; a longer End changes nothing but EBound.
func TestLess(t *testing.T) {
	c := sample.Chance(6)
	for n := range 600 {
		l := tasks(&c, 1+n%api.MaxTasks)
		i, apart := c.Below(len(l)), distance(&c)
		got := ask(t, l, i, apart)
		longer := slices.Clone(l)
		longer[i].Period, longer[i].End = api.MaxEnd, api.MaxEnd
		if w := ask(t, longer, i, apart); got.e == api.OK && w != got || got.e != api.OK && w.e == api.OK && w.r <= l[i].End {
			t.Errorf("%v at %d, %d apart: %v, with a longer End %v", brief(l), i, apart, got, w)
		}
		if got.e != api.OK {
			continue
		}
		if w := ask(t, l, i, min(apart, far-9)+9); w.e != api.OK || w.r > got.r {
			t.Errorf("%v at %d, %d apart: %v, farther apart %v", brief(l), i, apart, got, w)
		}
		if i > 0 {
			less := slices.Delete(slices.Clone(l), 0, 1)
			if block.By(less, i-1) > block.By(l, i) {
				continue // another one holds it up now
			}
			if w := ask(t, less, i-1, apart); w.e != api.OK || w.r >= got.r {
				t.Errorf("%v at %d, %d apart: %v, without the first %v", brief(l), i, apart, got, w)
			}
		}
	}
}

// P17.1: apart as far as there is; apart just as far as it takes, and a tick less.
func TestApart(t *testing.T) {
	c := sample.Chance(8)
	for n := range 150 {
		l := tasks(&c, 1+n%api.MaxTasks)
		for i := range l {
			got := ask(t, l, i, far)
			if got.e != api.OK {
				continue
			}
			for _, apart := range []int64{got.r, got.r + 1, 1 << 32, far - 1} {
				want(t, l, i, apart, got) // no second hit
			}
			if got.r > 1 {
				if w := ask(t, l, i, got.r-1); w.e == api.OK && w.r <= got.r {
					t.Errorf("%v at %d, %d apart: %v, and %v", brief(l), i, got.r-1, w, got)
				}
			}
		}
	}
}

// P17.1: EArg of places that are none, and of apart below 1, whatever else there is.
func TestNoPlace(t *testing.T) {
	for n := range api.MaxTasks + 1 {
		l := row(slices.Repeat([]api.Task{sized(100, 100, 5, 2)}, n)...)
		isRight(t, l)
		for _, x := range sample.Numbers() {
			if x < 0 || x >= n {
				for _, apart := range []int64{-1, 0, 1, 50, far} {
					want(t, l, x, apart, no(api.EArg))
				}
			}
			if x < 1 {
				for i := -1; i <= n; i++ {
					want(t, l, i, int64(x), no(api.EArg))
				}
			}
		}
	}
	for _, l := range [][]api.Task{nil, {}, row(sized(9, 9, 1, 1), sized(9, 9, 2, 2))[:0]} {
		want(t, l, 0, 1, no(api.EArg))
		want(t, l, 1, far, no(api.EArg))
	}
	// its places are those of the row, not of the room behind it
	l := row(sized(100, 100, 5, 2), sized(100, 100, 5, 2), sized(100, 100, 5, 2))
	want(t, l[:2], 2, 50, no(api.EArg))
	want(t, l[:2], 1, 50, in(12, 2))
}

// P17.1: EArg of rows that may not be, wherever it is that they may not: at the place, ahead of it, behind it.
func TestNoRow(t *testing.T) {
	fit := func() []api.Task {
		return row(sized(100, 100, 3, 1), sized(100, 90, 4, 2), sized(100, 100, 3, 3))
	}
	for at := range 3 {
		for _, spoil := range []func(x *api.Task){
			func(x *api.Task) { x.Rank = -1 },
			func(x *api.Task) { x.Rank = api.MaxRank + 1 },
			func(x *api.Task) { x.Rank = math.MinInt },
			func(x *api.Task) { x.Rank = 1 << 32 },
			func(x *api.Task) { x.Rank = fit()[(at+1)%3].Rank }, // alike
			func(x *api.Task) { x.Rank = fit()[(at+2)%3].Rank },
			func(x *api.Task) { x.Rank = []int{11, 18, 2}[at] }, // falling
			func(x *api.Task) { x.Period = 0 },
			func(x *api.Task) { x.Period = api.MaxEnd + 1 },
			func(x *api.Task) { x.Period = 50 },
			func(x *api.Task) { x.End = 0 },
			func(x *api.Task) { x.End = 2 },
			func(x *api.Task) { x.End = math.MinInt64 },
			func(x *api.Task) { x.End = 101 },
			func(x *api.Task) { x.Main = nil },
			func(x *api.Task) { x.Main = x.Main[:2] },
			func(x *api.Task) { x.Main = sample.Ticks(60); x.End = 59 },
			func(x *api.Task) { x.Main = sample.Program("l0") },
			func(x *api.Task) { x.Way = sample.Program("k1") },
			func(x *api.Task) { x.Way = sample.Program("s s s s s s") },
			func(x *api.Task) { x.Opt = sample.Program("l0 u0") },
			func(x *api.Task) { x.Opt = sample.Program("m")[:1] },
			func(x *api.Task) { *x = api.Task{} },
		} {
			l := fit()
			spoil(&l[at])
			for i := -1; i < 4; i++ {
				for _, apart := range []int64{0, 1, 40, far} {
					if got := ask(t, l, i, apart); got != no(api.EArg) {
						t.Errorf("%v at %d, %d apart: %v", l, i, apart, got)
					}
				}
			}
		}
	}
	isRight(t, fit())
	// as low, as high and as near as Ranks may be
	for _, ranks := range [][3]int{{0, 1, 2}, {61, 62, 63}, {0, 31, 63}} {
		l := fit()
		for at := range l {
			l[at].Rank = ranks[at]
		}
		want(t, l, 2, far, in(13, 2))
	}
}

// P17.1: a row of tasks whose Ranks are so, though they are handed in the other way round.
func TestOtherWayRound(t *testing.T) {
	l := row(sized(100, 100, 3, 1), sized(100, 90, 4, 2))
	want(t, l, 1, far, in(9, 2))
	slices.Reverse(l)
	for i := range 2 {
		if got := ask(t, l, i, far); got != no(api.EArg) {
			t.Errorf("%v", got)
		}
	}
}

// P17.1: an Opt takes no time.
func TestOpt(t *testing.T) {
	l := row(sized(100, 100, 3, 1), sized(100, 90, 4, 2))
	for at := range l {
		l[at].Opt = sample.Program("r20x20 " + sample.Repeated(20, "s"))
	}
	want(t, l, 0, far, in(4, 2))
	want(t, l, 1, far, in(9, 2))
}

// P17.1: work that is done in its first round, for nothing comes again.
func TestFirstRound(t *testing.T) {
	for _, w := range []work{{own: 5}, {wait: 5}, {own: 3, wait: 2}, {own: 5, again: []load{{0, 7}}}} {
		if r, n, e := w.least(5); r != 5 || n != 1 || e != api.OK {
			t.Errorf("%v: %d %d %d", w, r, n, e)
		}
		if r, n, e := w.least(4); r != 0 || n != 0 || e != api.EBound {
			t.Errorf("%v: %d %d %d", w, r, n, e)
		}
	}
}

// P17.1: EOver where something is no int64: one time what comes again, all of it, or the whole; it is looked for ahead of EBound, in whichever round.
func TestOver(t *testing.T) {
	const half = 1 << 62
	for _, w := range []work{
		{own: far, wait: 1},
		{own: 1, wait: far},
		{own: half, wait: half},
		{own: 1, again: []load{{far, far}}},
		{own: 2, again: []load{{far, 1}}},               // two times far
		{own: 2, again: []load{{half, 1}}},              // two times half
		{own: 1, again: []load{{half, 9}, {half, 9}}},   // both
		{own: 1, again: []load{{far - 1, 9}, {1, 9}}},   // the last one
		{own: 3, again: []load{{1, far}, {half, 2}}},    // two times half
		{own: 1, again: []load{{1 << 61, 1}}},           // in the second round
		{own: 1, again: []load{{1, far}, {half, 1}}},    // in the second round
		{own: 1, again: []load{{1, 1}, {1<<31 + 1, 1}}}, // in the third
		{own: far, again: []load{{1, far}, {far, far}}},
	} {
		if r, n, e := w.least(far); r != 0 || n != 0 || e != api.EOver {
			t.Errorf("%v: %d %d %d", w, r, n, e)
		}
	}
	for _, w := range []work{{own: far, wait: 1}, {own: 2, again: []load{{far, 1}}}, {own: 1, again: []load{{half, 9}, {half, 9}}}} {
		for _, end := range []int64{0, 1, 100, far - 1} { // above each of them too
			if r, n, e := w.least(end); r != 0 || n != 0 || e != api.EOver {
				t.Errorf("%v: %d %d %d", w, r, n, e)
			}
		}
	}
	// EBound in the first round, where EOver would come in the second
	if r, n, e := (work{own: 1, again: []load{{1 << 61, 1}}}).least(1 << 60); r != 0 || n != 0 || e != api.EBound {
		t.Errorf("%d %d %d", r, n, e)
	}
	// just the greatest int64 is one
	for _, w := range []work{{own: far - 1, again: []load{{1, far}}}, {own: 1, again: []load{{far - 1, far}}}, {own: 1, wait: half - 2, again: []load{{half, far}}}} {
		if r, n, e := w.least(far); r != far || n != 2 || e != api.OK {
			t.Errorf("%v: %d %d %d", w, r, n, e)
		}
		if r, n, e := w.least(far - 1); r != 0 || n != 0 || e != api.EBound {
			t.Errorf("%v: %d %d %d", w, r, n, e)
		}
	}
}

// P17.1: what went beyond stays so, though what is added behind it is little, or nothing.
func TestTally(t *testing.T) {
	for _, x := range []struct {
		add  []int64
		no   int // which one went beyond already
		n    int64
		over bool
	}{
		{nil, -1, 0, false}, {[]int64{1, 2, 3}, -1, 6, false}, {[]int64{far}, -1, far, false}, {[]int64{far, 0, 0}, -1, far, false},
		{[]int64{far, 1}, -1, far, true}, {[]int64{far, 1, 0}, -1, far, true}, {[]int64{5, far, 0}, -1, far, true},
		{[]int64{far}, 0, far, true}, {[]int64{far, 0}, 0, far, true}, {[]int64{0, far}, 1, far, true},
	} {
		var all tally
		for at, n := range x.add {
			all.add(n, at != x.no)
		}
		if all != (tally{x.n, x.over}) {
			t.Errorf("%v: %v", x, all)
		}
	}
}

// R1 and R3: whatever there is in a row: no panic, nothing changed, the same again; EArg, if it is no row.
func TestWhatever(t *testing.T) {
	c := sample.Chance(3)
	numbers := sample.Numbers()
	some := func() int { return numbers[c.Below(len(numbers))] }
	for n := range 1500 {
		l := tasks(&c, n%(api.MaxTasks+3))
		may := true
		for at := range l {
			x := &l[at]
			switch c.Below(16) {
			case 0:
				x.Rank = some()
			case 1:
				x.Period, x.End = int64(some()), int64(some())
			case 2:
				x.Main = sample.Junk(&c)
			case 3:
				x.Way = sample.Junk(&c)
			case 4:
				x.Opt = sample.Junk(&c)
			}
			may = may && task.May(*x) == api.OK && (at == 0 || l[at-1].Rank < x.Rank)
		}
		for _, i := range []int{0, len(l) - 1, c.Below(len(l) + 1), some()} {
			apart := int64(some())
			got := ask(t, l, i, apart)
			if wrong := !may || i < 0 || i >= len(l) || apart < 1; wrong != (got.e == api.EArg) {
				t.Errorf("%v at %d, %d apart: %v", brief(l), i, apart, got)
			}
		}
	}
}

// R1: very many tasks, that may be, and that may not: it ends.
func TestVeryMany(t *testing.T) {
	if _, _, e := Resp(make([]api.Task, 1<<18), 5, 9); e != api.EArg {
		t.Error(e)
	}
	if _, _, e := Resp(slices.Repeat([]api.Task{sized(9, 9, 2, 1)}, 1<<18), 1<<18-1, 9); e != api.EArg {
		t.Error(e)
	}
}
