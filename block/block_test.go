package block

import (
	"reflect"
	"slices"
	"strings"
	"testing"

	"foliot/api"
	"foliot/sample"
	"foliot/task"
)

// program is these words with an End behind them; no words are no program.
func program(s string) []api.Inst {
	if s == "" {
		return nil
	}
	return sample.Program(s)
}

// row is a row of tasks, a text each: its Main, behind a comma its Way, behind another one its Opt.
func row(texts ...string) []api.Task {
	var l []api.Task
	for at, s := range texts {
		part := append(strings.Split(s, ","), "", "")
		l = append(l, api.Task{Rank: 1 + 7*at, Period: api.MaxEnd, End: api.MaxEnd, Main: program(part[0]), Way: program(part[1]), Opt: program(part[2])})
	}
	return l
}

// told is what Ceil tells of each semaphore, and By of each place.
type told struct {
	ceils [api.MaxSemas]int
	by    []int64
}

// ask tells what Ceil and By tell of l. It asks all of it twice, and that l stays as it is.
func ask(t *testing.T, l []api.Task) told {
	t.Helper()
	l = sample.Roomy(l)
	same, was := slices.Clone(l), sample.Memory(l)
	got, again := asked(l), asked(l)
	if got.ceils != again.ceils || !slices.Equal(got.by, again.by) {
		t.Errorf("%v: %v, then %v", l, got, again)
	}
	if !reflect.DeepEqual(l, same) || !reflect.DeepEqual(sample.Memory(l), was) {
		t.Errorf("%v became %v", was, l)
	}
	return got
}

// asked is what Ceil and By tell of l, one by one.
func asked(l []api.Task) told {
	var got told
	for s := range got.ceils {
		got.ceils[s] = Ceil(l, s)
	}
	for i := range l {
		got.by = append(got.by, By(l, i))
	}
	return got
}

// nowhere asks Ceil of what is no semaphore, and By of what is no place: nobody locks it, nobody is held up there.
func nowhere(t *testing.T, l []api.Task) {
	t.Helper()
	for _, n := range sample.Numbers() {
		if c := Ceil(l, n); c != api.MaxTasks && (n < 0 || n >= api.MaxSemas) {
			t.Errorf("%v: Ceil of %d: %d", l, n, c)
		}
		if b := By(l, n); b != 0 && (n < 0 || n >= len(l)) {
			t.Errorf("%v: By of %d: %d", l, n, b)
		}
	}
}

// isRow asks that l is a row of tasks.
func isRow(t *testing.T, l []api.Task) {
	t.Helper()
	for at, x := range l {
		if e := task.May(x); e != api.OK || at > 0 && l[at-1].Rank >= x.Rank {
			t.Fatalf("%v is no row: %d at %d", l, e, at)
		}
	}
}

// want asks that Ceil and By tell just these of a row.
func want(t *testing.T, l []api.Task, ceils [api.MaxSemas]int, by ...int64) {
	t.Helper()
	isRow(t, l)
	if got := ask(t, l); got.ceils != ceils || !slices.Equal(got.by, by) {
		t.Errorf("%v: %v %v, want %v %v", l, got.ceils, got.by, ceils, by)
	}
}

// no is that nobody locks it.
const no = api.MaxTasks

// all is Ceil of each semaphore.
type all = [api.MaxSemas]int

// P16.1, Ceil: what Main locks, what Way alone locks, what both do, what nobody does.
func TestCeil(t *testing.T) {
	for _, x := range []struct {
		texts []string
		ceils all
	}{
		{[]string{"s s"}, all{no, no, no, no}},
		{[]string{"l0 u0"}, all{0, no, no, no}},
		{[]string{"l3 s u3"}, all{no, no, no, 0}},
		{[]string{"s", "s", "l2 u2"}, all{no, no, 2, no}},
		{[]string{"s s", "s s,l1 u1"}, all{no, 1, no, no}},                 // Way alone
		{[]string{"s s", "l1 s u1,l1 u1"}, all{no, 1, no, no}},             // both
		{[]string{"s s", "l1 s u1,l2 u2"}, all{no, 1, 1, no}},              // each another one
		{[]string{"l0 l3 u3 u0 m l1 u1", "l2 s u2"}, all{0, 0, 1, 0}},      // several in one
		{[]string{"r3x2 l2 s u2", "k3 l1 s u1"}, all{no, 1, 0, no}},        // in a body, in a reach
		{[]string{"s s s s m l1 u1", "l1 u1 m s s"}, all{no, 0, no, no}},   // wherever in a task
		{[]string{"s s s s,s m l3 u3", "l3 s s u3"}, all{no, no, no, 0}},   // Way ahead of another one's Main
		{[]string{"l3 u3", "s s s s,s m l3 u3"}, all{no, no, no, 0}},       // Main ahead of another one's Way
		{[]string{"s", "s s,l0 u0", "s s s,l0 u0"}, all{1, no, no, no}},    // two Ways
		{[]string{"s", "l0 u0", "l0 u0", "l0 s s u0"}, all{1, no, no, no}}, // the first place, not the last, nor the longest
		{[]string{"l3 u3", "l2 u2", "l1 u1", "l0 u0"}, all{3, 2, 1, 0}},    // whichever number
		{[]string{"l1 u1", "l0 l1 u1 u0", "l2 l0 u0 u2", "l3 l2 u2 u3"}, all{1, 0, 2, 3}},
		{[]string{"s", "s", "s", "s", "s", "s", "s", "l1 u1"}, all{no, 7, no, no}}, // the last place of the longest row
	} {
		l := row(x.texts...)
		isRow(t, l)
		if got := ask(t, l); got.ceils != x.ceils {
			t.Errorf("%v: %v, want %v", x.texts, got.ceils, x.ceils)
		}
	}
}

// P16.1: an empty row, nil or not, or with spare room.
func TestEmpty(t *testing.T) {
	for _, l := range [][]api.Task{nil, {}, row("l0 s u0", "l1 s u1")[:0]} {
		want(t, l, all{no, no, no, no})
		nowhere(t, l)
	}
}

// P16.1: numbers of no semaphore, places that are none: of rows of each length, that lock all there is.
func TestNowhere(t *testing.T) {
	for n := range api.MaxTasks + 1 {
		l := row(slices.Repeat([]string{"l0 s u0 l1 u1 l2 s s u2 l3 u3"}, n)...)
		isRow(t, l)
		nowhere(t, sample.Roomy(l))
		for s := range api.MaxSemas {
			if c := Ceil(l, s); n > 0 && c != 0 {
				t.Errorf("%d of %d: %d", s, n, c)
			}
		}
	}
}

// P16.1: what is optional counts nothing: whatever numbers stand in it, and though it locks (then its task may not be).
func TestOpt(t *testing.T) {
	for _, opt := range []string{"s", "m s", "r1x3 s k2 s s"} { // memories 2 and 3, which are no semaphores
		want(t, row("s,s,"+opt, "l1 u1,,"+opt), all{no, 1, no, no}, 0, 0)
	}
	for _, opt := range []string{"l0 u0", "s l0 s s s u0 s"} {
		l := row("s,s,"+opt, "l1 s u1", "s,,"+opt, "l1 s s u1")
		if got := ask(t, l); got.ceils != (all{no, 1, no, no}) || !slices.Equal(got.by, []int64{0, 3, 3, 2}) {
			t.Errorf("%v: %v", opt, got)
		}
	}
}

// P16.1, By: rows of one: nobody is at another place.
func TestByAlone(t *testing.T) {
	for _, s := range []string{"s", "l0 u0", "l1 s s s u1", "l0 l3 s u3 u0", "l2 s u2,l2 s u2", "s s s,l1 u1", "r3x20 l1 s u1"} {
		l := row(s)
		isRow(t, l)
		if got := ask(t, l); !slices.Equal(got.by, []int64{0}) {
			t.Errorf("%s: %v", s, got)
		}
	}
}

// P16.1, By: rows of two.
func TestByTwo(t *testing.T) {
	want(t, row("l0 u0", "l0 s s s u0"), all{0, no, no, no}, 4, 1) // by one behind it, by one ahead of it
	want(t, row("l0 s s s u0", "l0 u0"), all{0, no, no, no}, 1, 4)
	want(t, row("l0 s u0", "s"), all{0, no, no, no}, 0, 2)              // by one ahead of it, though it locks nothing itself
	want(t, row("s", "l0 s u0"), all{1, no, no, no}, 0, 0)              // not by what is of one behind it alone, nor by its own
	want(t, row("l1 s u1", "l2 s s u2"), all{no, 0, 1, no}, 0, 2)       // not the same one
	want(t, row("l1 s u1 l2 u2", "l2 s s u2"), all{no, 0, 0, no}, 3, 2) // the greatest of one task
	want(t, row("l1 u1 l2 s u2", "l2 s s u2"), all{no, 0, 0, no}, 3, 2)
	want(t, row("s", "s"), all{no, no, no, no}, 0, 0)
}

// P16.1, By: by several the greatest alone counts, not all of them, not the first, not the last; not its own.
func TestBySeveral(t *testing.T) {
	want(t, row("l0 u0 l1 u1", "l0 s u0", "l1 s s u1", "l0 s s s s u0", "l1 s u1"), all{0, 0, no, no}, 5, 5, 5, 3, 5)
	want(t, row("l0 u0", "l0 s s u0", "l0 s u0"), all{0, no, no, no}, 3, 2, 3)
	want(t, row("l0 s s s u0", "l0 s u0", "l0 u0"), all{0, no, no, no}, 2, 4, 4)
	want(t, row("l0 u0", "l0 u0 l0 s s u0 l0 s u0"), all{0, no, no, no}, 3, 1) // several times in one
	want(t, row("l0 s s u0 l0 s u0", "s", "l0 s u0 l0 u0"), all{0, no, no, no}, 2, 3, 3)
	want(t, row("l3 l2 s u2 u3", "l3 u3", "l2 u2"), all{no, no, 0, 0}, 1, 4, 4) // the outer one is held longer
	want(t, row("l2 u2", "l3 l2 s u2 u3", "s"), all{no, no, 0, 1}, 2, 1, 4)
}

// P16.1, By: a Ceil above (behind) the place does not count, one at it and one ahead of it do.
func TestByCeil(t *testing.T) {
	want(t, row("s", "s", "l0 u0", "l0 s s u0"), all{2, no, no, no}, 0, 0, 3, 1)
	want(t, row("s", "l1 s u1", "s s", "l1 s s s u1"), all{no, 1, no, no}, 0, 4, 4, 2)
	want(t, row("l1 u1", "s", "l0 s l1 s u1 u0"), all{2, 0, no, no}, 2, 2, 1) // the inner one holds up, the outer one does not
	want(t, row("l3 u3", "l2 u2", "l1 u1", "l0 u0", "l0 s s s s u0", "l1 s s s u1", "l2 s s u2", "l3 s u3"), all{3, 2, 1, 0}, 2, 3, 4, 5, 4, 5, 5, 5)
	want(t, row("l0 u0", "l1 u1", "l2 u2", "l3 u3", "l3 s s s s u3", "l2 s s s u2", "l1 s s u1", "l0 s u0"), all{0, 1, 2, 3}, 2, 3, 4, 5, 4, 5, 5, 5)
	want(t, row("s", "s", "s", "s", "s", "s", "s", "l0 s u0"), all{7, no, no, no}, 0, 0, 0, 0, 0, 0, 0, 0)
	want(t, row("s", "s", "s", "s", "s", "s", "l0 s s u0", "l0 s u0"), all{6, no, no, no}, 0, 0, 0, 0, 0, 0, 2, 3)
}

// P16.1, By: spans of Main and of Way, and a Ceil that comes of a Way.
func TestByWay(t *testing.T) {
	want(t, row("l0 u0", "s s s s,l0 s u0"), all{0, no, no, no}, 2, 1)
	want(t, row("l0 u0", "l0 u0 s s,l0 s u0"), all{0, no, no, no}, 2, 1)   // Way longer
	want(t, row("l0 u0", "l0 s s u0 s,l0 s u0"), all{0, no, no, no}, 3, 1) // Main longer
	want(t, row("s s s,l0 u0", "l0 s s u0"), all{0, no, no, no}, 3, 1)
	want(t, row("s s s,l0 u0", "s s s s,l0 s u0"), all{0, no, no, no}, 2, 1)
	want(t, row("s s s s", "s s s s,l1 s s u1", "l1 u1"), all{no, 1, no, no}, 0, 1, 3)
	want(t, row("l1 u1,l2 u2", "l2 s u2,l1 u1", "l2 s s u2"), all{no, 0, 0, no}, 3, 3, 2)
}

// P16.1, By: a Lock in a body counts one go; a body between a Lock and its Unlock counts all of its goes. The longest there is.
func TestByRep(t *testing.T) {
	want(t, row("l0 u0", "r3x5 l0 s u0"), all{0, no, no, no}, 2, 1)
	want(t, row("l0 u0", "r5x2 s r3x5 l0 s u0"), all{0, no, no, no}, 2, 1)
	want(t, row("l0 u0", "l0 r2x5 s s u0"), all{0, no, no, no}, 12, 1)
	want(t, row("l0 u0", "r5x9 l0 r2x5 s s u0"), all{0, no, no, no}, 12, 1)
	longest := "l0 r20x20 r19x20 " + strings.Repeat("s ", 19) + "u0"
	want(t, row("l0 u0", longest, longest), all{0, no, no, no}, 1+20*(1+20*19)+1, 1+20*(1+20*19)+1, 1+20*(1+20*19)+1)
	want(t, row("s", longest), all{1, no, no, no}, 0, 0)
}

// ceilOf says what P16.1 says of Ceil, instruction by instruction.
func ceilOf(l []api.Task, s int) int {
	for at, x := range l {
		if slices.Contains(slices.Concat(x.Main, x.Way), api.Inst{Op: api.Lock, A: s}) {
			return at
		}
	}
	return api.MaxTasks
}

// byOf says what P16.1 says of By, span by span.
func byOf(l []api.Task, i int) int64 {
	var most int64
	for at, x := range l {
		_, _, spans := task.Costs(x)
		for _, p := range spans {
			if at != i && ceilOf(l, p.Sema) <= i {
				most = max(most, int64(p.Len))
			}
		}
	}
	return most
}

// agree asks that Ceil and By tell what P16.1 says of a row.
func agree(t *testing.T, l []api.Task) {
	t.Helper()
	var ceils all
	for s := range ceils {
		ceils[s] = ceilOf(l, s)
	}
	var by []int64
	for i := range l {
		by = append(by, byOf(l, i))
	}
	want(t, l, ceils, by...)
}

// P16.1: all rows of at most four tasks out of a few.
func TestAllShort(t *testing.T) {
	few := []string{"s", "l0 u0", "l0 s s u0", "l1 s u1", "l0 s l1 s u1 u0", "s s s s s,l1 s s u1", "l1 u1 m l0 s s s u0,l0 u0"}
	var rows func([]string)
	rows = func(texts []string) {
		agree(t, row(texts...))
		if len(texts) < 4 {
			for _, s := range few {
				rows(append(slices.Clone(texts), s))
			}
		}
	}
	rows(nil)
}

// tasks is a row of n tasks of such programs.
func tasks(c *sample.Chance, n int) []api.Task {
	var l []api.Task
	for at := range n {
		x := row(sample.Pieces(c, 4))[0]
		x.Rank = at*8 + c.Below(8)
		if way := sample.Program(sample.Pieces(c, 3)); c.Below(2) == 0 {
			x.Way = way
		}
		if task.May(x) != api.OK { // the Way is the longer one
			x.Main, x.Way = x.Way, x.Main
		}
		l = append(l, x)
	}
	return l
}

// P16.1: rows of some programs, as many tasks as may be.
func TestSome(t *testing.T) {
	c := sample.Chance(7)
	for n := range 2000 {
		agree(t, tasks(&c, n%(api.MaxTasks+1)))
	}
}

// 'What follows': who locks nothing holds up nobody: with it in a row, wherever, all the others are held up just as without it; and what it is held up itself, the one that takes its place would be.
func TestWhoLocksNothing(t *testing.T) {
	c := sample.Chance(9)
	idle := row("s r2x20 s s m k1 s,m s s,r1x20 s")[0]
	for n := range 400 {
		l := tasks(&c, n%api.MaxTasks)
		was := ask(t, l)
		for at := range len(l) + 1 {
			more := slices.Insert(slices.Clone(l), at, idle)
			for place := range more {
				more[place].Rank = place
			}
			isRow(t, more)
			got := ask(t, more)
			for s, ceil := range was.ceils {
				if ceil != no && ceil >= at {
					ceil++
				}
				if got.ceils[s] != ceil {
					t.Errorf("%v at %d: Ceil of %d: %d, then %d", l, at, s, was.ceils[s], got.ceils[s])
				}
			}
			if others := slices.Delete(slices.Clone(got.by), at, at+1); !slices.Equal(others, was.by) {
				t.Errorf("%v at %d: %v, then %v", l, at, was.by, got.by)
			}
		}
	}
}

// R1 and R3: rows that may not be: of ranks that fall or are alike, with tasks that may not be, too many: no panic, nothing changed, the same again.
func TestNoRow(t *testing.T) {
	falling := row("l0 u0", "l0 s u0", "s")
	slices.Reverse(falling)
	same := row("l0 u0", "l0 s u0", "s")
	for at := range same {
		same[at].Rank = 3
	}
	none := row("l0 u0", "l0 s u0")
	none[1].Main = nil
	late := row("l0 u0", "l0 s s u0", "l0 s u0")
	late[0].End, late[1].Rank, late[2].Period = 2, 64, 0
	long := make([]api.Task, 3000)
	for at := range long {
		long[at] = row("l1 u1", "s", "l2 s u2")[at%3]
	}
	for _, l := range [][]api.Task{falling, same, none, late, make([]api.Task, 1), make([]api.Task, api.MaxTasks+1), long[:20], row("k1", "r2x2 s", "l0", "u0", "l0 l0 u0 u0", "l0 m u0", "l4 u4", "l0 l1 u0 u1")} {
		ask(t, l)
		nowhere(t, l)
	}
	Ceil(long, 3)
	By(long, len(long)-1)
	By(make([]api.Task, 1<<18), 5)
}

// R1 and R3: whatever there is in a row: no panic, nothing changed, the same again.
func TestWhatever(t *testing.T) {
	c := sample.Chance(3)
	numbers := sample.Numbers()
	some := func() int { return numbers[c.Below(len(numbers))] }
	for n := range 1500 {
		l := tasks(&c, n%(api.MaxTasks+3))
		for at := range l {
			x := &l[at]
			switch c.Below(10) {
			case 0:
				x.Rank = some()
			case 1:
				x.Period, x.End = int64(some()), int64(some())
			case 2:
				x.Main = sample.Junk(&c)
			case 3:
				x.Way = sample.Junk(&c)
			case 4:
				x.Opt = sample.Junk(&c)
			}
		}
		ask(t, l)
		if n%20 == 0 {
			nowhere(t, l)
		}
	}
}

// R3: tasks that share their memory are taken each for itself; what is told does not hang on what becomes of the row later.
func TestSharedMemory(t *testing.T) {
	shared := sample.Program("l0 s l1 u1 u0 s m l2 u2")
	l := row("s", "s", "s")
	for at := range l {
		l[at].Main, l[at].Way = shared, shared[6:]
	}
	want(t, l, all{0, 0, 0, no}, 4, 4, 4)
	ceil, by := Ceil(l, 2), By(l, 1)
	clear(shared)
	if ceil != 0 || by != 4 || Ceil(l, 2) != no || By(l, 1) != 0 {
		t.Errorf("%d %d, then %d %d", ceil, by, Ceil(l, 2), By(l, 1))
	}
}
