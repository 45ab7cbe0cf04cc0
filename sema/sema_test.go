package sema

import (
	"math"
	"slices"
	"testing"

	"foliot/api"
)

const least, greatest = math.MinInt, math.MaxInt

// noPlaces are places at which a row of up to four has nothing.
var noPlaces = []int{-1, -2, 4, 5, 1 << 20, 1 << 32, 1 << 62, -1 << 32, least, least + 1, greatest - 1, greatest}

// row tells semaphores with these Holders; their Ceils are 10, 11 and so on.
func row(holders ...int) []api.Sema {
	l := make([]api.Sema, len(holders))
	for s, h := range holders {
		l[s] = api.Sema{Ceil: 10 + s, Holder: h}
	}
	return l
}

// ceiled tells semaphores with these Ceils, all of them held by task 2.
func ceiled(ceils ...int) []api.Sema {
	l := make([]api.Sema, len(ceils))
	for s, c := range ceils {
		l[s] = api.Sema{Ceil: c, Holder: 3}
	}
	return l
}

// roomy tells a copy of l with four places behind it that are not its own.
func roomy(l []api.Sema) []api.Sema {
	return append(slices.Clone(l), api.Sema{Ceil: 71, Holder: 1}, api.Sema{Ceil: 72}, api.Sema{Ceil: 73, Holder: 3}, api.Sema{Ceil: 74, Holder: -4})[:len(l)]
}

// asked asks of l as it is, each time and whatever room it has, that it becomes want, that what was handed in stays as it was, and that what is told is new memory.
func asked(t *testing.T, name string, l []api.Sema, ask func([]api.Sema) ([]api.Sema, bool), want []api.Sema, ok bool) {
	t.Helper()
	in := roomy(l)
	was := slices.Clone(in[:cap(in)])
	for range 2 {
		next, got := ask(in)
		if got != ok || !slices.Equal(next, want) {
			t.Errorf("%s of %v: %v %v, want %v %v", name, l, next, got, want, ok)
		}
		for s := range next[:cap(next)] {
			next[:cap(next)][s] = api.Sema{Ceil: -99, Holder: -99}
		}
		if !slices.Equal(in[:cap(in)], was) {
			t.Fatalf("%s of %v: handed in %v is %v", name, l, was, in[:cap(in)])
		}
	}
}

// wantTake asks that Take of l answers so.
func wantTake(t *testing.T, l []api.Sema, s, task int, want []api.Sema, ok bool) {
	t.Helper()
	asked(t, "Take", l, func(l []api.Sema) ([]api.Sema, bool) { return Take(l, s, task) }, want, ok)
}

// wantLet asks that Let of l answers so.
func wantLet(t *testing.T, l []api.Sema, s, task int, want []api.Sema, ok bool) {
	t.Helper()
	asked(t, "Let", l, func(l []api.Sema) ([]api.Sema, bool) { return Let(l, s, task) }, want, ok)
}

// wantAll asks that All of l answers so.
func wantAll(t *testing.T, l []api.Sema, task int, want []api.Sema) {
	t.Helper()
	asked(t, "All", l, func(l []api.Sema) ([]api.Sema, bool) { return All(l, task), true }, want, true)
}

// wantLow asks that Low answers so, each time, and that neither list is changed, whatever room it has.
func wantLow(t *testing.T, l []api.Sema, held []int, task int, want int, ok bool) {
	t.Helper()
	in, list := roomy(l), append(slices.Clone(held), 0, 1, 2, 3)[:len(held)]
	was, wasList := slices.Clone(in[:cap(in)]), slices.Clone(list[:cap(list)])
	for range 2 {
		if low, got := Low(in, list, task); low != want || got != ok {
			t.Errorf("Low(%v, %v, %d): %d %v, want %d %v", l, held, task, low, got, want, ok)
		}
	}
	if !slices.Equal(in[:cap(in)], was) || !slices.Equal(list[:cap(list)], wasList) {
		t.Errorf("Low: %v and %v became %v and %v", was, wasList, in[:cap(in)], list[:cap(list)])
	}
}

// P11.1, Take: a free one is the task's; its Ceil and the other ones stay. The first task, the first semaphore and the last one too.
func TestTake(t *testing.T) {
	wantTake(t, row(0), 0, 0, row(1), true)
	wantTake(t, row(0, 0, 0, 0), 0, 0, row(1, 0, 0, 0), true)
	wantTake(t, row(0, 0, 0, 0), 3, 0, row(0, 0, 0, 1), true)
	wantTake(t, row(0, 0, 0, 0), 1, 7, row(0, 8, 0, 0), true)
	wantTake(t, row(8, 0, 3, 0), 1, 7, row(8, 8, 3, 0), true)
	wantTake(t, row(8, 0, 3, 0), 3, 2, row(8, 0, 3, 3), true)
	wantTake(t, row(0, 5), 0, 1000000, row(1000001, 5), true)
}

// P11.1, Take: no, if it is held, by the same task or by another one.
func TestTakeHeld(t *testing.T) {
	for _, task := range []int{0, 1, 2, 6, 7, greatest - 1} {
		for s := range 4 {
			wantTake(t, row(1, 2, 3, 8), s, task, row(1, 2, 3, 8), false)
		}
	}
	wantTake(t, row(1), 0, 0, row(1), false)
	wantTake(t, row(0, 1, 0), 1, 0, row(0, 1, 0), false)
	wantTake(t, row(0, 1, 0), 1, 1, row(0, 1, 0), false)
}

// P11.1, Let: one that the task holds is free; its Ceil and the other ones stay.
func TestLet(t *testing.T) {
	wantLet(t, row(1), 0, 0, row(0), true)
	wantLet(t, row(1, 1, 1, 1), 0, 0, row(0, 1, 1, 1), true)
	wantLet(t, row(1, 1, 1, 1), 3, 0, row(1, 1, 1, 0), true)
	wantLet(t, row(2, 8, 0, 1), 1, 7, row(2, 0, 0, 1), true)
	wantLet(t, row(2, 8, 0, 1), 0, 1, row(0, 8, 0, 1), true)
	wantLet(t, row(1000001, 5), 0, 1000000, row(0, 5), true)
}

// P11.1, Let: no, if it is free, or another one holds it.
func TestLetNotHeld(t *testing.T) {
	for _, task := range []int{0, 1, 2, 7, greatest - 1} {
		wantLet(t, row(0), 0, task, row(0), false)
		wantLet(t, row(0, 5, 0, 6), 0, task, row(0, 5, 0, 6), false)
		wantLet(t, row(0, 5, 0, 6), 1, task, row(0, 5, 0, 6), false)
		wantLet(t, row(0, 5, 0, 6), 3, task, row(0, 5, 0, 6), false)
	}
	wantLet(t, row(1), 0, 1, row(1), false)
	wantLet(t, row(2), 0, 0, row(2), false)
	wantLet(t, row(2), 0, 2, row(2), false)
}

// P11.1, Take, Let: the chapter's example: what was taken and let go is free, for anyone.
func TestTakenAndLet(t *testing.T) {
	l, ok := Take(row(0, 0), 1, 4)
	if !ok {
		t.Fatal("not taken")
	}
	l, ok = Let(l, 1, 4)
	if !ok || !slices.Equal(l, row(0, 0)) {
		t.Fatalf("%v %v", l, ok)
	}
	wantLet(t, l, 1, 4, row(0, 0), false)
	wantTake(t, l, 1, 5, row(0, 6), true)
}

// P11.1, Take, Let: no semaphore stands at that place.
func TestNoSuchPlace(t *testing.T) {
	for _, s := range noPlaces {
		for _, l := range [][]api.Sema{nil, row(0), row(1), row(0, 1), row(0, 0, 0, 0), row(1, 1, 1, 1)} {
			for _, task := range []int{0, 1, 7, greatest - 1} {
				wantTake(t, l, s, task, l, false)
				wantLet(t, l, s, task, l, false)
			}
		}
	}
	wantTake(t, row(0, 0), 2, 0, row(0, 0), false)
	wantLet(t, row(1, 1), 2, 0, row(1, 1), false)
}

// P11.1: an empty row; nil and an empty list are one.
func TestEmptyRow(t *testing.T) {
	for _, l := range [][]api.Sema{nil, {}, make([]api.Sema, 0, 3)} {
		for _, s := range []int{0, 1, -1, least, greatest} {
			wantTake(t, l, s, 0, nil, false)
			wantLet(t, l, s, 0, nil, false)
			wantLow(t, l, []int{s}, 0, 0, false)
		}
		wantAll(t, l, 0, nil)
		wantLow(t, l, nil, 0, 0, false)
	}
	if next, ok := Take(nil, 0, 0); len(next) != 0 || ok {
		t.Errorf("Take(nil): %v %v", next, ok)
	}
}

// P11.1, All: none, one, several, all of those that there are; those of others, Ceils and what is free stay.
func TestAll(t *testing.T) {
	wantAll(t, row(0, 0, 0, 0), 0, row(0, 0, 0, 0))
	wantAll(t, row(2, 3, 0, 4), 0, row(2, 3, 0, 4))
	wantAll(t, row(2, 3, 0, 4), 4, row(2, 3, 0, 4))
	wantAll(t, row(2, 3, 0, 4), 1, row(0, 3, 0, 4))
	wantAll(t, row(2, 3, 0, 4), 3, row(2, 3, 0, 0))
	wantAll(t, row(1, 2, 1, 0), 0, row(0, 2, 0, 0))
	wantAll(t, row(2, 1, 0, 2), 1, row(0, 1, 0, 0))
	wantAll(t, row(8, 8, 8, 8), 7, row(0, 0, 0, 0))
	wantAll(t, row(1), 0, row(0))
}

// P11.1, Low: none, one, several, in any order; those of others, what is free and what there is not do not count.
func TestLow(t *testing.T) {
	l := []api.Sema{{Ceil: 3, Holder: 3}, {Ceil: 1, Holder: 3}, {Ceil: 2, Holder: 3}, {Ceil: 0, Holder: 1}, {Ceil: -5}}
	for _, x := range []struct {
		held []int
		task int
		low  int
		ok   bool
	}{
		{nil, 2, 0, false}, {[]int{}, 2, 0, false},
		{[]int{0}, 2, 3, true}, {[]int{1}, 2, 1, true}, {[]int{2}, 2, 2, true},
		{[]int{0, 1}, 2, 1, true}, {[]int{1, 0}, 2, 1, true}, {[]int{2, 0}, 2, 2, true}, {[]int{0, 2}, 2, 2, true},
		{[]int{0, 1, 2}, 2, 1, true}, {[]int{1, 2, 0}, 2, 1, true}, {[]int{2, 0, 1}, 2, 1, true},
		{[]int{3}, 2, 0, false}, {[]int{4}, 2, 0, false}, {[]int{3, 4}, 2, 0, false},
		{[]int{3, 0, 4}, 2, 3, true}, {[]int{0, 3, 2, 4}, 2, 2, true}, {[]int{0, 1, 2, 3, 4}, 2, 1, true},
		{[]int{3}, 0, 0, true}, {[]int{0, 1, 2, 3, 4}, 0, 0, true}, {[]int{0, 1, 2, 4}, 0, 0, false},
		{[]int{0, 1, 2, 3, 4}, 1, 0, false}, {[]int{0, 1, 2, 3, 4}, 3, 0, false}, {[]int{0, 1, 2, 3, 4}, 7, 0, false},
		{[]int{0, 0, 0}, 2, 3, true}, {[]int{0, 2, 0, 2, 0}, 2, 2, true}, {[]int{3, 3}, 2, 0, false},
		{[]int{5}, 2, 0, false}, {[]int{-1}, 2, 0, false}, {[]int{-1, 9, 0, 5}, 2, 3, true},
	} {
		wantLow(t, l, x.held, x.task, x.low, x.ok)
	}
}

// P11.1, Low: of held alone: a lesser one that the task holds too does not count, if held does not name it.
func TestLowOfHeldAlone(t *testing.T) {
	wantLow(t, ceiled(9, 1, 5), []int{0}, 2, 9, true)
	wantLow(t, ceiled(9, 1, 5), []int{0, 2}, 2, 5, true)
	wantLow(t, ceiled(9, 1, 5), nil, 2, 0, false)
}

// P11.1, Low: Ceils that are alike, 0, below 0, at the ends.
func TestLowCeils(t *testing.T) {
	all := []int{0, 1, 2}
	wantLow(t, ceiled(4, 4, 4), all, 2, 4, true)
	wantLow(t, ceiled(4, 4, 5), all, 2, 4, true)
	wantLow(t, ceiled(0, 0, 0), all, 2, 0, true)
	wantLow(t, ceiled(1, 0, 2), all, 2, 0, true)
	wantLow(t, ceiled(0, 1, -1), all, 2, -1, true)
	wantLow(t, ceiled(-3, -1, -2), all, 2, -3, true)
	wantLow(t, ceiled(greatest), all, 2, greatest, true)
	wantLow(t, ceiled(greatest, greatest-1), all, 2, greatest-1, true)
	wantLow(t, ceiled(least, greatest, 0), all, 2, least, true)
	wantLow(t, ceiled(greatest, least), all, 2, least, true)
	wantLow(t, ceiled(api.MaxTasks, 7), all, 2, 7, true)
}

// P11.1, Low: places that there are not, at the ends of int too, among others and alone.
func TestLowNoSuchPlace(t *testing.T) {
	l := ceiled(6, 5, 7)
	wantLow(t, l, noPlaces, 2, 0, false)
	for _, s := range noPlaces {
		wantLow(t, l, []int{s}, 2, 0, false)
		wantLow(t, l, []int{s, 0}, 2, 6, true)
		wantLow(t, l, []int{2, s}, 2, 7, true)
	}
}

// P11.1: a task below 0 is none: it takes nothing and holds nothing, what is free and what has a wrong Holder neither.
func TestNoTask(t *testing.T) {
	l := row(0, 1, -1, -2, least+1, least)
	for _, task := range []int{-1, -2, -3, least, least + 1} {
		for s := range l {
			wantTake(t, l, s, task, l, false)
			wantLet(t, l, s, task, l, false)
		}
		wantAll(t, l, task, l)
		wantLow(t, l, []int{0, 1, 2, 3, 4, 5}, task, 0, false)
	}
}

// P11.1: the greatest tasks hold what they took, they alone.
func TestGreatestTasks(t *testing.T) {
	for _, task := range []int{greatest - 1, greatest} {
		l, ok := Take(row(0, 0), 1, task)
		if !ok || l[1].Holder == 0 || l[0] != row(0)[0] {
			t.Fatalf("%d: %v %v", task, l, ok)
		}
		for _, other := range []int{0, 1, task - 1} {
			wantTake(t, l, 1, other, l, false)
			wantLet(t, l, 1, other, l, false)
			wantAll(t, l, other, l)
		}
		wantLow(t, l, []int{0, 1}, task, 11, true)
		wantAll(t, l, task, row(0, 0))
		wantLet(t, l, 1, task, row(0, 0), true)
	}
}

// model has who holds what as a set of pairs of a task and a place, in no other way than the promise's words.
type model struct {
	n     int
	pairs [][2]int
}

// holds tells whether the task holds s.
func (m model) holds(s, task int) bool { return slices.Contains(m.pairs, [2]int{task, s}) }

// held tells whether anyone holds s.
func (m model) held(s int) bool {
	return slices.ContainsFunc(m.pairs, func(p [2]int) bool { return p[1] == s })
}

// without tells m without the pairs that are so.
func (m model) without(so func([2]int) bool) model {
	return model{m.n, slices.DeleteFunc(slices.Clone(m.pairs), so)}
}

// row tells m's semaphores.
func (m model) row() []api.Sema {
	l := row(make([]int, m.n)...)
	for _, p := range m.pairs {
		l[p[1]].Holder = p[0] + 1
	}
	return l
}

// take tells m behind a Take.
func (m model) take(s, task int) (model, bool) {
	if s < 0 || s >= m.n || m.held(s) {
		return m, false
	}
	return model{m.n, append(slices.Clone(m.pairs), [2]int{task, s})}, true
}

// let tells m behind a Let.
func (m model) let(s, task int) (model, bool) {
	return m.without(func(p [2]int) bool { return p == [2]int{task, s} }), m.holds(s, task)
}

// What follows: whatever three tasks take and let go of three semaphores, in whatever order, one holds each at most; all that is told is as a set of pairs has it.
func TestOneHolds(t *testing.T) {
	seen := map[[3]int]bool{}
	work := []model{{n: 3}}
	for len(work) > 0 {
		m := work[0]
		work = work[1:]
		l := m.row()
		at := [3]int{l[0].Holder, l[1].Holder, l[2].Holder}
		if seen[at] {
			continue
		}
		seen[at] = true
		work = append(work, deeds(t, m)...)
	}
	if len(seen) != 64 {
		t.Errorf("%d rows, want 64: each semaphore is held by one of three, or free", len(seen))
	}
}

// deeds does each thing that there is at m, and tells what came of it.
func deeds(t *testing.T, m model) []model {
	t.Helper()
	var out []model
	for task := range 3 {
		for s := -1; s <= m.n; s++ {
			next, ok := m.take(s, task)
			wantTake(t, m.row(), s, task, next.row(), ok)
			out = append(out, next)
			next, ok = m.let(s, task)
			wantLet(t, m.row(), s, task, next.row(), ok)
			out = append(out, next)
		}
		next := m.without(func(p [2]int) bool { return p[0] == task })
		wantAll(t, m.row(), task, next.row())
		out = append(out, next)
		lows(t, m, task)
	}
	return out
}

// lows asks Low of each list of up to two places; the Ceils of m's row rise with the place.
func lows(t *testing.T, m model, task int) {
	t.Helper()
	for a := -1; a <= m.n; a++ {
		for b := -1; b <= m.n; b++ {
			low, ok := 0, false
			for s := m.n - 1; s >= 0; s-- {
				if (s == a || s == b) && m.holds(s, task) {
					low, ok = 10+s, true
				}
			}
			wantLow(t, m.row(), []int{a, b}, task, low, ok)
		}
	}
}

// plain tells what a deed must answer, by looking at the place itself.
func plain(l []api.Sema, s, task int, let bool) ([]api.Sema, bool) {
	next := slices.Clone(l)
	from, to := 0, task+1
	if let {
		from, to = to, from
	}
	if task < 0 || s < 0 || s >= len(l) || l[s].Holder != from {
		return next, false
	}
	next[s].Holder = to
	return next, true
}

// plainLow tells what Low must answer: the first of the Ceils that count, in their order.
func plainLow(l []api.Sema, held []int, task int) (int, bool) {
	var c []int
	for _, s := range held {
		if task >= 0 && s >= 0 && s < len(l) && l[s].Holder == task+1 {
			c = append(c, l[s].Ceil)
		}
	}
	if len(c) == 0 {
		return 0, false
	}
	return slices.Min(c), true
}

// wantPlain asks that all four answer as their places say.
func wantPlain(t *testing.T, l []api.Sema, held []int, s, task int) {
	t.Helper()
	next, ok := plain(l, s, task, false)
	wantTake(t, l, s, task, next, ok)
	next, ok = plain(l, s, task, true)
	wantLet(t, l, s, task, next, ok)
	next = slices.Clone(l)
	for s := range l {
		if task >= 0 && l[s].Holder == task+1 {
			next[s].Holder = 0
		}
	}
	wantAll(t, l, task, next)
	low, ok := plainLow(l, held, task)
	wantLow(t, l, held, task, low, ok)
}

// R1, P11.1: any Holder, any Ceil, any place, any task: no panic, and an answer as the places say.
func TestAnything(t *testing.T) {
	edges := []int{least, least + 1, -1 << 32, -3, -2, -1, 0, 1, 2, 3, 8, 1 << 32, greatest - 1, greatest}
	for _, holder := range edges {
		for _, task := range edges {
			for i, ceil := range edges {
				l := []api.Sema{{Ceil: ceil, Holder: holder}, {Ceil: edges[len(edges)-1-i], Holder: holder}, {Ceil: 1, Holder: 3}}
				wantPlain(t, l, []int{1, edges[i], 0, 1}, edges[i], task)
			}
		}
	}
}

// P11.1: a long row, with many places in held.
func TestLong(t *testing.T) {
	const n = 20000
	l := make([]api.Sema, n)
	var held []int
	for s := range l {
		l[s] = api.Sema{Ceil: n - s, Holder: s % 5}
		held = append(held, s, s, n+s, -s)
	}
	for _, s := range []int{0, 1, 2, 3, 4, n / 2, n - 5, n - 4, n - 3, n - 2, n - 1, n} {
		wantPlain(t, l, held, s, 2)
	}
	wantLow(t, l, held, 3, 1, true)
	wantLow(t, l, held, 0, 4, true)
}

// R3: what was told of a row does not change with that row, nor one answer with another one.
func TestKeepsNothing(t *testing.T) {
	l := row(0, 3, 0)
	no, _ := Take(l, 1, 1)
	taken, _ := Take(l, 0, 1)
	let, _ := Let(l, 1, 2)
	notLet, _ := Let(l, 1, 1)
	all, none := All(l, 2), All(l, 6)
	for s := range l {
		l[s] = api.Sema{Ceil: 99, Holder: 99}
	}
	taken[1].Ceil, all[2].Holder = 98, 97
	for i, x := range [][]api.Sema{no, notLet, none} {
		if !slices.Equal(x, row(0, 3, 0)) {
			t.Errorf("%d: %v", i, x)
		}
	}
	if !slices.Equal(let, row(0, 0, 0)) || taken[0] != row(2)[0] || all[1] != row(0, 0)[1] {
		t.Errorf("%v %v %v", let, taken, all)
	}
	wantTake(t, row(0, 3, 0), 0, 4, row(5, 3, 0), true)
}

// FuzzSema: any bytes as a row and a list of places: no panic, and answers as the places say.
func FuzzSema(f *testing.F) {
	f.Add([]byte{}, []byte{}, 0, 0)
	f.Add([]byte{3, 3, 1, 3, 2, 0}, []byte{0, 1, 2, 9}, 0, 2)
	f.Add([]byte{0, 255, 128, 127}, []byte{255}, least, greatest)
	f.Fuzz(func(t *testing.T, b, places []byte, s, task int) {
		var l []api.Sema
		for ; len(b) >= 2; b = b[2:] {
			l = append(l, api.Sema{Ceil: int(int8(b[0])), Holder: int(int8(b[1]))})
		}
		var held []int
		for _, x := range places {
			held = append(held, int(int8(x)))
		}
		wantPlain(t, l, held, s, task)
		wantPlain(t, l, held, int(int8(s)), int(int8(task)))
	})
}
