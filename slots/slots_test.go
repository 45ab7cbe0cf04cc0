package slots

import (
	"math"
	"slices"
	"testing"

	"foliot/api"
)

func at(place, gen int) api.Handle { return api.Handle{At: place, Gen: gen} }

func same(a, b Slots) bool {
	return slices.Equal(a.Gens, b.Gens) && slices.Equal(a.Is, b.Is)
}

// take is Take where a place must be there.
func take(t *testing.T, s Slots, want api.Handle) Slots {
	t.Helper()
	next, h, ok := Take(s)
	if !ok || h != want {
		t.Fatalf("Take(%v): %v %v, want %v", s, h, ok, want)
	}
	return next
}

// free is Free where h must be somebody's.
func free(t *testing.T, s Slots, h api.Handle) Slots {
	t.Helper()
	next, ok := Free(s, h)
	if !ok {
		t.Fatalf("Free(%v, %v): no", s, h)
	}
	return next
}

// full has n places, all of them taken.
func full(t *testing.T, n int) Slots {
	t.Helper()
	s := New(n)
	for i := range n {
		s = take(t, s, at(i, 1))
	}
	return s
}

// P2.1, New: how many places, within its ends and beyond.
func TestNew(t *testing.T) {
	for _, x := range []struct{ n, want int }{
		{0, 0}, {1, 1}, {2, 2}, {63, 63}, {64, 64}, {65, 64}, {1000, 64}, {math.MaxInt, 64},
		{-1, 0}, {-64, 0}, {math.MinInt, 0},
	} {
		s := New(x.n)
		if len(s.Gens) != x.want || len(s.Is) != x.want {
			t.Errorf("New(%d): %d and %d places, want %d", x.n, len(s.Gens), len(s.Is), x.want)
		}
		if slices.ContainsFunc(s.Gens, func(g int) bool { return g != 0 }) || slices.Contains(s.Is, true) || Len(s) != 0 {
			t.Errorf("New(%d): %v", x.n, s)
		}
	}
}

// P2.1, Take: the places in their order, until there is none.
func TestTake(t *testing.T) {
	for _, n := range []int{0, 1, 2, 3, api.MaxSlots} {
		s := New(n)
		for i := range n {
			s = take(t, s, at(i, 1))
			if Len(s) != i+1 {
				t.Errorf("%d of %d: Len %d", i+1, n, Len(s))
			}
		}
		next, h, ok := Take(s)
		if ok || h != (api.Handle{}) || !same(next, s) {
			t.Errorf("Take of %d, all taken: %v %v %v", n, next, h, ok)
		}
	}
}

// P2.1, Take: what is told besides the handle: that place alone is another one.
func TestTakeChangesOnePlace(t *testing.T) {
	s := Slots{Gens: []int{4, 5, 6, 7}, Is: []bool{true, true, false, false}}
	next := take(t, s, at(2, 7))
	if !same(next, Slots{Gens: []int{4, 5, 7, 7}, Is: []bool{true, true, true, false}}) {
		t.Errorf("%v", next)
	}
}

// P2.1: the chapter's example, and the first place of several that are not taken.
func TestTakenAgain(t *testing.T) {
	s := take(t, New(1), at(0, 1))
	s = free(t, s, at(0, 1))
	s = take(t, s, at(0, 2))

	s = full(t, 4)
	s = free(t, s, at(3, 1))
	s = free(t, s, at(1, 1))
	s = take(t, s, at(1, 2))
	s = take(t, s, at(3, 2))
	if _, _, ok := Take(s); ok || Len(s) != 4 {
		t.Errorf("%v", s)
	}
}

// P2.1, Free: that place alone is not taken any more, and keeps its number.
func TestFree(t *testing.T) {
	s := full(t, 3)
	next := free(t, s, at(1, 1))
	if !same(next, Slots{Gens: []int{1, 1, 1}, Is: []bool{true, false, true}}) || Len(next) != 2 {
		t.Errorf("%v", next)
	}
	last := full(t, api.MaxSlots)
	if next = free(t, last, at(63, 1)); Len(next) != 63 || next.Is[63] {
		t.Errorf("%v", next)
	}
}

// P2.1, Free and Has: what is nobody's is told so, and nothing changes.
func TestNobodys(t *testing.T) {
	s := free(t, full(t, 3), at(1, 1))
	for _, h := range []api.Handle{
		{}, at(0, 0), at(0, 2), at(0, -1), at(0, math.MaxInt), at(0, math.MinInt),
		at(1, 0), at(1, 1), at(1, 2),
		at(2, 0), at(2, 2),
		at(3, 0), at(3, 1), at(64, 1), at(math.MaxInt, 1),
		at(-1, 0), at(-1, 1), at(math.MinInt, 1),
	} {
		checkNobodys(t, s, h)
	}
	for _, empty := range []Slots{{}, New(0), New(-1)} {
		checkNobodys(t, empty, api.Handle{})
		checkNobodys(t, empty, at(0, 1))
	}
}

func checkNobodys(t *testing.T, s Slots, h api.Handle) {
	t.Helper()
	if Has(s, h) {
		t.Errorf("Has(%v, %v)", s, h)
	}
	if next, ok := Free(s, h); ok || !same(next, s) {
		t.Errorf("Free(%v, %v): %v %v", s, h, next, ok)
	}
}

// P2.1, Has: taken, with that Gen; a place that was never taken is nobody's though its Gen is 0.
func TestHas(t *testing.T) {
	s := take(t, New(2), at(0, 1))
	if !Has(s, at(0, 1)) || Has(s, at(1, 0)) || Has(s, at(1, 1)) {
		t.Errorf("%v", s)
	}
	s = full(t, api.MaxSlots)
	for i := range api.MaxSlots {
		if !Has(s, at(i, 1)) {
			t.Errorf("place %d", i)
		}
	}
	odd := Slots{Gens: []int{0, -3}, Is: []bool{true, true}}
	if !Has(odd, at(0, 0)) || !Has(odd, at(1, -3)) || Has(odd, at(1, 0)) || Len(odd) != 2 {
		t.Errorf("%v", odd)
	}
}

// 'What follows': an old handle is nobody's, however often its place is taken again.
func TestOldHandle(t *testing.T) {
	s := New(2)
	var old []api.Handle
	for i := range 50 {
		s = take(t, s, at(0, i+1))
		for _, h := range old {
			checkNobodys(t, s, h)
		}
		if !Has(s, at(0, i+1)) {
			t.Errorf("go %d: the handle is nobody's", i)
		}
		s = free(t, s, at(0, i+1))
		old = append(old, at(0, i+1))
		checkNobodys(t, s, at(0, i+1))
	}
}

// P2.1, lists of unlike lengths: the shorter one's places, in each call; what goes beyond stays as it was.
func TestUnlikeLengths(t *testing.T) {
	moreIs := Slots{Gens: []int{1, 1}, Is: []bool{true, true, true, false}}
	moreGens := Slots{Gens: []int{1, 1, 1, 1}, Is: []bool{true, true}}
	for _, s := range []Slots{moreIs, moreGens} {
		if Len(s) != 2 || !Has(s, at(0, 1)) || !Has(s, at(1, 1)) {
			t.Errorf("%v: Len %d", s, Len(s))
		}
		for _, h := range []api.Handle{at(2, 0), at(2, 1), at(3, 0), at(3, 1), at(4, 1)} {
			checkNobodys(t, s, h)
		}
		if next, h, ok := Take(s); ok || h != (api.Handle{}) || !same(next, s) {
			t.Errorf("Take(%v): %v %v %v", s, next, h, ok)
		}
		next := free(t, s, at(1, 1))
		if Len(next) != 1 || len(next.Gens) != len(s.Gens) || len(next.Is) != len(s.Is) {
			t.Errorf("%v", next)
		}
		take(t, next, at(1, 2))
	}
	for _, s := range []Slots{{Gens: []int{1}}, {Is: []bool{true}}, {Is: []bool{false}}} {
		if _, h, ok := Take(s); ok || h != (api.Handle{}) || Len(s) != 0 {
			t.Errorf("%v: %v %v, Len %d", s, h, ok, Len(s))
		}
		checkNobodys(t, s, at(0, 0))
		checkNobodys(t, s, at(0, 1))
	}
}

// R3: what is handed in stays as it is, its spare room too, and what is told shares no memory with it.
func TestHandedInStays(t *testing.T) {
	gens, is := []int{1, 1, 3, 70, 71}, []bool{true, true, false, true, false}
	calls := map[string]func(Slots) Slots{
		"Take":    func(s Slots) Slots { next, _, _ := Take(s); return next },
		"Take no": func(s Slots) Slots { next, _, _ := Take(Slots{Gens: s.Gens[:2], Is: s.Is[:2]}); return next },
		"Free":    func(s Slots) Slots { next, _ := Free(s, at(1, 1)); return next },
		"Free no": func(s Slots) Slots { next, _ := Free(s, at(1, 2)); return next },
		"Has":     func(s Slots) Slots { Has(s, at(1, 1)); return Slots{} },
		"Len":     func(s Slots) Slots { Len(s); return Slots{} },
	}
	for name, call := range calls {
		g, i := slices.Clone(gens), slices.Clone(is)
		next := call(Slots{Gens: g[:3], Is: i[:3]})
		for k := range next.Gens[:cap(next.Gens)] {
			next.Gens[:cap(next.Gens)][k] = -9
		}
		for k := range next.Is[:cap(next.Is)] {
			next.Is[:cap(next.Is)][k] = !next.Is[:cap(next.Is)][k]
		}
		if !slices.Equal(g, gens) || !slices.Equal(i, is) {
			t.Errorf("%s: %v %v", name, g, i)
		}
	}
}

// P2.1 over long runs, against lists of who has which place.
func TestRuns(t *testing.T) {
	for _, n := range []int{1, 2, 5, api.MaxSlots} {
		s, who, last := New(n), make([]int, n), make([]int, n)
		seed := uint32(n)
		for range 3000 {
			seed = seed*1664525 + 1013904223
			if seed>>31 == 0 {
				s = runTake(t, s, who, last)
			} else {
				h := at(int(seed>>8)%(n+1), int(seed>>20)%4-2)
				if h.At < n {
					h.Gen += last[h.At]
				}
				s = runFree(t, s, h, who)
			}
			held := 0
			for i, g := range who {
				if s.Gens[i] != last[i] || s.Is[i] != (g != 0) {
					t.Fatalf("place %d: %v", i, s)
				}
				if g != 0 {
					held++
				}
			}
			if Len(s) != held {
				t.Fatalf("Len %d, want %d", Len(s), held)
			}
		}
	}
}

func runTake(t *testing.T, s Slots, who, last []int) Slots {
	t.Helper()
	i := slices.Index(who, 0)
	if i < 0 {
		next, h, ok := Take(s)
		if ok || h != (api.Handle{}) {
			t.Fatalf("Take: %v %v", h, ok)
		}
		return next
	}
	last[i]++
	who[i] = last[i]
	return take(t, s, at(i, last[i]))
}

func runFree(t *testing.T, s Slots, h api.Handle, who []int) Slots {
	t.Helper()
	want := h.At < len(who) && who[h.At] != 0 && who[h.At] == h.Gen
	if Has(s, h) != want {
		t.Fatalf("Has(%v, %v)", s, h)
	}
	next, ok := Free(s, h)
	if ok != want {
		t.Fatalf("Free(%v, %v): %v", s, h, ok)
	}
	if ok {
		who[h.At] = 0
	}
	return next
}
