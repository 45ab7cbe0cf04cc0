package shape

import (
	"math"
	"slices"
	"strings"
	"testing"

	"foliot/api"
)

// words reads a program, a word an instruction: s (a Set), m (a Mark), e (an End); with a number behind it k (a Skip), r (a Rep), l and u (a Lock, an Unlock). No End is put behind it.
func words(s string) []api.Inst {
	var l []api.Inst
	for _, w := range strings.Fields(s) {
		n := 0
		for _, c := range w[1:] {
			n = n*10 + int(c-'0')
		}
		switch w[0] {
		case 's':
			l = append(l, api.Inst{Op: api.Set, A: 1, N: -5})
		case 'm':
			l = append(l, api.Inst{Op: api.Mark})
		case 'e':
			l = append(l, api.Inst{Op: api.End})
		case 'k':
			l = append(l, api.Inst{Op: api.Skip, A: 3, N: n})
		case 'r':
			l = append(l, api.Inst{Op: api.Rep, B: n, N: 2})
		case 'l':
			l = append(l, api.Inst{Op: api.Lock, A: n})
		case 'u':
			l = append(l, api.Inst{Op: api.Unlock, A: n})
		}
	}
	return l
}

// times is a word, n times.
func times(n int, w string) string { return strings.Repeat(w+" ", n) }

// places is a set of instructions, by their places.
type places map[int]bool

// spans has the body or reach of each Rep and Skip, by the place of that one, as the section 'Words' says.
func spans(l []api.Inst) map[int]places {
	all := map[int]places{}
	for at, i := range l {
		n := 0
		if i.Op == api.Rep {
			n = i.B
		} else if i.Op == api.Skip {
			n = i.N
		}
		for k := 1; k <= n; k++ {
			if all[at] == nil {
				all[at] = places{}
			}
			all[at][at+k] = true
		}
	}
	return all
}

// shared tells how many places two sets have in common.
func shared(a, b places) int {
	n := 0
	for p := range a {
		if b[p] {
			n++
		}
	}
	return n
}

// spansMay says what P6.1 says of bodies and reaches, set by set.
func spansMay(l []api.Inst) bool {
	all := spans(l)
	around := map[int]int{}
	for at, s := range all {
		for p := range s {
			if p >= len(l)-1 {
				return false
			}
			if l[at].Op == api.Rep {
				around[p]++
			}
			if around[p] > 2 {
				return false
			}
		}
		for _, o := range all {
			n := shared(s, o)
			if n != 0 && n != len(s) && n != len(o) || o[at] && n != len(s) {
				return false
			}
		}
	}
	return true
}

// arePairs tells whether the Locks and Unlocks of l from a place to ahead of another one are pairs; it writes them down.
func arePairs(l []api.Inst, from, to int, unlocks []int) bool {
	for at := from; at < to; at++ {
		if l[at].Op == api.Unlock {
			return false
		}
		if l[at].Op != api.Lock {
			continue
		}
		next := at + 1
		for next < to && !(l[next].Op == api.Unlock && l[next].A == l[at].A && arePairs(l, at+1, next, unlocks)) {
			next++
		}
		if next >= to {
			return false
		}
		unlocks[at] = next
		at = next
	}
	return true
}

// pairs says what P6.1 says of Pairs: each Lock's Unlock is sought, then what must be so is asked of the pairs.
func pairs(l []api.Inst) ([]int, bool) {
	unlocks := make([]int, len(l))
	if !arePairs(l, 0, len(l), unlocks) {
		return nil, false
	}
	for p := range l {
		held := map[int]int{}
		for lock, unlock := range unlocks {
			if lock <= p && p < unlock {
				held[l[lock].A]++
				if held[l[lock].A] > 1 || len(held) > 2 {
					return nil, false
				}
			}
		}
	}
	for _, s := range spans(l) {
		for lock, unlock := range unlocks {
			if unlock > 0 && s[lock] != s[unlock] {
				return nil, false
			}
		}
	}
	return unlocks, true
}

// may says what P6.1 says of May, of instructions that may be.
func may(l []api.Inst) bool {
	if len(l) < 1 || len(l) > 24 || !spansMay(l) {
		return false
	}
	unlocks, ok := pairs(l)
	if !ok {
		return false
	}
	for at, i := range l {
		if (i.Op == api.End) != (at == len(l)-1) {
			return false
		}
		if i.Op != api.Mark {
			continue
		}
		for _, s := range spans(l) {
			if s[at] {
				return false
			}
		}
		for lock, unlock := range unlocks {
			if lock < at && at < unlock {
				return false
			}
		}
	}
	return true
}

// check asks that May and Pairs say of l what P6.1 says, and leave l as it is; it tells whether l may be.
func check(t *testing.T, l []api.Inst) bool {
	t.Helper()
	was := slices.Clone(l)
	got, want := May(l), may(l)
	if got != want {
		t.Fatalf("May(%v): %v", l, got)
	}
	if spansMay(l) {
		checkPairs(t, l)
	} else if p, ok := Pairs(l); !ok && len(p) != 0 || ok && len(p) != len(l) {
		t.Fatalf("Pairs(%v): %v %v", l, p, ok)
	}
	if !slices.Equal(l, was) {
		t.Fatalf("%v became %v", was, l)
	}
	return want
}

// checkPairs asks that Pairs says of l what P6.1 says.
func checkPairs(t *testing.T, l []api.Inst) {
	t.Helper()
	p, ok := Pairs(l)
	want, is := pairs(l)
	if ok != is || !slices.Equal(p, want) {
		t.Fatalf("Pairs(%v): %v %v, want %v %v", l, p, ok, want, is)
	}
}

// good are programs that may be, without their End.
var good = []string{
	"", "s", "s s s", "m", "m m", "s m s", // straight on
	"r1 s", "r2 s s", "r1 s s", "s r1 s", "r1 s r1 s", "r2 s s s r3 s s s", // bodies, alone and side by side
	"r2 r1 s", "r3 r1 s s", "r4 s r1 s s", "r5 r1 s s r1 s", "r4 r1 s r1 s", // bodies in bodies
	"r4 r3 s s s", "r2 r1 s r2 r1 s", "r5 r4 s s s s", // bodies that end together
	"k1 s", "k3 s s s", "k1 s k2 s s", "k3 k2 s s", "k3 k1 s s", "k4 k3 k2 k1 s", "k6 k5 k4 k3 k2 k1 s", // reaches, however deep
	"r2 k1 s", "r3 k1 s s", "r3 s k1 s", "k2 r1 s", "k3 s r1 s", "k4 r2 k1 s s", "r4 k3 r2 s s", "r4 k3 r1 s s", // one kind in the other one
	"k1 s r1 s", "r1 s k1 s", "r6 k1 s k1 s s s", "k6 r1 s r1 s s s", "k5 r4 k3 r2 k1 s s", "r6 k5 r4 k3 k2 k1 s",
	"l0 u0", "l3 u3", "s l1 s u1 s", "l0 u0 l0 u0", "l0 u0 l1 u1 l2 u2 l3 u3", // pairs, alone and apart
	"l0 l1 u1 u0", "l1 l0 u0 u1", "s l3 s l2 s u2 s u3 s", "l0 l1 u1 l1 u1 u0", "l0 l1 u1 l2 u2 l3 u3 u0", // one in the other one
	"r2 l0 u0", "r3 l0 s u0", "k2 l0 u0", "k4 l0 l1 u1 u0", "r3 k2 l0 u0", "k3 r2 l0 u0", "r4 r2 l0 u0 s", // pairs in bodies and reaches
	"l0 r1 s u0", "l0 k1 s u0", "l0 r2 l1 u1 u0", "l0 k2 l1 u1 u0", "l0 r1 s k1 s u0", "r4 l0 r1 s u0", "r5 l0 k1 s u0 s", // and around them
	"l0 r2 l1 u1 r2 l1 u1 u0", "r2 l0 u0 r2 l0 u0", "k2 l0 u0 l0 u0", "r2 l0 u0 k2 l0 u0",
	"m l0 u0 m l0 u0 m", "l0 l1 u1 u0 m l1 l0 u0 u1", "r1 s m", "m r1 s", "k1 s m", "m k1 s", "r1 s m k1 s m l0 u0", // Marks between them
}

// bad are programs that may not be, without their End.
var bad = []string{
	"e", "e e", "s e", "e s", "s e s", "r1 e", "l0 e u0", "k1 e s", // an End that is not the last
	"r1", "s r1", "r2 s", "r24 s", "k1", "s k1", "k2 s", "k24 s", "r1 s r1", "r1 s k1", // too far
	"r1 r1 s", "r2 s r1 s", "r1 k1 s", "k1 r1 s", "k1 k1 s", "k2 s k1 s", "r2 s k1 s", "k2 s r1 s", // begun in one, and gone on right behind it
	"r2 r2 s s", "r2 k2 s s", "k2 r2 s s", "k2 k2 s s", "r3 s r2 s s", "k3 s k2 s s", "r4 k1 s s k1 s", "k3 k2 s k1 s", "r3 r2 s r1 s", "r3 r3 s s s", // overlapping
	"r3 r2 r1 s", "r6 r5 r4 s s s s", "r5 s r3 s r1 s", "r4 k3 r2 r1 s", "k4 r3 r2 r1 s", "r5 r4 k3 r2 s s", "r5 r1 s r2 r1 s", // three bodies around one
	"l0", "l0 s", "u0", "s u0", "u0 l0", "l0 u0 l0", "l0 u0 u0", "u0 l0 u0", "l0 u1", "l0 u0 u1", "l1 l0 u0", "l0 u0 l1", // one without the other one
	"l0 l0 u0 u0", "l0 l0 u0", "l0 l1 l0 u0 u1 u0", "l0 l1 u1 l0 u0 u0", // twice
	"l0 l1 l2 u2 u1 u0", "l3 s l2 s l1 s u1 s u2 s u3", "l0 r4 l1 l2 u2 u1 u0", "r6 l0 l1 l2 u2 u1 u0", "l0 l1 u1 l2 l3 u3 u2 u0", // three
	"l0 l1 u0 u1", "l0 s l1 s u0 s u1", "l0 u0 l1 l2 u1 u2", "l0 l1 u0 l0 u1 u0", // overlapping
	"r1 l0 u0", "k1 l0 u0", "l0 r1 u0", "l0 k1 u0", "r2 s l0 u0", "k2 s l0 u0", "l0 r2 u0 s", "l0 k2 u0 s", // in and out
	"r1 l0 r1 u0", "k1 l0 k1 u0", "r1 l0 k1 u0", "r3 r1 l0 u0", "r3 l0 r1 u0", "k3 k1 l0 u0", "k3 l0 k1 u0", "r5 r1 l0 r1 u0 s", "l0 r2 l1 u0 u1", "r3 k1 l0 u0", "k3 r1 l0 u0",
	"l0 r1 l1 u1 u0", "l0 r2 s l1 u1 u0",
	"r1 m", "r2 s m", "r2 m s", "k1 m", "k2 s m", "k2 m s", "r3 k1 s m", "k3 r1 s m", "r3 k2 m s", "r2 r1 m", // a Mark in something
	"l0 m u0", "l0 s m s u0", "l0 l1 m u1 u0", "l0 m l1 u1 u0", "l0 l1 u1 m u0", "l3 r1 s m u3", "r3 l0 m u0", "m l0 m u0 m", // or where something is held
}

// P6.1, May: ordinary programs and wrong ones, written out; what is written is held against what is reckoned, too.
func TestMay(t *testing.T) {
	for _, s := range good {
		if !check(t, words(s+" e")) {
			t.Errorf("%q: it may be", s)
		}
	}
	for _, s := range bad {
		if check(t, words(s+" e")) {
			t.Errorf("%q: it may not be", s)
		}
	}
}

// P6.1, May: no instruction; no End, at each place where a program may be cut off; more than one.
func TestMayEnd(t *testing.T) {
	if May(nil) || May([]api.Inst{}) {
		t.Error("no instruction")
	}
	if !May([]api.Inst{{}}) {
		t.Error("End alone")
	}
	for _, s := range good {
		l := words(s + " e")
		for n := range l {
			if May(l[:n]) {
				t.Errorf("%q, %d of it: it has no End", s, n)
			}
		}
		for _, more := range []string{"e", "s", "m", "l0 u0", "s e"} {
			if x := append(words(s+" e"), words(more)...); May(x) {
				t.Errorf("%v: an End is not the last", x)
			}
		}
	}
}

// P6.1, May: up to MaxCode instructions, and more.
func TestMayLength(t *testing.T) {
	for _, w := range []string{"s", "m"} {
		for n := range 60 {
			if ok := May(words(times(n, w) + "e")); ok != (n < 24) {
				t.Errorf("%d %s and an End: %v", n, w, ok)
			}
		}
	}
	for _, n := range []int{255, 256, 257, 1 << 16} {
		if May(append(make([]api.Inst, n-1), api.Inst{})) || May(words(times(n-1, "s")+"e")) {
			t.Errorf("%d instructions", n)
		}
	}
}

// P6.1, May: bodies and reaches at each place and of each length: they end ahead of the End, at the farthest right ahead of it.
func TestMayReach(t *testing.T) {
	for size := 2; size <= 24; size++ {
		for at := range size - 1 {
			for n := 1; n <= 24; n++ {
				for _, i := range []api.Inst{{Op: api.Rep, B: n, N: 20}, {Op: api.Skip, A: 7, N: n}} {
					l := words(times(size-1, "s") + "e")
					l[at] = i
					if ok := May(l); ok != (at+n <= size-2) {
						t.Errorf("%v at %d of %d: %v", i, at, size, ok)
					}
				}
			}
		}
	}
}

// P6.1, May: two of them at all places and of all lengths.
func TestMayTwo(t *testing.T) {
	const size = 10
	for a := range size {
		for b := range a {
			for m := 1; m <= size; m++ {
				for n := 1; n <= size; n++ {
					for kinds := range 4 {
						l := words(times(size-1, "s") + "e")
						l[b] = []api.Inst{{Op: api.Rep, B: m, N: 2}, {Op: api.Skip, N: m}}[kinds%2]
						l[a] = []api.Inst{{Op: api.Rep, B: n, N: 2}, {Op: api.Skip, N: n}}[kinds/2]
						want := a < size-1 && a+n < size-1 && b+m < size-1 && (b+m < a || a+n <= b+m)
						if ok := check(t, l); ok != want {
							t.Errorf("%v: %v", l, ok)
						}
					}
				}
			}
		}
	}
}

// P6.1, May: an instruction that may not be, at each place of programs that may be.
func TestMayInstruction(t *testing.T) {
	wrong := []api.Inst{
		{Op: -1}, {Op: 12}, {Op: math.MinInt}, {Op: math.MaxInt}, {Op: api.End, A: 1}, {Op: api.End, B: 1}, {Op: api.End, N: 1},
		{Op: api.Set, A: 8}, {Op: api.Set, A: -1}, {Op: api.Set, N: 1 << 31}, {Op: api.Add, B: 8}, {Op: api.Shift, N: 64}, {Op: api.Narrow},
		{Op: api.Skip}, {Op: api.Skip, N: -1}, {Op: api.Skip, N: 25}, {Op: api.Skip, N: math.MaxInt}, {Op: api.Skip, N: math.MinInt}, {Op: api.Skip, A: 8, N: 1},
		{Op: api.Rep}, {Op: api.Rep, B: 1}, {Op: api.Rep, N: 1}, {Op: api.Rep, B: 1, N: 21}, {Op: api.Rep, B: 25, N: 1}, {Op: api.Rep, B: -1, N: 1}, {Op: api.Rep, B: math.MaxInt, N: 1}, {Op: api.Rep, B: math.MinInt, N: 1},
		{Op: api.Lock, A: 4}, {Op: api.Lock, A: -1}, {Op: api.Lock, A: math.MaxInt}, {Op: api.Unlock, A: 4}, {Op: api.Unlock, A: math.MinInt}, {Op: api.Mark, A: 1},
	}
	for _, s := range good {
		for at := range words(s + " e") {
			for _, i := range wrong {
				l := words(s + " e")
				l[at] = i
				if May(l) {
					t.Errorf("%q with %v at %d", s, i, at)
				}
				Pairs(l) // R1: it answers
			}
		}
	}
	for _, x := range [][2]api.Inst{{{Op: api.Lock, A: 4}, {Op: api.Unlock, A: 4}}, {{Op: api.Lock, A: -1}, {Op: api.Unlock, A: -1}}, {{Op: api.Lock, B: 1}, {Op: api.Unlock, B: 1}}} {
		if May([]api.Inst{x[0], x[1], {}}) {
			t.Errorf("%v", x)
		}
	}
}

// P6.1, May: operations of each kind are ordinary ones, but for those that it speaks of.
func TestMayOperations(t *testing.T) {
	l := []api.Inst{
		{Op: api.Mark}, {Op: api.Set, A: 7, N: math.MinInt32}, {Op: api.Add, A: 1, B: 7}, {Op: api.Sub, A: 2, B: 6}, {Op: api.Mul, A: 3, B: 5},
		{Op: api.Shift, A: 4, N: -63}, {Op: api.Narrow, A: 5, N: 64}, {Op: api.Rep, B: 3, N: 20}, {Op: api.Lock, A: 3}, {Op: api.Mul}, {Op: api.Unlock, A: 3}, {Op: api.End},
	}
	if !May(l) {
		t.Errorf("%v", l)
	}
}

// P6.1, Pairs: what is told of each Lock, written out.
func TestPairs(t *testing.T) {
	for s, want := range map[string][]int{
		"e":                         {0},
		"s m e":                     {0, 0, 0},
		"l0 u0 e":                   {1, 0, 0},
		"s l3 s s u3 e":             {0, 4, 0, 0, 0, 0},
		"l0 l1 u1 u0 e":             {3, 2, 0, 0, 0},
		"l1 l0 u0 u1 e":             {3, 2, 0, 0, 0},
		"l0 u0 l0 u0 e":             {1, 0, 3, 0, 0},
		"l0 l1 u1 s l1 s u1 u0 e":   {7, 2, 0, 0, 6, 0, 0, 0, 0},
		"l2 u2 m l1 l2 u2 u1 e":     {1, 0, 0, 6, 5, 0, 0, 0},
		"r2 l0 u0 l0 u0 e":          {0, 2, 0, 4, 0, 0},
		"k5 l0 r2 l1 u1 u0 e":       {0, 5, 0, 4, 0, 0, 0},
		"l0 k2 l1 u1 r2 l1 u1 u0 e": {7, 0, 3, 0, 0, 6, 0, 0, 0},
		"l0 m u0 e":                 {2, 0, 0, 0}, // of Marks May speaks, not Pairs
	} {
		if p, ok := Pairs(words(s)); !ok || !slices.Equal(p, want) {
			t.Errorf("%q: %v %v, want %v", s, p, ok, want)
		}
	}
}

// P6.1, Pairs: programs that may be have their pairs; of the others it says what is so, and no list beside a no.
func TestPairsAll(t *testing.T) {
	for _, s := range good {
		l := words(s + " e")
		checkPairs(t, l)
		if _, ok := Pairs(l); !ok {
			t.Errorf("%q: no", s)
		}
	}
	for _, s := range bad {
		if l := words(s + " e"); spansMay(l) {
			checkPairs(t, l)
		}
	}
}

// P6.1, Pairs: it speaks of instructions, so neither the End nor their number is asked.
func TestPairsBeyond(t *testing.T) {
	for _, l := range [][]api.Inst{nil, {}} {
		if p, ok := Pairs(l); !ok || len(p) != 0 {
			t.Errorf("no instruction: %v %v", p, ok)
		}
	}
	for _, s := range []string{"l0 u0", "l0", "u0", "l0 l1 u1 u0", "l0 l1 u0 u1", "e l0 u0", "l0 e u0"} {
		checkPairs(t, words(s))
	}
	for n := range 70 {
		for _, s := range []string{"l0 s u0", "l0 u0 r2 l0 u0", "r3 l0 s u0 l1 l0 u0 u1", "k2 l0 u0 l0 k1 s u0", "r2 l0 u0 r1 l0 u0", "k1 l0 k1 u0"} {
			checkPairs(t, words(times(n, "s")+s+" e"))
			checkPairs(t, words(times(n, "r2 l0 u0")+s+" e"))
		}
		checkPairs(t, words("l0"+times(n, " s")+"u0 e"))
		if n <= 24 {
			checkPairs(t, words("k24"+times(n, " s")+"l0"+times(24-n, " s")+"u0 e"))
		}
	}
}

// P6.1: all programs of a few instructions.
func TestAllShort(t *testing.T) {
	alphabet := words("s m e k1 k2 k3 r1 r2 r3 l0 l1 l2 u0 u1 u2")
	n := 0
	var grow func(l []api.Inst, more int)
	grow = func(l []api.Inst, more int) {
		if check(t, append(slices.Clone(l), api.Inst{})) {
			n++
		}
		for _, i := range alphabet {
			if more > 0 {
				grow(append(slices.Clone(l), i), more-1)
			}
		}
	}
	grow(nil, 4)
	if n < 100 {
		t.Errorf("%d of them may be", n)
	}
}

// chance is a run of numbers that goes on from itself.
type chance uint64

func (c *chance) below(n int) int {
	*c = *c*6364136223846793005 + 1442695040888963407
	return int(uint64(*c)>>33) % n
}

// grown is a piece of a program that may be: at most so long, in so many bodies, with these held.
func grown(c *chance, size, bodies int, held []int, top bool) []api.Inst {
	var l []api.Inst
	for room := size; room > 0 && c.below(6) > 0; room = size - len(l) {
		inner := c.below(room)
		sema := c.below(api.MaxSemas)
		switch kind := c.below(5); {
		case kind == 0 && inner > 0 && bodies < 2:
			if body := grown(c, inner, bodies+1, held, false); len(body) > 0 {
				l = append(append(l, api.Inst{Op: api.Rep, B: len(body), N: 1 + c.below(20)}), body...)
			}
		case kind == 1 && inner > 0:
			if body := grown(c, inner, bodies, held, false); len(body) > 0 {
				l = append(append(l, api.Inst{Op: api.Skip, N: len(body)}), body...)
			}
		case kind == 2 && inner > 0 && len(held) < 2 && !slices.Contains(held, sema):
			l = append(l, api.Inst{Op: api.Lock, A: sema})
			l = append(l, grown(c, inner-1, bodies, append(slices.Clone(held), sema), false)...)
			l = append(l, api.Inst{Op: api.Unlock, A: sema})
		case kind == 3 && top:
			l = append(l, api.Inst{Op: api.Mark})
		default:
			l = append(l, api.Inst{Op: api.Mul, A: c.below(8), B: c.below(8)})
		}
	}
	return l
}

// P6.1: programs that are grown as the chapter has it may be; with one instruction turned, left out, put in or put elsewhere, it is as it is reckoned.
func TestGrown(t *testing.T) {
	c := chance(6)
	alphabet := words("s m e k1 k2 k3 k5 r1 r2 r3 r5 l0 l1 l2 l3 u0 u1 u2 u3")
	for range 4000 {
		l := append(grown(&c, 23, 0, nil, true), api.Inst{})
		if !check(t, l) {
			t.Fatalf("%v: it may be", l)
		}
		at, to := c.below(len(l)), c.below(len(l))
		i := alphabet[c.below(len(alphabet))]
		turned, swapped := slices.Clone(l), slices.Clone(l)
		turned[at] = i
		swapped[at], swapped[to] = l[to], l[at]
		check(t, turned)
		check(t, swapped)
		check(t, slices.Delete(slices.Clone(l), at, at+1))
		check(t, slices.Insert(slices.Clone(l), at, i))
	}
}

// run goes through a program that may be, as the operations are told in package api, and tells whether at its end nothing is held and nothing is on the way; skip tells whether a Skip passes over.
func run(l []api.Inst, skip func() bool) bool {
	type go2 struct{ first, last, left int }
	var reps []go2
	var held []int
	for at, steps := 0, 0; steps < 100000; steps++ {
		i := l[at]
		at++
		switch i.Op {
		case api.End:
			return len(held) == 0 && len(reps) == 0
		case api.Skip:
			if skip() {
				at += i.N
			}
		case api.Rep:
			reps = append(reps, go2{at, at + i.B - 1, i.N - 1})
		case api.Lock:
			if slices.Contains(held, i.A) || len(held) == 2 {
				return false
			}
			held = append(held, i.A)
		case api.Unlock:
			if len(held) == 0 || held[len(held)-1] != i.A {
				return false
			}
			held = held[:len(held)-1]
		case api.Mark:
			if len(held) > 0 || len(reps) > 0 {
				return false
			}
		}
		for len(reps) > 0 && reps[len(reps)-1].last < at {
			last := &reps[len(reps)-1]
			if last.left > 0 {
				at = last.first
				last.left--
				break
			}
			reps = reps[:len(reps)-1]
		}
	}
	return false
}

// 'What follows': at its end nothing is held; what begins ends, whatever is passed over.
func TestWhatFollows(t *testing.T) {
	c := chance(1)
	skips := []func() bool{func() bool { return true }, func() bool { return false }, func() bool { return c.below(2) == 0 }}
	all := make([][]api.Inst, 0, len(good)+500)
	for _, s := range good {
		all = append(all, words(s+" e"))
	}
	for range 500 {
		all = append(all, append(grown(&c, 23, 0, nil, true), api.Inst{}))
	}
	for _, l := range all {
		for _, skip := range skips {
			if !May(l) || !run(l, skip) {
				t.Errorf("%v", l)
			}
		}
	}
}

// R1 and R3: whatever there is: no panic, nothing handed in is changed, its spare room too, and no list beside a no.
func TestWhatever(t *testing.T) {
	c := chance(3)
	numbers := []int{math.MinInt, math.MinInt + 1, -25, -24, -1, 0, 1, 2, 3, 4, 20, 23, 24, 25, 1 << 31, math.MaxInt - 1, math.MaxInt}
	for range 20000 {
		full := make([]api.Inst, 40)
		for at := range full {
			full[at] = api.Inst{Op: c.below(14) - 1, A: c.below(5) - 1, B: numbers[c.below(len(numbers))], N: numbers[c.below(len(numbers))]}
		}
		was := slices.Clone(full)
		l := full[:c.below(len(full)+1)]
		May(l)
		if p, ok := Pairs(l); !ok && len(p) != 0 {
			t.Fatalf("%v: %v", l, p)
		}
		if !slices.Equal(full, was) {
			t.Fatalf("%v became %v", was, full)
		}
	}
}

// R1: a long row ends soon, and has its pairs.
func TestLong(t *testing.T) {
	l := words(times(1<<16, "l0 u0"))
	if May(l) {
		t.Error("it is longer than MaxCode")
	}
	p, ok := Pairs(l)
	if !ok || len(p) != len(l) || p[0] != 1 || p[len(p)-2] != len(p)-1 {
		t.Errorf("%d of %d, %v", len(p), len(l), ok)
	}
	if p, ok := Pairs(l[:len(l)-1]); ok || len(p) != 0 {
		t.Error("its last Lock has no Unlock")
	}
}

// R3 and R4: what is told is new memory, so whatever becomes of it, the same again tells the same.
func TestSameAgain(t *testing.T) {
	l := words("l0 r3 l1 s u1 u0 m k2 l2 u2 e")
	for range 3 {
		p, ok := Pairs(l)
		if !ok || !slices.Equal(p, []int{5, 0, 4, 0, 0, 0, 0, 0, 9, 0, 0}) || !May(l) {
			t.Errorf("%v %v", p, ok)
		}
		p = p[:cap(p)]
		for at := range p {
			p[at] = -1
		}
	}
}
