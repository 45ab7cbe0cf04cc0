package obj

import (
	"math"
	"slices"
	"testing"

	"foliot/api"
	"foliot/seal"
	"foliot/slots"
)

const every = math.MaxUint32

// noPlaces are places that no table has.
var noPlaces = []int{-1, -2, api.MaxObjs, api.MaxObjs + 1, api.MaxSlots, 1 << 32, -1 << 32, math.MinInt, math.MaxInt}

// noKinds are numbers of which no thing can be made.
var noKinds = []int{0, -1, -2, -3, api.AFlag + 1, 5, 7, 257, 1<<32 + 1, math.MinInt, math.MinInt + 1, math.MaxInt}

func at(place, gen int) api.Handle { return api.Handle{At: place, Gen: gen} }

func w(client int, mask uint32) api.Waiter { return api.Waiter{Client: client, Mask: mask} }

// sema, box and flags are things to be put.
func sema(ceil, holder int) Thing { return Thing{S: api.Sema{Ceil: ceil, Holder: holder}} }

func box(letters []int64, wait ...int) Thing { return Thing{B: api.Box{L: letters, Wait: wait}} }

func flags(bits uint32, wait ...api.Waiter) Thing { return Thing{F: api.Flag{Bits: bits, Wait: wait}} }

// sameThing tells whether the things have the same in them; nil and an empty list are one.
func sameThing(a, b Thing) bool {
	return a.Kind == b.Kind && a.H == b.H && a.S == b.S && a.Sum == b.Sum && a.F.Bits == b.F.Bits &&
		slices.Equal(a.B.L, b.B.L) && slices.Equal(a.B.Wait, b.B.Wait) && slices.Equal(a.F.Wait, b.F.Wait)
}

// same tells whether the tables have the same in them.
func same(a, b Table) bool {
	return slices.Equal(a.S.Gens, b.S.Gens) && slices.Equal(a.S.Is, b.S.Is) && slices.EqualFunc(a.L, b.L, sameThing)
}

// list tells a copy of l with room for n more, in which more stands.
func list[T any](l []T, n int, more T) []T {
	x := make([]T, len(l), len(l)+n)
	copy(x, l)
	for i := len(l); i < cap(x); i++ {
		x[:cap(x)][i] = more
	}
	return x
}

// thing tells a copy of x with room for n more behind each of its lists.
func thing(x Thing, n int) Thing {
	x.B = api.Box{L: list(x.B.L, n, 71), Wait: list(x.B.Wait, n, 72)}
	x.F.Wait = list(x.F.Wait, n, w(73, 74))
	return x
}

// table tells a copy of x with room for n more behind each of its lists.
func table(x Table, n int) Table {
	next := Table{S: slots.Slots{Gens: list(x.S.Gens, n, 75), Is: list(x.S.Is, n, true)}, L: list(x.L, n, sema(76, 77))}
	for i := range next.L {
		next.L[i] = thing(next.L[i], n)
	}
	return next
}

// wholeThing tells all that stands in the memory of x's lists, spare room too.
func wholeThing(x Thing) Thing {
	x.B = api.Box{L: x.B.L[:cap(x.B.L)], Wait: x.B.Wait[:cap(x.B.Wait)]}
	x.F.Wait = x.F.Wait[:cap(x.F.Wait)]
	return x
}

// whole tells all that stands in the memory of x's lists, spare room too.
func whole(x Table) Table {
	next := Table{S: slots.Slots{Gens: x.S.Gens[:cap(x.S.Gens)], Is: x.S.Is[:cap(x.S.Is)]}, L: slices.Clone(x.L[:cap(x.L)])}
	for i := range next.L {
		next.L[i] = wholeThing(next.L[i])
	}
	return next
}

// apart asks that no two lists share memory, and writes over all of it.
func apart[T comparable](t *testing.T, all [][]T, mark func(int) T) {
	t.Helper()
	for i, l := range all {
		for j := range l[:cap(l)] {
			l[:cap(l)][j] = mark(i)
		}
	}
	for i, l := range all {
		if slices.ContainsFunc(l[:cap(l)], func(v T) bool { return v != mark(i) }) {
			t.Fatal("two lists share memory")
		}
	}
}

// spoil asks that no two lists of what was told share memory, and writes over all of it.
func spoil(t *testing.T, x Table, ints ...[]int) {
	t.Helper()
	var letters [][]int64
	var waiters [][]api.Waiter
	ints = append(slices.Clone(ints), x.S.Gens)
	for _, y := range x.L {
		letters, waiters, ints = append(letters, y.B.L), append(waiters, y.F.Wait), append(ints, y.B.Wait)
	}
	apart(t, ints, func(i int) int { return -990 - i })
	apart(t, letters, func(i int) int64 { return int64(-990 - i) })
	apart(t, waiters, func(i int) api.Waiter { return w(-990-i, uint32(i)) })
	for i := range x.S.Is[:cap(x.S.Is)] {
		x.S.Is[:cap(x.S.Is)][i] = i&1 == 0
	}
	for i := range x.L[:cap(x.L)] {
		x.L[:cap(x.L)][i] = sema(-990, -991)
	}
}

// asked asks of x as it is, with room behind its lists and without, twice each; what was handed in must stay as it was, while what ask tells is written over.
func asked(t *testing.T, x Table, ask func(Table) (Table, [][]int)) {
	t.Helper()
	for _, n := range []int{0, 3} {
		in := table(x, n)
		was := table(whole(in), 0)
		for range 2 {
			told, ints := ask(in)
			spoil(t, told, ints...)
			if !same(whole(in), was) {
				t.Fatalf("%v: handed in %v is %v", x, was, whole(in))
			}
		}
	}
}

// wantMake asks that Make of x answers so.
func wantMake(t *testing.T, x Table, kind int, want Table, h api.Handle, ok bool) {
	t.Helper()
	asked(t, x, func(in Table) (Table, [][]int) {
		y, g, o := Make(in, kind)
		if !same(y, want) || g != h || o != ok {
			t.Fatalf("Make(%v, %d): %v %v %v, want %v %v %v", x, kind, y, g, o, want, h, ok)
		}
		return y, nil
	})
}

// wantDrop asks that Drop of x answers so.
func wantDrop(t *testing.T, x Table, h api.Handle, want Table, ok bool, who ...int) {
	t.Helper()
	asked(t, x, func(in Table) (Table, [][]int) {
		y, l, o := Drop(in, h)
		if !same(y, want) || !slices.Equal(l, who) || o != ok {
			t.Fatalf("Drop(%v, %v): %v %v %v, want %v %v %v", x, h, y, l, o, want, who, ok)
		}
		return y, [][]int{l}
	})
}

// wantFind asks that Find of x answers so.
func wantFind(t *testing.T, x Table, h api.Handle, place int, ok bool) {
	t.Helper()
	asked(t, x, func(in Table) (Table, [][]int) {
		if p, o := Find(in, h); p != place || o != ok {
			t.Fatalf("Find(%v, %v): %v %v, want %v %v", x, h, p, o, place, ok)
		}
		return Table{}, nil
	})
}

// wantPut asks that Put of x answers so, and that y, too, stays as it was.
func wantPut(t *testing.T, x Table, place int, y Thing, want Table) {
	t.Helper()
	for _, n := range []int{0, 3} {
		in := thing(y, n)
		was := thing(wholeThing(in), 0)
		asked(t, x, func(x Table) (Table, [][]int) {
			z := Put(x, place, in)
			if !same(z, want) {
				t.Fatalf("Put(%v, %d, %v): %v, want %v", x, place, y, z, want)
			}
			return z, nil
		})
		if !sameThing(wholeThing(in), was) {
			t.Fatalf("Put of %v, which is %v now", was, wholeThing(in))
		}
	}
}

// wantTurn asks that Turn of x answers so.
func wantTurn(t *testing.T, x Table, place int, want Table, ok bool) {
	t.Helper()
	asked(t, x, func(in Table) (Table, [][]int) {
		y, o := Turn(in, place)
		if !same(y, want) || o != ok {
			t.Fatalf("Turn(%v, %d): %v %v, want %v %v", x, place, y, o, want, ok)
		}
		return y, nil
	})
}

// wantAudit asks that Audit of x answers so.
func wantAudit(t *testing.T, x, want Table, places []int, who [][]int) {
	t.Helper()
	asked(t, x, func(in Table) (Table, [][]int) {
		y, p, l := Audit(in)
		if !same(y, want) || !slices.Equal(p, places) || !slices.EqualFunc(l, who, slices.Equal) {
			t.Fatalf("Audit(%v): %v %v %v, want %v %v %v", x, y, p, l, want, places, who)
		}
		return y, append(l, p)
	})
}

// wantSemas asks that Semas of x answers so.
func wantSemas(t *testing.T, x Table, places ...int) {
	t.Helper()
	asked(t, x, func(in Table) (Table, [][]int) {
		l := Semas(in)
		if !slices.Equal(l, places) {
			t.Fatalf("Semas(%v): %v, want %v", x, l, places)
		}
		return Table{}, [][]int{l}
	})
}

// wantStill asks that x comes back as it was, with a no, from what is asked of a place where nothing is.
func wantStill(t *testing.T, x Table, place int) {
	t.Helper()
	wantTurn(t, x, place, x, false)
	wantPut(t, x, place, sema(3, 4), x)
	wantPut(t, x, place, Thing{Kind: api.AFlag, H: at(place, 1), B: api.Box{L: []int64{1}, Wait: []int{2}}, F: api.Flag{Bits: 5, Wait: []api.Waiter{w(3, 4)}}, Sum: 6}, x)
}

// wantGone asks that no thing has that handle.
func wantGone(t *testing.T, x Table, h api.Handle) {
	t.Helper()
	wantFind(t, x, h, 0, false)
	wantDrop(t, x, h, x, false)
}

// made tells a table of things of these kinds, made one behind the other.
func made(t *testing.T, kinds ...int) Table {
	t.Helper()
	x := New()
	for i, kind := range kinds {
		y, h, ok := Make(x, kind)
		if !ok || h != at(i, 1) {
			t.Fatalf("Make of %d, the %d: %v %v", kind, i, h, ok)
		}
		x = y
	}
	return x
}

// with tells x with y at that place, whatever was there.
func with(x Table, place int, y Thing) Table {
	next := table(x, 0)
	next.L[place] = y
	return next
}

// without tells x without what was at that place.
func without(x Table, place int) Table {
	next := with(x, place, Thing{})
	next.S.Is[place] = false
	return next
}

// off tells x with the things at these places turned.
func off(x Table, places ...int) Table {
	next := table(x, 0)
	for _, p := range places {
		next.L[p].Sum = every - next.L[p].Sum
	}
	return next
}

// P14.1, New: MaxObjs places, free, nothing there, Gens 0.
func TestNew(t *testing.T) {
	x := New()
	if len(x.L) != 12 || len(x.S.Gens) != 12 || len(x.S.Is) != 12 || api.MaxObjs != 12 || slots.Len(x.S) != 0 {
		t.Fatalf("%v", x)
	}
	for i := range x.L {
		if !sameThing(x.L[i], Thing{}) || x.S.Gens[i] != 0 || x.S.Is[i] {
			t.Errorf("%d: %v", i, x.L[i])
		}
		wantStill(t, x, i)
		wantGone(t, x, at(i, 0))
		wantGone(t, x, at(i, 1))
	}
	wantAudit(t, x, x, nil, nil)
	wantSemas(t, x)
	spoil(t, New())
	if !same(New(), x) {
		t.Error("a table that was told was kept")
	}
}

// begins tells by hand what a thing of that kind and handle is as it begins; a semaphore has that ceiling.
func begins(kind int, h api.Handle, ceil int) Thing {
	x := Thing{Kind: kind, H: h}
	if kind == api.ASema {
		x.S.Ceil = ceil
	}
	x.Sum = seal.Sum([]int64{int64(kind), int64(h.At), int64(h.Gen), int64(x.S.Ceil), 0, 0, 0, 0})
	return x
}

// P14.1, Make: a thing of each kind at the first place, as it begins, sealed.
func TestMake(t *testing.T) {
	for _, kind := range []int{api.ASema, api.ABox, api.AFlag} {
		want := with(New(), 0, begins(kind, at(0, 1), 8))
		want.S.Gens[0], want.S.Is[0] = 1, true
		wantMake(t, New(), kind, want, at(0, 1), true)
	}
	x := made(t, api.AFlag, api.ASema, api.ABox, api.ASema)
	for i, kind := range []int{3, 1, 2, 1} {
		if !sameThing(x.L[i], begins(kind, at(i, 1), api.MaxTasks)) {
			t.Errorf("%d: %v", i, x.L[i])
		}
	}
	if len(x.L) != 12 || slots.Len(x.S) != 4 || slices.ContainsFunc(x.L[4:], func(y Thing) bool { return !sameThing(y, Thing{}) }) {
		t.Errorf("%v", x)
	}
}

// P14.1, Make: no, of what is no kind, however full the table is.
func TestMakeNoKind(t *testing.T) {
	for _, x := range []Table{New(), made(t, 1), made(t, 1, 2, 3), made(t, 1, 1, 1, 1, 2, 2, 2, 2, 3, 3, 3, 3)} {
		for _, kind := range noKinds {
			wantMake(t, x, kind, x, api.Handle{}, false)
		}
	}
}

// P14.1, Make: of each kind so many, and no more; the other kinds are not touched by that.
func TestMakeTooMany(t *testing.T) {
	for _, kind := range []int{api.ASema, api.ABox, api.AFlag} {
		x := New()
		for i := range 4 {
			y, h, ok := Make(x, kind)
			if !ok || h != at(i, 1) {
				t.Fatalf("Make of %d, the %d: %v %v", kind, i, h, ok)
			}
			x = y
		}
		wantMake(t, x, kind, x, api.Handle{}, false)
		for _, other := range []int{api.ASema, api.ABox, api.AFlag} {
			if y, h, ok := Make(x, other); ok != (other != kind) || ok && (h != at(4, 1) || !sameThing(y.L[4], begins(other, h, 8))) {
				t.Errorf("four of %d, then %d: %v %v", kind, other, h, ok)
			}
		}
	}
	if api.MaxSemas != 4 || api.MaxBoxes != 4 || api.MaxFlags != 4 {
		t.Error("another limit")
	}
}

// P14.1, Make: all MaxObjs places are taken, in any order of kinds: no more of any kind.
func TestMakeAll(t *testing.T) {
	for _, kinds := range [][]int{{1, 1, 1, 1, 2, 2, 2, 2, 3, 3, 3, 3}, {3, 2, 1, 3, 2, 1, 3, 2, 1, 3, 2, 1}, {2, 3, 3, 2, 1, 1, 1, 2, 3, 2, 3, 1}} {
		x := made(t, kinds...)
		for i, kind := range kinds {
			wantFind(t, x, at(i, 1), i, true)
			if !sameThing(x.L[i], begins(kind, at(i, 1), 8)) {
				t.Errorf("%d: %v", i, x.L[i])
			}
			wantMake(t, x, kind, x, api.Handle{}, false)
		}
		wantAudit(t, x, x, nil, nil)
	}
}

// P14.1, Make: the first place that is free again, with its next number; a kind of which one is gone.
func TestMakeAgain(t *testing.T) {
	x := made(t, 2, 2, 3, 2, 2, 3)
	wantMake(t, x, 2, x, api.Handle{}, false)
	for gen := 2; gen < 6; gen++ {
		x = without(x, 3)
		want := with(x, 3, begins(2, at(3, gen), 0))
		want.S.Gens[3], want.S.Is[3] = gen, true
		wantMake(t, x, 2, want, at(3, gen), true)
		wantMake(t, want, 2, want, api.Handle{}, false)
		x = want
	}
	x = without(without(x, 4), 1)
	want := with(x, 1, begins(1, at(1, 2), 8))
	want.S.Gens[1], want.S.Is[1] = 2, true
	wantMake(t, x, 1, want, at(1, 2), true)
	full := without(without(made(t, 1, 1, 1, 1, 2, 2, 2, 2, 3, 3, 3, 3), 11), 4)
	wantMake(t, full, 1, full, api.Handle{}, false)
	want = with(full, 4, begins(3, at(4, 2), 0))
	want.S.Gens[4], want.S.Is[4] = 2, true
	wantMake(t, full, 3, want, at(4, 2), true)
	wantMake(t, want, 3, want, api.Handle{}, false)
	end := with(want, 11, begins(2, at(11, 2), 0))
	end.S.Gens[11], end.S.Is[11] = 2, true
	wantMake(t, want, 2, end, at(11, 2), true)
}

// P14.1, Make: what a thing that is gone had is not in the next one at its place, turned or not.
func TestMakeFresh(t *testing.T) {
	x := Put(Put(made(t, 2, 3), 0, box([]int64{7, 8}, 4)), 1, flags(9, w(5, 6)))
	for _, y := range []Table{x, off(x, 0, 1)} {
		for i := range 2 {
			for kind := 1; kind <= 3; kind++ {
				gone, _, _ := Drop(y, at(i, 1))
				again, h, ok := Make(gone, kind)
				if !ok || h != at(i, 2) || !sameThing(again.L[i], begins(kind, h, 8)) {
					t.Errorf("%v %v %v", again.L[i], h, ok)
				}
			}
		}
	}
}

// P14.1, Find: what is there, at its place; what is gone, or was there earlier, or never, is not.
func TestFind(t *testing.T) {
	x := made(t, 2, 1, 3, 2)
	for i := range 4 {
		wantFind(t, x, at(i, 1), i, true)
		for _, gen := range []int{0, 2, -1, 1<<32 + 1, math.MaxInt, math.MinInt} {
			wantGone(t, x, at(i, gen))
		}
	}
	for _, p := range append([]int{4, 11}, noPlaces...) {
		for _, gen := range []int{0, 1, 2, -1, 75} {
			wantGone(t, x, at(p, gen))
		}
	}
	y, _, _ := Drop(x, at(2, 1))
	wantGone(t, y, at(2, 1))
	wantGone(t, y, at(2, 2))
	z, _, _ := Make(y, 2)
	wantGone(t, z, at(2, 1))
	wantFind(t, z, at(2, 2), 2, true)
	wantFind(t, x, at(2, 1), 2, true)
}

// P14.1, Find: the first and the last place; a thing that was turned, or began anew, is still the same one.
func TestFindEnds(t *testing.T) {
	x := made(t, 3, 3, 3, 3, 1, 1, 1, 1, 2, 2, 2, 2)
	for _, y := range []Table{x, off(x, 0, 11), Put(Put(x, 0, flags(5)), 11, box([]int64{1}, 2))} {
		for range 2 {
			wantFind(t, y, at(0, 1), 0, true)
			wantFind(t, y, at(11, 1), 11, true)
			wantGone(t, y, at(12, 1))
			wantGone(t, y, at(-1, 1))
			y, _, _ = Audit(y)
		}
	}
}

// P14.1, Drop: a box, a flag: it is gone, its place is free and keeps its number; who waited; the others stay.
func TestDrop(t *testing.T) {
	x := made(t, 2, 3, 2, 3, 1)
	x = Put(Put(x, 0, box([]int64{5, 6})), 1, flags(every))
	x = Put(Put(x, 2, box(nil, 7, 3, 9, 1)), 3, flags(8, w(4, 1), w(2, 6), w(9, 1<<31)))
	wantDrop(t, x, at(0, 1), without(x, 0), true)
	wantDrop(t, x, at(1, 1), without(x, 1), true)
	wantDrop(t, x, at(2, 1), without(x, 2), true, 7, 3, 9, 1)
	wantDrop(t, x, at(3, 1), without(x, 3), true, 4, 2, 9)
	wantDrop(t, off(x, 2), at(2, 1), without(x, 2), true, 7, 3, 9, 1)
	wantDrop(t, off(x, 2, 3), at(3, 1), off(without(x, 3), 2), true, 4, 2, 9)
	y := without(x, 2)
	wantGone(t, y, at(2, 1))
	wantStill(t, y, 2)
	wantDrop(t, y, at(3, 1), without(y, 3), true, 4, 2, 9)
	full := made(t, 2, 1, 1, 1, 1, 2, 2, 2, 3, 3, 3, 3)
	wantDrop(t, full, at(0, 1), without(full, 0), true)
	wantDrop(t, full, at(11, 1), without(full, 11), true)
}

// P14.1, Drop: no semaphore goes, held or free, turned or not.
func TestDropSema(t *testing.T) {
	x := made(t, 1, 2, 1)
	for _, y := range []Table{x, Put(x, 0, sema(2, 3)), off(x, 0, 2), Put(x, 2, sema(0, 1))} {
		wantDrop(t, y, at(0, 1), y, false)
		wantDrop(t, y, at(2, 1), y, false)
	}
}

// parts tells the thing that was made with another S, B and F, and a seal by hand of these parts behind its Kind and handle.
func parts(was, x Thing, sealOf ...int64) Thing {
	l := append([]int64{int64(was.Kind), int64(was.H.At), int64(was.H.Gen)}, sealOf...)
	return Thing{Kind: was.Kind, H: was.H, S: x.S, B: x.B, F: x.F, Sum: seal.Sum(l)}
}

// P14.1, Put: S, B and F are x's, sealed; what x's Kind, H and Sum are changes nothing, nor is another place touched.
func TestPut(t *testing.T) {
	x := made(t, 1, 2, 3, 3)
	puts := []struct {
		place int
		x     Thing
		seal  []int64
	}{
		{0, sema(2, 3), []int64{2, 3, 0, 0, 0}},
		{0, sema(8, 8), []int64{8, 8, 0, 0, 0}},
		{0, Thing{}, []int64{0, 0, 0, 0, 0}},
		{1, box([]int64{7, -8}), []int64{0, 0, 2, 7, -8, 0, 0}},
		{1, box(nil, 5, 4), []int64{0, 0, 0, 2, 5, 4, 0}},
		{2, flags(9, w(4, 2), w(5, 1<<31)), []int64{0, 0, 0, 0, 9, 4, 2, 5, 1 << 31}},
		{3, flags(every), []int64{0, 0, 0, 0, every}},
	}
	for _, p := range puts {
		want := with(x, p.place, parts(x.L[p.place], p.x, p.seal...))
		for kind := -1; kind <= 4; kind++ {
			for _, h := range []api.Handle{{}, at(p.place, 1), at(7, 7), at(-1, math.MinInt)} {
				for _, sum := range []uint32{0, every, want.L[p.place].Sum, ^want.L[p.place].Sum, x.L[p.place].Sum} {
					y := p.x
					y.Kind, y.H, y.Sum = kind, h, sum
					wantPut(t, x, p.place, y, want)
				}
			}
		}
	}
}

// P14.1, Put: whatever kind the thing is, it has all of x's S, B and F.
func TestPutAll(t *testing.T) {
	x := made(t, 1, 2, 3)
	y := Thing{S: api.Sema{Ceil: 5, Holder: 6}, B: api.Box{L: []int64{1, 2}, Wait: []int{3}}, F: api.Flag{Bits: 4, Wait: []api.Waiter{w(7, 8)}}}
	for i := range 3 {
		z := with(x, i, parts(x.L[i], y, 5, 6, 2, 1, 2, 1, 3, 4, 7, 8))
		wantPut(t, x, i, y, z)
		wantPut(t, z, i, Thing{}, with(x, i, parts(x.L[i], Thing{}, 0, 0, 0, 0, 0)))
		anew := with(x, i, begins(i+1, at(i, 1), 5))
		wantAudit(t, off(z, i), anew, []int{i}, [][]int{{3, 7}})
		if i > 0 {
			wantDrop(t, z, at(i, 1), without(z, i), true, 3, 7)
		}
	}
}

// P14.1, Put: what was turned stays so, whatever is put, however often; what was not is not.
func TestPutTurned(t *testing.T) {
	x := made(t, 1, 2, 3)
	puts := []Thing{sema(3, 2), box([]int64{4}, 5), flags(6, w(7, 8))}
	for i, y := range puts {
		turned := off(x, i)
		wantPut(t, turned, i, y, off(Put(x, i, y), i))
		wantPut(t, turned, i, turned.L[i], turned)
		wantPut(t, turned, i, x.L[i], turned)
		more := Put(Put(turned, i, Thing{}), i, y)
		if !same(more, off(Put(x, i, y), i)) {
			t.Errorf("%v", more.L[i])
		}
		back, _ := Turn(more, i)
		if !same(back, Put(x, i, y)) {
			t.Errorf("turned twice, with a Put between: %v", back.L[i])
		}
		for j := range puts {
			if j != i {
				wantPut(t, turned, j, puts[j], off(Put(x, j, puts[j]), i))
			}
		}
	}
}

// P14.1, Put: a Sum that is wrong in any way was turned; all bits of the new seal are, then.
func TestPutWrongSum(t *testing.T) {
	x := made(t, 1, 2, 3)
	for i := range 3 {
		good := Put(x, i, box([]int64{7}))
		for bit := range 32 {
			y := table(x, 0)
			y.L[i].Sum ^= 1 << bit
			wantPut(t, y, i, box([]int64{7}), off(good, i))
		}
		y := table(x, 0)
		y.L[i].B.L = []int64{7} // the seal that it has is not this one's, but is what is put
		wantPut(t, y, i, Thing{S: x.L[i].S}, off(x, i))
	}
}

// P14.1, Put and Turn: where nothing is, all stays.
func TestNothingThere(t *testing.T) {
	for _, x := range []Table{New(), made(t, 1, 2, 3), without(made(t, 1, 2, 3, 1), 2), made(t, 1, 1, 1, 1, 2, 2, 2, 2, 3, 3, 3, 3), without(made(t, 1, 1, 1, 1, 2, 2, 2, 2, 3, 3, 3, 3), 11)} {
		for i, y := range x.L {
			if y.Kind == 0 {
				wantStill(t, x, i)
			}
		}
		for _, p := range noPlaces {
			wantStill(t, x, p)
		}
	}
}

// P14.1, Turn: all bits of that Sum are turned, and nothing else; twice is not at all.
func TestTurn(t *testing.T) {
	x := made(t, 1, 2, 3, 3, 3, 3, 2, 2, 2, 1, 1, 1)
	x = Put(Put(Put(x, 0, sema(4, 5)), 1, box([]int64{6}, 7)), 11, sema(3, 2))
	for i := range x.L {
		y := table(x, 0)
		y.L[i].Sum = ^y.L[i].Sum
		wantTurn(t, x, i, y, true)
		wantTurn(t, y, i, x, true)
		wantAudit(t, x, x, nil, nil)
		wantTurn(t, y, (i+1)%12, off(x, i, (i+1)%12), true)
	}
}

// P14.1, Audit: what was not turned stays, and nobody is told.
func TestAuditNothing(t *testing.T) {
	x := made(t, 1, 2, 3, 2)
	wantAudit(t, x, x, nil, nil)
	x = Put(Put(Put(Put(x, 0, sema(2, 3)), 1, box([]int64{5, 6})), 2, flags(7, w(8, 9))), 3, box(nil, 4, 2))
	wantAudit(t, x, x, nil, nil)
	wantAudit(t, without(x, 1), without(x, 1), nil, nil)
	wantAudit(t, off(off(x, 0, 1, 2, 3), 3, 1, 0, 2), x, nil, nil)
}

// P14.1, Audit: the chapter's example, for each kind at each place: what was turned begins anew, and nothing else.
func TestAuditOne(t *testing.T) {
	kinds := []int{1, 2, 3, 1, 2, 3, 3, 2, 1, 1, 3, 2}
	x := made(t, kinds...)
	for i, kind := range kinds {
		wantAudit(t, off(x, i), x, []int{i}, [][]int{nil})
		y := Put(x, i, Thing{S: api.Sema{Ceil: i, Holder: 3}, B: api.Box{L: []int64{4, 5}}, F: api.Flag{Bits: 6}})
		wantAudit(t, off(y, i), with(x, i, begins(kind, at(i, 1), i)), []int{i}, [][]int{nil})
	}
}

// P14.1, Audit: a semaphore's ceiling stays, whatever it is; nobody holds it.
func TestAuditSema(t *testing.T) {
	x := made(t, 2, 1)
	for _, ceil := range []int{0, 1, 7, 8, -1, 1 << 40, math.MaxInt, math.MinInt} {
		for _, holder := range []int{0, 1, 8, -3, math.MaxInt} {
			y := off(Put(x, 1, sema(ceil, holder)), 1)
			anew := begins(1, at(1, 1), ceil)
			if anew.S != (api.Sema{Ceil: ceil}) {
				t.Fatal("another ceiling")
			}
			wantAudit(t, y, with(x, 1, anew), []int{1}, [][]int{nil})
		}
	}
	// of what is no semaphore nothing stays
	wantAudit(t, off(Put(x, 0, sema(3, 4)), 0), x, []int{0}, [][]int{nil})
}

// P14.1, Audit: who waited, of each in its order; several, their places rising; each of its own list.
func TestAuditWho(t *testing.T) {
	x := made(t, 3, 2, 1, 2, 3, 2)
	y := Put(Put(x, 0, flags(8, w(4, 1), w(2, 6), w(9, 1<<31))), 1, box(nil, 7, 3, 9, 1))
	y = Put(Put(Put(y, 2, sema(8, 1)), 3, box([]int64{5, 6})), 4, flags(0, w(4, 4)))
	only := func(places ...int) Table {
		next := y
		for _, p := range places {
			next = with(next, p, x.L[p])
		}
		return next
	}
	wantAudit(t, off(y, 0), only(0), []int{0}, [][]int{{4, 2, 9}})
	wantAudit(t, off(y, 1), only(1), []int{1}, [][]int{{7, 3, 9, 1}})
	wantAudit(t, off(y, 4, 1), only(1, 4), []int{1, 4}, [][]int{{7, 3, 9, 1}, {4}})
	wantAudit(t, off(y, 5, 3, 0), only(0, 3, 5), []int{0, 3, 5}, [][]int{{4, 2, 9}, nil, nil})
	wantAudit(t, off(y, 0, 1, 2, 3, 4, 5), only(0, 1, 2, 3, 4, 5), []int{0, 1, 2, 3, 4, 5}, [][]int{{4, 2, 9}, {7, 3, 9, 1}, nil, nil, {4}, nil})
}

// P14.1, Audit: of the first and the last place, and of all; behind it nothing is turned any more, and the handles stay.
func TestAuditAll(t *testing.T) {
	x := made(t, 2, 1, 3, 1, 2, 3, 1, 3, 2, 3, 2, 1)
	x, _, _ = Drop(x, at(4, 1))
	x, _, _ = Make(x, 2)
	all := []int{0, 1, 2, 3, 4, 5, 6, 7, 8, 9, 10, 11}
	wantAudit(t, off(x, 11, 0), x, []int{0, 11}, [][]int{nil, nil})
	wantAudit(t, off(x, all...), x, all, make([][]int, 12))
	y, _, _ := Audit(off(Put(x, 4, box([]int64{1, 2})), all...))
	if !same(y, x) || y.L[4].H != at(4, 2) {
		t.Errorf("%v", y)
	}
	wantAudit(t, y, y, nil, nil)
}

// P14.1, Audit: any Sum that is not the seal tells it: one bit of it, or one number of what it seals.
func TestAuditAnyTurn(t *testing.T) {
	x := Put(Put(Put(made(t, 1, 2, 3), 0, sema(2, 3)), 1, box([]int64{4, 5})), 2, flags(6))
	anew := []Thing{begins(1, at(0, 1), 2), begins(2, at(1, 1), 0), begins(3, at(2, 1), 0)}
	for i := range 3 {
		for bit := range 32 {
			y := table(x, 0)
			y.L[i].Sum ^= 1 << bit
			wantAudit(t, y, with(x, i, anew[i]), []int{i}, [][]int{nil})
		}
	}
	y := table(x, 0)
	y.L[0].S.Holder, y.L[1].B.L[1], y.L[2].F.Bits = 0, 6, 7
	wantAudit(t, y, with(with(with(x, 0, anew[0]), 1, anew[1]), 2, anew[2]), []int{0, 1, 2}, make([][]int, 3))
}

// P14.1, Semas: their places, rising, turned or not, held or not; of nothing else.
func TestSemas(t *testing.T) {
	wantSemas(t, made(t, 2, 3))
	wantSemas(t, made(t, 1), 0)
	wantSemas(t, made(t, 2, 1, 3, 1, 1, 2, 1), 1, 3, 4, 6)
	wantSemas(t, made(t, 1, 2, 2, 2, 2, 3, 3, 3, 3, 1, 1, 1), 0, 9, 10, 11)
	x := off(Put(made(t, 2, 1, 3, 1), 1, sema(2, 3)), 1, 2)
	wantSemas(t, x, 1, 3)
	x, _, _ = Drop(x, at(0, 1))
	wantSemas(t, x, 1, 3)
	x, _, _ = Make(x, 1)
	wantSemas(t, x, 0, 1, 3)
	x, _, _ = Drop(x, at(2, 1))
	x, _, _ = Make(x, 1)
	wantSemas(t, x, 0, 1, 2, 3)
}
