package obj

import (
	"math"
	"slices"
	"testing"

	"foliot/api"
	"foliot/slots"
)

// P14.2: what the seal is, of things of which it was reckoned by hand.
func TestSealByHand(t *testing.T) {
	x := made(t, 1, 2, 3)
	if x.L[0].Sum != 0x891C9585 || x.L[1].Sum != 0x911495C5 {
		t.Errorf("%#x %#x", x.L[0].Sum, x.L[1].Sum)
	}
	x.S.Gens[3] = 4
	x, _, _ = Make(x, 2)
	for _, c := range []struct {
		place int
		x     Thing
		sum   uint32
	}{
		{0, sema(8, 0), 0x891C9585},
		{0, sema(2, 3), 0x911C95D5},
		{1, Thing{}, 0x911495C5},
		{3, box([]int64{7, -8}), 0xE924A098},
		{3, box(nil, 6, 4), 0xA5F5B104},
		{2, flags(9, w(4, 2), w(5, 1<<31)), 0xB11CBD8D},
		{2, flags(1 << 31), 0x910C95C5},
	} {
		if y := Put(x, c.place, c.x); y.L[c.place].Sum != c.sum {
			t.Errorf("%v: %#x, want %#x", y.L[c.place], y.L[c.place].Sum, c.sum)
		}
	}
	last := made(t, 1, 1, 1, 1, 2, 2, 2, 2, 3, 3, 3, 3)
	if last.L[11].Sum != 0x994495C5 {
		t.Errorf("%#x", last.L[11].Sum)
	}
}

// P14.2: each part in its order: the lists of numbers that seals are sums of.
func TestSealParts(t *testing.T) {
	x := made(t, 1, 2, 3)
	x.S.Gens[3], x.S.Gens[4], x.S.Gens[5] = 1<<40+6, -9, 255
	x, _, _ = Make(x, 3)
	x, _, _ = Make(x, 1)
	x, _, _ = Make(x, 2)
	puts := []struct {
		x    Thing
		seal []int64
	}{
		{Thing{}, []int64{0, 0, 0, 0, 0}},
		{sema(5, 4), []int64{5, 4, 0, 0, 0}},
		{sema(-5, math.MaxInt), []int64{-5, math.MaxInt64, 0, 0, 0}},
		{box([]int64{math.MinInt64}), []int64{0, 0, 1, math.MinInt64, 0, 0}},
		{box([]int64{4, 3, 2, 1}), []int64{0, 0, 4, 4, 3, 2, 1, 0, 0}},
		{box([]int64{0, 0, 0}), []int64{0, 0, 3, 0, 0, 0, 0, 0}},
		{box(nil, 7), []int64{0, 0, 0, 1, 7, 0}},
		{box(nil, 7, 1<<32, math.MaxInt, 1), []int64{0, 0, 0, 4, 7, 1 << 32, math.MaxInt64, 1, 0}},
		{box([]int64{1, 2, 3}, 4, 5), []int64{0, 0, 3, 1, 2, 3, 2, 4, 5, 0}},
		{flags(1), []int64{0, 0, 0, 0, 1}},
		{flags(1 << 31), []int64{0, 0, 0, 0, 1 << 31}},
		{flags(every), []int64{0, 0, 0, 0, 1<<32 - 1}},
		{flags(0, w(1, every)), []int64{0, 0, 0, 0, 0, 1, 1<<32 - 1}},
		{flags(2, w(9, 1<<31), w(1<<40, 8), w(3, 1), w(2, 4)), []int64{0, 0, 0, 0, 2, 9, 1 << 31, 1 << 40, 8, 3, 1, 2, 4}},
		{Thing{S: api.Sema{Ceil: 1, Holder: 2}, B: api.Box{L: []int64{3}, Wait: []int{4}}, F: api.Flag{Bits: 5, Wait: []api.Waiter{w(6, 7)}}}, []int64{1, 2, 1, 3, 1, 4, 5, 6, 7}},
	}
	for i := range 6 {
		for _, p := range puts {
			wantPut(t, x, i, p.x, with(x, i, parts(x.L[i], p.x, p.seal...)))
		}
	}
	if x.L[3].H != at(3, 1<<40+7) || x.L[4].H != at(4, -8) || x.L[5].H != at(5, 256) {
		t.Errorf("%v", x.L)
	}
}

// P14.2: each part is sealed: whichever is another one, unlike in a byte, the thing begins anew.
func TestEachPartIsSealed(t *testing.T) {
	full := Thing{S: api.Sema{Ceil: 1, Holder: 2}, B: api.Box{L: []int64{3, 8}, Wait: []int{4, 9}}, F: api.Flag{Bits: 5, Wait: []api.Waiter{w(6, 7), w(8, 1<<31)}}}
	spoils := []func(*Thing){
		func(x *Thing) { x.Kind ^= 4 }, func(x *Thing) { x.H.At ^= 1 << 40 }, func(x *Thing) { x.H.Gen ^= 2 },
		func(x *Thing) { x.S.Ceil ^= 1 << 62 }, func(x *Thing) { x.S.Holder ^= 1 },
		func(x *Thing) { x.B.L[0] ^= 1 << 32 }, func(x *Thing) { x.B.L[1] ^= math.MinInt64 },
		func(x *Thing) { x.B.Wait[0] ^= 1 }, func(x *Thing) { x.B.Wait[1] ^= 1 << 50 },
		func(x *Thing) { x.F.Bits ^= 1 << 31 }, func(x *Thing) { x.F.Bits ^= 1 },
		func(x *Thing) { x.F.Wait[0].Client ^= 1 << 33 }, func(x *Thing) { x.F.Wait[1].Client ^= 1 },
		func(x *Thing) { x.F.Wait[0].Mask ^= 1 }, func(x *Thing) { x.F.Wait[1].Mask ^= 1 << 31 },
	}
	for i := range 3 {
		x := Put(made(t, 1, 2, 3), i, full)
		for n, spoil := range spoils {
			y := table(x, 0)
			spoil(&y.L[i])
			if _, places, _ := Audit(y); !slices.Equal(places, []int{i}) {
				t.Errorf("%d, part %d: %v", i, n, places)
			}
		}
	}
}

// holds asks of any table each thing: no panic, what is handed in stays, what is told is new memory, and beside a no all is as it was.
func holds(t *testing.T, x Table, hs []api.Handle, places []int, puts []Thing) {
	t.Helper()
	for kind := -1; kind <= 4; kind++ {
		asked(t, x, func(in Table) (Table, [][]int) {
			y, h, ok := Make(in, kind)
			if !ok && (!same(y, x) || h != api.Handle{}) || ok && y.L[h.At].H != h || len(y.L) != len(x.L) {
				t.Fatalf("Make(%v, %d): %v %v %v", x, kind, y, h, ok)
			}
			return y, nil
		})
	}
	for _, h := range hs {
		asked(t, x, func(in Table) (Table, [][]int) {
			at, is := Find(in, h)
			y, who, ok := Drop(in, h)
			if !is && (ok || at != 0) || !ok && (!same(y, x) || len(who) > 0) || is && x.L[at].Kind == 0 || is && ok == (x.L[at].Kind == api.ASema) {
				t.Fatalf("Find and Drop(%v, %v): %v %v %v %v %v", x, h, at, is, y, who, ok)
			}
			return y, [][]int{who}
		})
	}
	for _, p := range places {
		is := p >= 0 && p < len(x.L) && x.L[p].Kind != 0
		want := x
		if is {
			want = off(x, p)
		}
		wantTurn(t, x, p, want, is)
		for _, y := range puts {
			want := x
			if is {
				want = with(x, p, sealOf(x.L[p], y))
			}
			wantPut(t, x, p, y, want)
		}
	}
	wantAnew(t, x)
}

// sealOf tells was with y's S, B and F, sealed, or turned if it was, each part by hand.
func sealOf(was, y Thing) Thing {
	next := parts(was, y, numbers(y)...)
	if was.Sum != parts(was, was, numbers(was)...).Sum {
		next.Sum = every - next.Sum
	}
	return next
}

// numbers tells what the seal of x is of, behind its Kind and handle.
func numbers(x Thing) []int64 {
	l := []int64{int64(x.S.Ceil), int64(x.S.Holder), int64(len(x.B.L))}
	l = append(append(l, x.B.L...), int64(len(x.B.Wait)))
	for _, c := range x.B.Wait {
		l = append(l, int64(c))
	}
	l = append(l, int64(x.F.Bits))
	for _, y := range x.F.Wait {
		l = append(l, int64(y.Client), int64(y.Mask))
	}
	return l
}

// clients tells who waits for x.
func clients(x Thing) []int {
	l := slices.Clone(x.B.Wait)
	for _, y := range x.F.Wait {
		l = append(l, y.Client)
	}
	return l
}

// wantAnew asks of any table that Audit and Semas tell what stands in it.
func wantAnew(t *testing.T, x Table) {
	t.Helper()
	var places, semas []int
	var who [][]int
	want := table(x, 0)
	for i, y := range x.L {
		if y.Kind == api.ASema {
			semas = append(semas, i)
		}
		if y.Kind != 0 && y.Sum != parts(y, y, numbers(y)...).Sum {
			places, who = append(places, i), append(who, clients(y))
			want.L[i] = begins(y.Kind, y.H, y.S.Ceil)
		}
	}
	wantAudit(t, x, want, places, who)
	wantSemas(t, x, semas...)
}

// wrong are tables to which no run from New comes.
func wrong(t *testing.T) []Table {
	x := off(Put(Put(made(t, 1, 2, 3, 2), 1, box([]int64{5}, 6)), 2, flags(7, w(8, 9))), 2)
	of := func(f func(*Table)) Table {
		y := table(x, 0)
		f(&y)
		return y
	}
	long := make([]Thing, 40)
	for i := range long {
		long[i] = Thing{Kind: i - 7, H: at(i%5, 1), S: api.Sema{Ceil: i, Holder: -i}, B: api.Box{L: make([]int64, i), Wait: make([]int, i)}, F: api.Flag{Bits: uint32(i), Wait: make([]api.Waiter, i)}, Sum: uint32(i)}
	}
	return []Table{
		{}, {S: slots.New(12)}, {S: slots.New(64)}, {L: make([]Thing, 12)}, {L: slices.Clone(x.L)}, {L: long}, {S: x.S, L: long},
		of(func(y *Table) { y.L = y.L[:0] }), of(func(y *Table) { y.L = y.L[:1] }), of(func(y *Table) { y.L = y.L[:2] }), of(func(y *Table) { y.L = y.L[:4] }), of(func(y *Table) { y.L = nil }),
		of(func(y *Table) { y.L = append(y.L, x.L...) }), of(func(y *Table) { y.L = append(y.L, long...) }), of(func(y *Table) { y.L = append(y.L[:4], long...) }),
		of(func(y *Table) { y.S = slots.Slots{} }), of(func(y *Table) { y.S.Gens = y.S.Gens[:2] }), of(func(y *Table) { y.S.Is = y.S.Is[:2] }), of(func(y *Table) { y.S.Is = nil }),
		of(func(y *Table) { y.S = slots.New(12) }), of(func(y *Table) { y.S = slots.New(64) }), of(func(y *Table) { y.S.Gens[1] = 7 }), of(func(y *Table) { y.S.Is[0] = false }),
		of(func(y *Table) { y.S.Is[7] = true }), of(func(y *Table) { y.S.Gens[4] = math.MaxInt }), of(func(y *Table) { slices.Reverse(y.L) }),
		of(func(y *Table) { y.L[0].Kind = 4 }), of(func(y *Table) { y.L[1].Kind = -1 }), of(func(y *Table) { y.L[2].Kind = math.MinInt }), of(func(y *Table) { y.L[1].Kind = 0 }), of(func(y *Table) { y.L[0].Kind = math.MaxInt }),
		of(func(y *Table) { y.L[1].H = at(0, 1) }), of(func(y *Table) { y.L[1].H = at(-1, 1) }), of(func(y *Table) { y.L[2].H = at(math.MaxInt, math.MinInt) }), of(func(y *Table) { y.L[5].Kind = 2 }), of(func(y *Table) { y.L[5].B.Wait = []int{4} }),
	}
}

// R1, R2, R3: tables that may not be: no panic, what is handed in stays, beside a no all is as it was.
func TestWrongTables(t *testing.T) {
	hs := []api.Handle{{}, at(0, 1), at(1, 1), at(2, 1), at(3, 1), at(1, 7), at(7, 0), at(4, math.MinInt), at(12, 1), at(-1, 1), at(39, 1), at(math.MaxInt, math.MinInt)}
	puts := []Thing{{}, {Kind: -1, S: api.Sema{Ceil: 1, Holder: 2}, B: api.Box{L: []int64{3}, Wait: []int{4}}, F: api.Flag{Bits: 5, Wait: []api.Waiter{w(6, 7)}}}}
	for _, x := range wrong(t) {
		holds(t, x, hs, append([]int{0, 1, 2, 3, 5, 11, 23, 39}, noPlaces...), puts)
	}
}

// R1: a place that is in one half of the table alone can't be made use of.
func TestHalfPlaces(t *testing.T) {
	x := made(t, 2, 3)
	short := table(x, 0)
	short.L = short.L[:2]
	wantMake(t, short, 1, short, api.Handle{}, false)
	short.L = short.L[:1]
	wantGone(t, short, at(1, 1))
	wantFind(t, short, at(0, 1), 0, true)
	wantStill(t, short, 1)
	few := table(x, 0)
	few.S.Gens, few.S.Is = few.S.Gens[:1], few.S.Is[:1]
	wantMake(t, few, 1, few, api.Handle{}, false)
	wantGone(t, few, at(1, 1))
	wantDrop(t, few, at(0, 1), without(few, 0), true)
}

// R3: what was told of a table, or of what was put, does not change with these, nor one answer with another one.
func TestKeepsNothing(t *testing.T) {
	y := Thing{B: api.Box{L: []int64{5, 6}, Wait: []int{7}}, F: api.Flag{Bits: 8, Wait: []api.Waiter{w(9, 1)}}}
	x := made(t, 1, 2, 3)
	a := Put(x, 1, y)
	b, _ := Turn(a, 2)
	c, _, who := Audit(off(a, 1))
	d, gone, _ := Drop(a, at(1, 1))
	e, _, _ := Make(a, 3)
	want := []Table{table(x, 0), table(a, 0), table(b, 0), table(c, 0), table(d, 0), table(e, 0)}
	y.B.L[0], y.B.Wait[0], y.F.Wait[0] = -1, -2, w(-3, 4)
	all := []Table{x, a, b, c, d, e}
	for i, z := range all {
		for j := i; j < len(all); j++ {
			if !same(all[j], want[j]) {
				t.Fatalf("%d: %v, want %v", j, all[j], want[j])
			}
		}
		spoil(t, z)
	}
	if !slices.Equal(gone, []int{7, 9}) || len(who) != 1 || !slices.Equal(who[0], []int{7, 9}) {
		t.Errorf("%v %v", gone, who)
	}
}

// R3: two that come of one share nothing, nor does it matter which comes first.
func TestBranches(t *testing.T) {
	x := Put(made(t, 2, 3), 0, box([]int64{1}, 2))
	a, _, _ := Make(x, 1)
	b, _, _ := Make(x, 3)
	c := Put(x, 0, box([]int64{3}))
	d := Put(x, 0, Thing{B: api.Box{L: append(x.L[0].B.L, 4)}})
	again, _, _ := Make(x, 1)
	if a.L[2].Kind != 1 || b.L[2].Kind != 3 || !same(a, again) || x.L[2].Kind != 0 {
		t.Errorf("%v %v", a.L[2], b.L[2])
	}
	if !slices.Equal(c.L[0].B.L, []int64{3}) || !slices.Equal(d.L[0].B.L, []int64{1, 4}) || !slices.Equal(x.L[0].B.L, []int64{1}) {
		t.Errorf("%v %v %v", c.L[0], d.L[0], x.L[0])
	}
}

// model is a table told in another way, by its places.
type model [api.MaxObjs]spot

// spot is a place: what is there, if something is.
type spot struct {
	kind, gen int
	in        Thing // its S, B and F
	off       bool  // it was turned
}

// table tells the table that m is.
func (m model) table() Table {
	var x Table
	for i, p := range m {
		y := Thing{}
		if p.kind != 0 {
			y = parts(Thing{Kind: p.kind, H: at(i, p.gen)}, p.in, numbers(p.in)...)
			if p.off {
				y.Sum = every - y.Sum
			}
		}
		x.L, x.S.Gens, x.S.Is = append(x.L, y), append(x.S.Gens, p.gen), append(x.S.Is, p.kind != 0)
	}
	return x
}

// begin has a thing of that kind begin at the place.
func (m model) begin(place, kind, ceil int) model {
	m[place].kind, m[place].in, m[place].off = kind, Thing{}, false
	if kind == api.ASema {
		m[place].in = sema(ceil, 0)
	}
	return m
}

// count tells how many of that kind are there.
func (m model) count(kind int) int {
	n := 0
	for _, p := range m {
		if p.kind == kind {
			n++
		}
	}
	return n
}

// makes asks Make of the table that m is, and tells what m is then.
func (m model) makes(t *testing.T, kind int) model {
	t.Helper()
	free := slices.IndexFunc(m[:], func(p spot) bool { return p.kind == 0 })
	if kind < 1 || kind > 3 || free < 0 || m.count(kind) == 4 {
		wantMake(t, m.table(), kind, m.table(), api.Handle{}, false)
		return m
	}
	next := m.begin(free, kind, 8)
	next[free].gen++
	wantMake(t, m.table(), kind, next.table(), at(free, next[free].gen), true)
	return next
}

// drops asks Find and Drop, of that place's thing, or of an elder or a later one there, and tells what m is then.
func (m model) drops(t *testing.T, place, later int) model {
	t.Helper()
	p := m[place]
	h := at(place, p.gen+later)
	if p.kind == 0 || later != 0 {
		wantGone(t, m.table(), h)
		return m
	}
	wantFind(t, m.table(), h, place, true)
	if p.kind == api.ASema {
		wantDrop(t, m.table(), h, m.table(), false)
		return m
	}
	next := m
	next[place].kind = 0
	wantDrop(t, m.table(), h, next.table(), true, clients(p.in)...)
	return next
}

// puts asks Put, and tells what m is then.
func (m model) puts(t *testing.T, place int, x Thing) model {
	t.Helper()
	next := m
	next[place].in = x
	wantPut(t, m.table(), place, x, next.table())
	if m[place].kind == 0 {
		return m
	}
	return next
}

// turns asks Turn, and tells what m is then.
func (m model) turns(t *testing.T, place int) model {
	t.Helper()
	next := m
	next[place].off = m[place].kind != 0 && !m[place].off
	wantTurn(t, m.table(), place, next.table(), m[place].kind != 0)
	return next
}

// audits asks Audit and Semas, and tells what m is then.
func (m model) audits(t *testing.T) model {
	t.Helper()
	var places, semas []int
	var who [][]int
	next := m
	for i, p := range m {
		if p.kind == api.ASema {
			semas = append(semas, i)
		}
		if p.kind != 0 && p.off {
			places, who = append(places, i), append(who, clients(p.in))
			next = next.begin(i, p.kind, p.in.S.Ceil)
		}
	}
	wantAudit(t, m.table(), next.table(), places, who)
	wantSemas(t, next.table(), semas...)
	return next
}

// all does each row of so many deeds.
func (m model) all(t *testing.T, n int) {
	if n == 0 {
		return
	}
	for kind := 1; kind <= 3; kind++ {
		m.makes(t, kind).all(t, n-1)
	}
	for place := range 3 {
		m.drops(t, place, 0).all(t, n-1)
	}
	for place := range 2 {
		m.turns(t, place).all(t, n-1)
	}
	m.puts(t, 0, Thing{S: api.Sema{Ceil: 3, Holder: 1}, B: api.Box{L: []int64{5, 6}, Wait: []int{7}}, F: api.Flag{Bits: 8, Wait: []api.Waiter{w(9, 1<<31)}}}).all(t, n-1)
	m.audits(t).all(t, n-1)
}

// P14.1, P14.2: each row of four deeds from New answers as the words have it, and from a table that is full too.
func TestAllRows(t *testing.T) {
	model{}.all(t, 4)
	full := model{}
	for _, kind := range []int{2, 1, 3, 1, 2, 3, 1, 2, 3, 1, 2, 3} {
		full = full.makes(t, kind)
	}
	full.all(t, 3)
}

// random tells the number behind seed, of which the upper bits are as good as chance.
func random(seed uint64) uint64 { return seed*6364136223846793005 + 1442695040888963407 }

// anything tells a thing to be put, most often one that has what its kind has.
func anything(seed uint64, kind int) Thing {
	x := Thing{Kind: int(seed>>60) - 3, H: at(int(seed>>58&3), 1), Sum: uint32(seed >> 30)}
	all := seed>>40&7 == 0
	if all || kind == api.ASema {
		x.S = api.Sema{Ceil: int(seed >> 50 & 15), Holder: int(seed >> 44 & 15)}
	}
	for i := range seed >> 54 & 3 {
		seed = random(seed)
		if all || kind == api.ABox && seed>>43&1 == 0 {
			x.B.L = append(x.B.L, int64(seed))
		} else if kind == api.ABox {
			x.B.Wait = append(x.B.Wait, int(seed>>33)+1)
		}
		if all || kind == api.AFlag {
			x.F.Bits |= 1 << (seed >> 59)
			x.F.Wait = append(x.F.Wait, w(int(seed>>60)+int(i)*16+1, uint32(seed>>32)))
		}
	}
	return x
}

// deed does the deed that the seed tells, and tells what m is then.
func (m model) deed(t *testing.T, seed uint64) model {
	t.Helper()
	place := int(seed>>32) % api.MaxObjs
	switch what := seed >> 60; {
	case what < 4:
		return m.makes(t, int(seed>>56&7)-1)
	case what < 6:
		return m.drops(t, place, 0)
	case what < 7:
		return m.drops(t, place, int(seed>>50&3)-1)
	case what < 11:
		return m.puts(t, place, anything(random(seed), m[place].kind))
	case what < 14:
		return m.turns(t, place)
	}
	return m.audits(t)
}

// What follows: in long runs what was turned begins anew, and nothing else; each deed answers as the words have it.
func TestLongRuns(t *testing.T) {
	full, again := 0, 0
	for run := range uint64(6) {
		m, seed := model{}, run*77+1
		for range 1500 {
			seed = random(seed)
			m = m.deed(t, seed)
			if m.count(0) == 0 {
				full++
			}
		}
		again += m[5].gen
	}
	if full < 100 || again < 50 {
		t.Errorf("%d times all places were taken, %d things were made at one", full, again)
	}
}

// FuzzObj: any bytes as a run of deeds, and as a table: no panic, and answers as the words have them.
func FuzzObj(f *testing.F) {
	f.Add([]byte{}, 0, 0)
	f.Add([]byte{0, 1, 2, 64, 80, 96, 112, 128, 150, 200, 220, 240, 255}, 1, 3)
	f.Add([]byte{255, 240, 3, 9, 17, 33, 65, 129}, -1, math.MinInt)
	f.Fuzz(func(t *testing.T, run []byte, place, gen int) {
		m, wild := model{}, Table{}
		for i, b := range run[:min(len(run), 64)] {
			seed := uint64(b)<<56 | random(uint64(i))>>8
			m = m.deed(t, seed)
			y := anything(seed, int(b&3))
			y.H = at(place+i, gen+int(b&1))
			wild.L = append(wild.L, y)
			wild.S.Gens = append(wild.S.Gens, gen+int(b>>1&1))
			if b&4 == 0 {
				wild.S.Is = append(wild.S.Is, b&8 == 0)
			}
		}
		holds(t, wild, []api.Handle{at(place, gen), at(0, gen), at(place, gen+1), {}}, []int{place, 0, 1, len(run)}, []Thing{{}, anything(uint64(gen), 2)})
		holds(t, m.table(), []api.Handle{at(place, gen), at(0, 1), {}}, []int{place, 0}, []Thing{{}, anything(uint64(gen), 3)})
	})
}
