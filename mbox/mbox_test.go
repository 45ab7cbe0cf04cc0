package mbox

import (
	"math"
	"slices"
	"testing"

	"foliot/api"
)

const least, greatest = math.MinInt64, math.MaxInt64

// noClients are clients that there may not be.
var noClients = []int{0, -1, -2, -7, -1 << 32, math.MinInt + 1, math.MinInt}

// letters tells a box with these letters, for which nobody waits.
func letters(l ...int64) api.Box { return api.Box{L: l} }

// waiting tells a box without letters for which these clients wait.
func waiting(clients ...int) api.Box { return api.Box{Wait: clients} }

// same tells whether the boxes have the same in them; nil and an empty list are one.
func same(a, b api.Box) bool {
	return slices.Equal(a.L, b.L) && slices.Equal(a.Wait, b.Wait)
}

// roomy tells a copy of b with three places behind each list that are not its own.
func roomy(b api.Box) api.Box {
	l := append(slices.Clone(b.L), 71, -72, 73)
	wait := append(slices.Clone(b.Wait), 81, 82, -83)
	return api.Box{L: l[:len(b.L)], Wait: wait[:len(b.Wait)]}
}

// whole tells all that stands in the memory of b's lists, spare room too.
func whole(b api.Box) api.Box {
	return api.Box{L: b.L[:cap(b.L)], Wait: b.Wait[:cap(b.Wait)]}
}

// spoil writes over all the memory of b's lists, spare room too.
func spoil(b api.Box) {
	for at := range whole(b).L {
		whole(b).L[at] = -990
	}
	for at := range whole(b).Wait {
		whole(b).Wait[at] = -991
	}
}

// asked asks of b as it is, with room behind its lists and without, twice each, that what ask tells is right; that what was handed in stays as it was, while what is told is written over.
func asked(t *testing.T, b api.Box, ask func(api.Box) []api.Box) {
	t.Helper()
	for _, in := range []api.Box{roomy(b), clone(b), {L: slices.Clip(slices.Clone(b.L)), Wait: slices.Clip(slices.Clone(b.Wait))}} {
		was := clone(whole(in))
		for range 2 {
			for _, told := range ask(in) {
				spoil(told)
			}
			if !same(whole(in), was) {
				t.Fatalf("%v: handed in %v is %v", b, was, whole(in))
			}
		}
	}
}

// wantPost asks that Post of b answers so.
func wantPost(t *testing.T, b api.Box, v int64, want api.Box, client int, ok bool) {
	t.Helper()
	asked(t, b, func(in api.Box) []api.Box {
		x, c, o := Post(in, v)
		if !same(x, want) || c != client || o != ok {
			t.Errorf("Post(%v, %d): %v %d %v, want %v %d %v", b, v, x, c, o, want, client, ok)
		}
		return []api.Box{x}
	})
}

// wantTake asks that Take of b answers so.
func wantTake(t *testing.T, b api.Box, client int, want api.Box, v int64, got, ok bool) {
	t.Helper()
	asked(t, b, func(in api.Box) []api.Box {
		x, w, g, o := Take(in, client)
		if !same(x, want) || w != v || g != got || o != ok {
			t.Errorf("Take(%v, %d): %v %d %v %v, want %v %d %v %v", b, client, x, w, g, o, want, v, got, ok)
		}
		return []api.Box{x}
	})
}

// wantGot asks that the client gets v, and that want is left.
func wantGot(t *testing.T, b api.Box, client int, want api.Box, v int64) {
	t.Helper()
	wantTake(t, b, client, want, v, true, true)
}

// wantWaits asks that the client waits, and that the box is want then.
func wantWaits(t *testing.T, b api.Box, client int, want api.Box) {
	t.Helper()
	wantTake(t, b, client, want, 0, false, true)
}

// wantNo asks that Take says no, and that the box comes back as it was.
func wantNo(t *testing.T, b api.Box, client int) {
	t.Helper()
	wantTake(t, b, client, b, 0, false, false)
}

// wantReset asks that nothing is left, and that these are told as who waited.
func wantReset(t *testing.T, b api.Box, who ...int) {
	t.Helper()
	asked(t, b, func(in api.Box) []api.Box {
		x, w := Reset(in)
		if !same(x, api.Box{}) || !slices.Equal(w, who) {
			t.Errorf("Reset(%v): %v %v, want %v", b, x, w, who)
		}
		return []api.Box{x, {Wait: w}}
	})
}

// P12.1, Post: nobody waits: v is the last letter, and nobody is told; up to MaxBox letters.
func TestPost(t *testing.T) {
	wantPost(t, letters(), 5, letters(5), 0, true)
	wantPost(t, letters(5), 6, letters(5, 6), 0, true)
	wantPost(t, letters(5, 6), 4, letters(5, 6, 4), 0, true)
	wantPost(t, letters(5, 6, 4), 9, letters(5, 6, 4, 9), 0, true)
	wantPost(t, letters(5, 5), 5, letters(5, 5, 5), 0, true)
}

// P12.1, Post: no, if there are MaxBox letters, whatever they are; one less is not too many.
func TestPostFull(t *testing.T) {
	full := []int64{3, 1, 4, 1}
	if len(full) != api.MaxBox {
		t.Fatal("another limit")
	}
	for _, v := range []int64{0, 1, -1, 5, least, greatest} {
		wantPost(t, letters(full...), v, letters(full...), 0, false)
		wantPost(t, letters(0, 0, 0, 0), v, letters(0, 0, 0, 0), 0, false)
		wantPost(t, letters(full[:3]...), v, letters(3, 1, 4, v), 0, true)
		wantPost(t, letters(full[1:]...), v, letters(1, 4, 1, v), 0, true)
	}
}

// P12.1, Post: clients wait: the first one is told, and waits no more; the others stay as they came, and v is no letter.
func TestPostToWho(t *testing.T) {
	wantPost(t, waiting(7), 5, waiting(), 7, true)
	wantPost(t, waiting(7, 3), 5, waiting(3), 7, true)
	wantPost(t, waiting(3, 7), 5, waiting(7), 3, true)
	wantPost(t, waiting(9, 3, 7), 5, waiting(3, 7), 9, true)
	wantPost(t, waiting(1, 9, 3, 7), 5, waiting(9, 3, 7), 1, true)
	wantPost(t, waiting(8, 4, 2, 1), 0, waiting(4, 2, 1), 8, true)
	wantPost(t, waiting(1), 5, waiting(), 1, true)
	wantPost(t, waiting(math.MaxInt, 1), 5, waiting(1), math.MaxInt, true)
	wantPost(t, waiting(1, math.MaxInt), 5, waiting(math.MaxInt), 1, true)
	wantPost(t, waiting(1<<32, 2, 1<<62), 5, waiting(2, 1<<62), 1<<32, true)
}

// P12.1: a letter is any number: 0, below 0, at the ends; whoever gets it gets just it.
func TestAnyLetter(t *testing.T) {
	for _, v := range []int64{0, 1, -1, 255, -256, 1 << 31, -1 << 31, 1 << 32, 1<<53 + 1, -1 << 53, least, least + 1, greatest - 1, greatest} {
		wantPost(t, letters(), v, letters(v), 0, true)
		wantPost(t, letters(v), v, letters(v, v), 0, true)
		wantPost(t, waiting(2, 1), v, waiting(1), 2, true)
		wantGot(t, letters(v), 2, letters(), v)
		wantGot(t, letters(v, 8), 1, letters(8), v)
		wantGot(t, letters(8, v), 1, letters(v), 8)
	}
}

// P12.1, Take: there is a letter: the first, and the others stay as they were posted; whoever asks does not wait.
func TestTake(t *testing.T) {
	wantGot(t, letters(5), 1, letters(), 5)
	wantGot(t, letters(5, 6), 1, letters(6), 5)
	wantGot(t, letters(6, 5), 1, letters(5), 6)
	wantGot(t, letters(7, 5, 6), 3, letters(5, 6), 7)
	wantGot(t, letters(4, 7, 5, 6), 8, letters(7, 5, 6), 4)
	wantGot(t, letters(5, 5, 5, 5), 2, letters(5, 5, 5), 5)
	wantGot(t, letters(0), 2, letters(), 0)
	wantGot(t, letters(0, 0), 2, letters(0), 0)
	wantGot(t, letters(5), math.MaxInt, letters(), 5)
}

// P12.1, Take: no letter: the client waits, behind the others; up to MaxWait.
func TestTakeWaits(t *testing.T) {
	wantWaits(t, waiting(), 7, waiting(7))
	wantWaits(t, waiting(), 1, waiting(1))
	wantWaits(t, waiting(), math.MaxInt, waiting(math.MaxInt))
	wantWaits(t, waiting(7), 3, waiting(7, 3))
	wantWaits(t, waiting(3), 7, waiting(3, 7))
	wantWaits(t, waiting(7, 3), 9, waiting(7, 3, 9))
	wantWaits(t, waiting(7, 3, 9), 1, waiting(7, 3, 9, 1))
	wantWaits(t, waiting(1, 2, 3), 4, waiting(1, 2, 3, 4))
	wantWaits(t, waiting(1<<32+5), 5, waiting(1<<32+5, 5))
	wantWaits(t, waiting(math.MaxInt, 1), math.MaxInt-1, waiting(math.MaxInt, 1, math.MaxInt-1))
}

// P12.1, Take: a client is no place: one that waits at the place of another one's number is not that other one.
func TestClientsAreNoPlaces(t *testing.T) {
	wantWaits(t, waiting(2, 3), 1, waiting(2, 3, 1))
	wantWaits(t, waiting(9, 8, 7), 1, waiting(9, 8, 7, 1))
	wantWaits(t, waiting(9, 8, 7), 2, waiting(9, 8, 7, 2))
	wantWaits(t, waiting(3), 2, waiting(3, 2))
	wantWaits(t, waiting(4), 3, waiting(4, 3))
}

// P12.1, Take: no, if the client waits already, wherever it stands; the last of a row of MaxWait too.
func TestTakeWaitsAlready(t *testing.T) {
	for _, row := range [][]int{{7}, {1}, {math.MaxInt}, {7, 3}, {7, 3, 9}, {1, 2, 3}, {7, 3, 9, 1}, {1, math.MaxInt, 2, 1 << 40}} {
		for _, client := range row {
			wantNo(t, waiting(row...), client)
		}
	}
}

// P12.1, Take: no, if MaxWait wait; one less is not too many.
func TestTakeFull(t *testing.T) {
	full := []int{7, 3, 9, 1}
	if len(full) != api.MaxWait {
		t.Fatal("another limit")
	}
	for _, client := range []int{2, 4, 5, 6, 8, 10, 71, 81, 1 << 32, math.MaxInt - 1, math.MaxInt} {
		wantNo(t, waiting(full...), client)
		wantWaits(t, waiting(full[:3]...), client, waiting(7, 3, 9, client))
		wantWaits(t, waiting(full[1:]...), client, waiting(3, 9, 1, client))
	}
}

// P12.1, Take: no, if the client is 0 or below, whatever is in the box.
func TestNoClient(t *testing.T) {
	for _, client := range noClients {
		for _, b := range []api.Box{letters(), letters(5), letters(5, -6, 0, 8), waiting(7), waiting(7, 3), waiting(7, 3, 9), waiting(7, 3, 9, 1)} {
			wantNo(t, b, client)
		}
	}
}

// P12.1, Reset: nothing is in it; who waited, as they came.
func TestReset(t *testing.T) {
	wantReset(t, api.Box{})
	wantReset(t, letters(5))
	wantReset(t, letters(5, 0, -6, 5))
	wantReset(t, waiting(7), 7)
	wantReset(t, waiting(7, 3), 7, 3)
	wantReset(t, waiting(3, 7, 1), 3, 7, 1)
	wantReset(t, waiting(1, 9, math.MaxInt, 7), 1, 9, math.MaxInt, 7)
}

// P12.1, Reset: what is told is a box as a new one is: letters and clients go in again.
func TestAfterReset(t *testing.T) {
	for _, b := range []api.Box{letters(1, 2, 3, 4), waiting(7, 3, 9, 1), {}} {
		x, _ := Reset(b)
		wantPost(t, x, 5, letters(5), 0, true)
		wantWaits(t, x, 7, waiting(7))
		wantReset(t, x)
	}
}

// R3, P12.1: nil and an empty list are one.
func TestEmptyLists(t *testing.T) {
	for _, b := range []api.Box{{}, {L: []int64{}}, {Wait: []int{}}, {L: []int64{}, Wait: []int{}}, {L: make([]int64, 0, 9), Wait: make([]int, 0, 9)}} {
		if x, client, ok := Post(b, 5); !same(x, letters(5)) || client != 0 || !ok {
			t.Errorf("Post: %v %d %v", x, client, ok)
		}
		if x, v, got, ok := Take(b, 7); !same(x, waiting(7)) || v != 0 || got || !ok {
			t.Errorf("Take: %v %d %v %v", x, v, got, ok)
		}
		if x, v, got, ok := Take(b, 0); !same(x, api.Box{}) || v != 0 || got || ok {
			t.Errorf("Take of nobody: %v %d %v %v", x, v, got, ok)
		}
		if x, who := Reset(b); !same(x, api.Box{}) || len(who) != 0 {
			t.Errorf("Reset: %v %v", x, who)
		}
	}
}

// P12.1: the chapter's example: Post, Take: it.
func TestPosted(t *testing.T) {
	b, client, ok := Post(api.Box{}, -44)
	if client != 0 || !ok {
		t.Fatalf("%d %v", client, ok)
	}
	wantGot(t, b, 3, api.Box{}, -44)
	b, v, got, ok := Take(api.Box{}, 3)
	if v != 0 || got || !ok {
		t.Fatalf("%d %v %v", v, got, ok)
	}
	wantPost(t, b, -44, api.Box{}, 3, true)
}

// model has what was posted and who asked since a box was new, but for what was refused. The nth letter is the nth client's: so the promise's words come to, in another way than a box has them.
type model struct {
	posted []int64
	asked  []int
}

// box tells what m's box has in it.
func (m model) box() api.Box {
	n := min(len(m.posted), len(m.asked))
	return api.Box{L: slices.Clone(m.posted[n:]), Wait: slices.Clone(m.asked[n:])}
}

// post tells m behind a Post, and what it must answer.
func (m model) post(v int64) (model, int, bool) {
	if len(m.posted)-len(m.asked) >= api.MaxBox {
		return m, 0, false
	}
	client, n := 0, len(m.posted)
	if n < len(m.asked) {
		client = m.asked[n]
	}
	return model{append(m.posted[:n:n], v), m.asked}, client, true
}

// take tells m behind a Take, and what it must answer.
func (m model) take(client int) (next model, v int64, got, ok bool) {
	n := len(m.asked)
	left := m.asked[min(len(m.posted), n):]
	if client <= 0 || slices.Contains(left, client) || len(left) >= api.MaxWait {
		return m, 0, false, false
	}
	if n < len(m.posted) {
		v, got = m.posted[n], true
	}
	return model{m.posted, append(m.asked[:n:n], client)}, v, got, true
}

// state is what is in a box: how many letters, they, how many clients, they.
type state struct {
	n, w int
	l    [api.MaxBox]int64
	wait [api.MaxWait]int
}

// at tells which state the box is in.
func at(b api.Box) state {
	s := state{n: len(b.L), w: len(b.Wait)}
	copy(s.l[:], b.L)
	copy(s.wait[:], b.Wait)
	return s
}

// What follows: from each box that three letters and five clients come to, each deed answers as the model has it, and leads to what it has.
func TestAllBoxes(t *testing.T) {
	seen := map[state]bool{}
	work := []model{{}}
	for len(work) > 0 {
		m := work[0]
		work = work[1:]
		s := at(m.box())
		if seen[s] {
			continue
		}
		seen[s] = true
		work = append(work, deeds(t, m)...)
	}
	// Letters: 1 + 3 + 9 + 27 + 81 rows; clients of five that differ: 5 + 20 + 60 + 120 rows.
	if len(seen) != 121+205 {
		t.Errorf("%d boxes, want %d", len(seen), 121+205)
	}
}

// deeds does each thing that there is at m, and tells what came of it.
func deeds(t *testing.T, m model) []model {
	t.Helper()
	var out []model
	for v := range int64(3) {
		next, client, ok := m.post(v - 1)
		wantPost(t, m.box(), v-1, next.box(), client, ok)
		out = append(out, next)
	}
	for client := -1; client <= 5; client++ {
		next, v, got, ok := m.take(client)
		wantTake(t, m.box(), client, next.box(), v, got, ok)
		out = append(out, next)
	}
	wantReset(t, m.box(), m.box().Wait...)
	return out
}

// told is a letter that came to a client.
type told struct {
	client int
	v      int64
}

// What follows: in a long run of posts and takes, each letter that was not refused comes once, as they were posted, to the clients as they came.
func TestLongRun(t *testing.T) {
	for _, posts := range []uint32{1, 5, 8, 11, 15} { // of sixteen deeds
		var b api.Box
		var m model
		var came []told
		seed := posts
		for i := range 5000 {
			seed = seed*1664525 + 1013904223
			if seed>>28 < posts {
				v := int64(i) - 2500
				x, client, ok := Post(b, v)
				next, wantClient, wantOK := m.post(v)
				if client != wantClient || ok != wantOK || !same(x, next.box()) {
					t.Fatalf("%d: Post(%v, %d): %v %d %v", i, b, v, x, client, ok)
				}
				if client != 0 {
					came = append(came, told{client, v})
				}
				b, m = x, next
			} else {
				client := int(seed>>20&7) + 1
				x, v, got, ok := Take(b, client)
				next, wantV, wantGot, wantOK := m.take(client)
				if v != wantV || got != wantGot || ok != wantOK || !same(x, next.box()) {
					t.Fatalf("%d: Take(%v, %d): %v %d %v %v", i, b, client, x, v, got, ok)
				}
				if got {
					came = append(came, told{client, v})
				}
				b, m = x, next
			}
		}
		wantCame(t, m, came)
	}
}

// wantCame asks that the letters came as they were posted, to the clients as they asked.
func wantCame(t *testing.T, m model, came []told) {
	t.Helper()
	n := min(len(m.posted), len(m.asked))
	if len(came) != n || n < 100 {
		t.Fatalf("%d came, want %d, 100 at least", len(came), n)
	}
	for i, c := range came {
		if want := (told{m.asked[i], m.posted[i]}); c != want {
			t.Fatalf("%d came: %v, want %v", i, c, want)
		}
	}
}

// wrong are boxes that no run from an empty one comes to.
func wrong() []api.Box {
	many, row := make([]int64, 3000), make([]int, 3000)
	for i := range many {
		many[i], row[i] = int64(i-7), i-7
	}
	return []api.Box{
		{L: []int64{5}, Wait: []int{7}},
		{L: []int64{5, 6, 7, 8}, Wait: []int{7, 3, 9, 1}},
		{L: []int64{0, 0}, Wait: []int{0, 0, 0}},
		letters(1, 2, 3, 4, 5), letters(many...), waiting(7, 3, 9, 1, 2), waiting(row...), {L: many, Wait: row},
		waiting(0), waiting(-1), waiting(0, 7), waiting(7, 0, -1), waiting(math.MinInt, math.MinInt+1, 0, math.MaxInt),
		waiting(7, 7), waiting(7, 7, 7, 7), waiting(7, 3, 7), waiting(0, 0), waiting(-2, -2, -2, -2, -2),
	}
}

// R1, R3: boxes that may not be: no panic, what is handed in stays, what is told is new memory.
func TestWrongBoxes(t *testing.T) {
	for _, b := range wrong() {
		for _, v := range []int64{0, 1, -1, least, greatest} {
			asked(t, b, func(in api.Box) []api.Box {
				x, _, _ := Post(in, v)
				return []api.Box{x}
			})
		}
		for _, client := range append([]int{1, 2, 3, 7, 9, 3000, math.MaxInt}, noClients...) {
			asked(t, b, func(in api.Box) []api.Box {
				x, _, _, _ := Take(in, client)
				return []api.Box{x}
			})
		}
		wantReset(t, b, b.Wait...)
	}
}

// P12.1: what stays plain of boxes that may not be: more than too many is too many, and a no tells the box as it was.
func TestBeyondFull(t *testing.T) {
	wantPost(t, letters(1, 2, 3, 4, 5), 6, letters(1, 2, 3, 4, 5), 0, false)
	wantGot(t, letters(1, 2, 3, 4, 5), 6, letters(2, 3, 4, 5), 1)
	wantNo(t, waiting(7, 3, 9, 1, 2), 4)
	wantNo(t, waiting(7, 3, 9, 1, 2), 2)
	wantPost(t, waiting(7, 3, 9, 1, 2), 6, waiting(3, 9, 1, 2), 7, true)
	wantNo(t, waiting(7, 7), 7)
	for _, b := range wrong() {
		for _, client := range noClients {
			wantNo(t, b, client)
		}
	}
}

// R3: what was told of a box does not change with that box, nor one answer with another one.
func TestKeepsNothing(t *testing.T) {
	l, w := letters(5, 6, 7, 8), waiting(7, 3, 9, 1)
	full, _, _ := Post(l, 9)
	rest, _, _, _ := Take(l, 1)
	gone, _, _ := Post(w, 9)
	no, _, _, _ := Take(w, 3)
	empty, who := Reset(w)
	spoil(l)
	spoil(w)
	rest.L[0], gone.Wait[0], who[0] = -1, -2, -3
	more, _, _ := Post(empty, 4)
	empty.Wait = append(empty.Wait, -4)
	if !same(full, letters(5, 6, 7, 8)) || !same(rest, letters(-1, 7, 8)) || !same(gone, waiting(-2, 9, 1)) || !same(no, waiting(7, 3, 9, 1)) {
		t.Errorf("%v %v %v %v", full, rest, gone, no)
	}
	if !slices.Equal(who, []int{-3, 3, 9, 1}) || !same(empty, waiting(-4)) || !same(more, letters(4)) {
		t.Errorf("%v %v %v", who, empty, more)
	}
}

// R3: two boxes that come of one share nothing: what goes into one's spare room is not in the other.
func TestBranches(t *testing.T) {
	l, _, _ := Post(letters(5, 6), 7)
	a, _, _ := Post(l, 8)
	b, _, _ := Post(l, 9)
	w, _, _, _ := Take(waiting(5, 6), 7)
	c, _, _, _ := Take(w, 8)
	d, _, _, _ := Take(w, 9)
	if !same(a, letters(5, 6, 7, 8)) || !same(b, letters(5, 6, 7, 9)) || !same(c, waiting(5, 6, 7, 8)) || !same(d, waiting(5, 6, 7, 9)) {
		t.Errorf("%v %v %v %v", a, b, c, d)
	}
}

// FuzzMbox: any bytes as a run of deeds, and as a box: no panic, and answers as the model has them.
func FuzzMbox(f *testing.F) {
	f.Add([]byte{}, int64(0), 0)
	f.Add([]byte{0, 5, 0, 6, 1, 7, 1, 7, 1, 3, 1, 9, 0, 1}, int64(greatest), 7)
	f.Add([]byte{1, 0, 1, 255, 1, 128, 0, 127}, int64(least), math.MinInt)
	f.Fuzz(func(t *testing.T, run []byte, v int64, client int) {
		var m model
		var wild api.Box
		for ; len(run) >= 2; run = run[2:] {
			n := int(int8(run[1]))
			if run[0]&1 == 0 {
				next, who, ok := m.post(int64(n))
				wantPost(t, m.box(), int64(n), next.box(), who, ok)
				m, wild.L = next, append(wild.L, int64(n))
			} else {
				next, l, got, ok := m.take(n)
				wantTake(t, m.box(), n, next.box(), l, got, ok)
				m, wild.Wait = next, append(wild.Wait, n)
			}
		}
		asked(t, wild, func(in api.Box) []api.Box {
			x, _, _ := Post(in, v)
			y, _, _, _ := Take(in, client)
			return []api.Box{x, y}
		})
		wantReset(t, wild, wild.Wait...)
	})
}
