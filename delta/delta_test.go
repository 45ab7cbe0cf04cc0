package delta

import (
	"math"
	"slices"
	"testing"

	"foliot/api"
)

// row makes a row of pairs: After, Key.
func row(pairs ...int64) (l []Timer) {
	for i := 0; i+1 < len(pairs); i += 2 {
		l = append(l, Timer{After: pairs[i], Key: int(pairs[i+1])})
	}
	return l
}

// add is Add where there may be one.
func add(t *testing.T, l []Timer, in int64, key int) []Timer {
	t.Helper()
	next, ok := Add(l, in, key)
	if !ok {
		t.Fatalf("Add(%v, %d, %d): no", l, in, key)
	}
	return next
}

// drop is Drop where key must have one.
func drop(t *testing.T, l []Timer, key int) []Timer {
	t.Helper()
	next, ok := Drop(l, key)
	if !ok {
		t.Fatalf("Drop(%v, %d): no", l, key)
	}
	return next
}

// full has MaxDelta timers, of the keys from 0 on.
func full(t *testing.T) (l []Timer) {
	t.Helper()
	for i := range api.MaxDelta {
		l = add(t, l, int64(i%7), i)
	}
	return l
}

// checkDue ticks on through l, and holds what is due in each tick against want; nothing may be left then.
func checkDue(t *testing.T, l []Timer, want ...[]int) {
	t.Helper()
	was := l
	for i, w := range want {
		next, due := Tick(l)
		if !slices.Equal(due, w) {
			t.Errorf("%v, tick %d: %v, want %v", was, i+1, due, w)
		}
		l = next
	}
	if len(l) != 0 {
		t.Errorf("%v: %v is left", was, l)
	}
}

// P4.1, Add: ahead of, between and behind others, and behind those that come in the same tick.
func TestAdd(t *testing.T) {
	for _, x := range []struct {
		l    []Timer
		in   int64
		want []Timer
	}{
		{nil, 0, row(0, 9)},
		{[]Timer{}, 1, row(1, 9)},
		{nil, 5, row(5, 9)},
		{nil, api.MaxTime, row(api.MaxTime, 9)},
		{row(4, 1), 3, row(3, 9, 1, 1)},
		{row(4, 1), 4, row(4, 1, 0, 9)},
		{row(4, 1), 5, row(4, 1, 1, 9)},
		{row(4, 1), 0, row(0, 9, 4, 1)},
		{row(0, 1), 0, row(0, 1, 0, 9)},
		{row(0, 1, 0, 2, 1, 3), 0, row(0, 1, 0, 2, 0, 9, 1, 3)},
		{row(0, 1, 0, 2, 1, 3), 1, row(0, 1, 0, 2, 1, 3, 0, 9)},
		{row(1, 1), 0, row(0, 9, 1, 1)},
		{row(2, 1, 3, 2, 0, 3, 4, 4), 1, row(1, 9, 1, 1, 3, 2, 0, 3, 4, 4)},
		{row(2, 1, 3, 2, 0, 3, 4, 4), 2, row(2, 1, 0, 9, 3, 2, 0, 3, 4, 4)},
		{row(2, 1, 3, 2, 0, 3, 4, 4), 4, row(2, 1, 2, 9, 1, 2, 0, 3, 4, 4)},
		{row(2, 1, 3, 2, 0, 3, 4, 4), 5, row(2, 1, 3, 2, 0, 3, 0, 9, 4, 4)},
		{row(2, 1, 3, 2, 0, 3, 4, 4), 8, row(2, 1, 3, 2, 0, 3, 3, 9, 1, 4)},
		{row(2, 1, 3, 2, 0, 3, 4, 4), 9, row(2, 1, 3, 2, 0, 3, 4, 4, 0, 9)},
		{row(2, 1, 3, 2, 0, 3, 4, 4), 70, row(2, 1, 3, 2, 0, 3, 4, 4, 61, 9)},
		{row(api.MaxTime, 1), api.MaxTime, row(api.MaxTime, 1, 0, 9)},
		{row(api.MaxTime, 1), api.MaxTime - 1, row(api.MaxTime-1, 9, 1, 1)},
		{row(api.MaxTime-1, 1), api.MaxTime, row(api.MaxTime-1, 1, 1, 9)},
		{row(1<<61, 1, 1<<61, 2), api.MaxTime, row(1<<61, 1, 1<<61, 2, 0, 9)},
	} {
		if next, ok := Add(x.l, x.in, 9); !ok || !slices.Equal(next, x.want) {
			t.Errorf("Add(%v, %d, 9): %v %v, want %v", x.l, x.in, next, ok, x.want)
		}
	}
}

// P4.1: every int may be a key, also those that differ only far up or by their sign.
func TestEveryKey(t *testing.T) {
	all := []int{0, -1, 1, 1 << 32, -1 << 32, 1<<32 + 1, math.MaxInt, math.MinInt}
	var l []Timer
	for i, key := range all {
		if left, ok := Left(l, key); left != 0 || ok {
			t.Errorf("Left of %d: %d %v", key, left, ok)
		}
		l = add(t, l, int64(i), key)
	}
	for i, key := range all {
		if left, ok := Left(l, key); left != int64(i) || !ok {
			t.Errorf("Left of %d: %d %v", key, left, ok)
		}
		if _, ok := Add(l, 3, key); ok {
			t.Errorf("%d has one", key)
		}
	}
	for _, key := range all {
		l = drop(t, l, key)
	}
	if len(l) != 0 {
		t.Errorf("%v", l)
	}
}

// P4.1, Add: what may not be: no, and the row as it was.
func TestAddNo(t *testing.T) {
	l := row(0, 7, 2, -3, 0, 4, api.MaxTime-2, 5)
	for _, x := range []struct {
		in  int64
		key int
	}{
		{-1, 9}, {-2, 9}, {-api.MaxTime, 9}, {math.MinInt64, 9}, {math.MinInt64 + 1, 9},
		{api.MaxTime + 1, 9}, {api.MaxTime + 2, 9}, {math.MaxInt64, 9},
		{0, 7}, {1, 7}, {0, -3}, {2, -3}, {api.MaxTime, -3}, {2, 4}, {3, 5}, {api.MaxTime, 5},
		{-1, 7}, {math.MaxInt64, 5},
	} {
		for _, was := range [][]Timer{l, slices.Clone(l)[:len(l):len(l)]} {
			if next, ok := Add(was, x.in, x.key); ok || !slices.Equal(next, l) {
				t.Errorf("Add(%v, %d, %d): %v %v", was, x.in, x.key, next, ok)
			}
		}
	}
	for _, empty := range [][]Timer{nil, {}} {
		for _, in := range []int64{-1, math.MinInt64, api.MaxTime + 1, math.MaxInt64} {
			if next, ok := Add(empty, in, 0); ok || len(next) != 0 {
				t.Errorf("Add(none, %d): %v %v", in, next, ok)
			}
		}
	}
}

// P4.1, Add: MaxDelta in a row, and one more when one of them is gone.
func TestFull(t *testing.T) {
	l := full(t)
	for _, in := range []int64{0, 3, 6, 7, api.MaxTime} {
		if next, ok := Add(l, in, api.MaxDelta); ok || !slices.Equal(next, l) {
			t.Errorf("one more, in %d: %v %v", in, next, ok)
		}
	}
	less := drop(t, l, 31)
	if next := add(t, less, 3, 64); len(next) != api.MaxDelta {
		t.Errorf("%d", len(next))
	}
	want := make([][]int, 6)
	for i := range api.MaxDelta {
		if i%7 == 0 {
			want[0] = append(want[0], i)
		}
	}
	for in := 1; in < 7; in++ {
		for i := in; i < api.MaxDelta; i += 7 {
			want[in-1] = append(want[in-1], i)
		}
	}
	checkDue(t, l, want...)
	next, due := Tick(l)
	if len(due) != 19 || len(add(t, next, 3, 64)) != 46 {
		t.Errorf("%v", due)
	}
}

// P4.1, Tick: one less of the first that waits, and who is due.
func TestTick(t *testing.T) {
	for _, x := range []struct {
		l, want []Timer
		due     []int
	}{
		{nil, nil, nil},
		{[]Timer{}, nil, nil},
		{row(0, 1), nil, []int{1}},
		{row(1, 1), nil, []int{1}},
		{row(2, 1), row(1, 1), nil},
		{row(0, 1, 0, 2), nil, []int{1, 2}},
		{row(0, 2, 1, 1), nil, []int{2, 1}},
		{row(1, 2, 1, 1), row(1, 1), []int{2}},
		{row(0, 1, 2, 2), row(1, 2), []int{1}},
		{row(0, 3, 0, 1, 1, 2, 0, 5, 0, 4, 1, 6), row(1, 6), []int{3, 1, 2, 5, 4}},
		{row(2, 1, 0, 2, 0, 3), row(1, 1, 0, 2, 0, 3), nil},
		{row(3, 1, 1, 2), row(2, 1, 1, 2), nil},
		{row(api.MaxTime, 1), row(api.MaxTime-1, 1), nil},
		{row(0, 1, api.MaxTime, 2, 0, 3), row(api.MaxTime-1, 2, 0, 3), []int{1}},
	} {
		next, due := Tick(x.l)
		if !slices.Equal(next, x.want) || !slices.Equal(due, x.due) {
			t.Errorf("Tick(%v): %v %v, want %v %v", x.l, next, due, x.want, x.due)
		}
	}
}

// P4.1: the chapter's example, and in 0 and in 1: with the next Tick.
func TestComes(t *testing.T) {
	checkDue(t, add(t, nil, 2, 4), nil, []int{4})
	checkDue(t, add(t, nil, 0, 4), []int{4})
	checkDue(t, add(t, nil, 1, 4), []int{4})
	checkDue(t, add(t, add(t, nil, 1, 4), 0, 5), []int{5, 4})
	checkDue(t, add(t, add(t, nil, 0, 4), 1, 5), []int{4, 5})
	checkDue(t, add(t, add(t, add(t, nil, 3, 1), 3, 2), 3, 0), nil, nil, []int{1, 2, 0})
	checkDue(t, nil, nil, nil)
}

// P4.1, Add between Ticks: it comes in so many from then on.
func TestAddOnTheWay(t *testing.T) {
	l := add(t, nil, 3, 1)
	l, _ = Tick(l)
	l = add(t, l, 2, 2)
	l = add(t, l, 0, 3)
	l = add(t, l, 3, 4)
	checkDue(t, l, []int{3}, []int{1, 2}, []int{4})

	far, _ := Tick(add(t, nil, api.MaxTime, 1))
	far = add(t, far, api.MaxTime, 2)
	for key, want := range map[int]int64{1: api.MaxTime - 1, 2: api.MaxTime} {
		if left, ok := Left(far, key); left != want || !ok {
			t.Errorf("%d: %d %v", key, left, ok)
		}
	}
}

// P4.1: who was due may have another one.
func TestKeyAgain(t *testing.T) {
	l, due := Tick(add(t, add(t, nil, 1, 4), 2, 5))
	if !slices.Equal(due, []int{4}) {
		t.Fatalf("%v", due)
	}
	if _, ok := Left(l, 4); ok {
		t.Errorf("%v", l)
	}
	checkDue(t, add(t, l, 1, 4), []int{5, 4})
	checkDue(t, add(t, drop(t, l, 5), 2, 5), nil, []int{5})
}

// P4.1, Drop: from the front, the middle and the end: the others come as they would.
func TestDrop(t *testing.T) {
	l := row(1, 1, 2, 2, 0, 3, 1, 4)
	for _, x := range []struct {
		key  int
		want []Timer
		due  [][]int
	}{
		{1, row(3, 2, 0, 3, 1, 4), [][]int{nil, nil, {2, 3}, {4}}},
		{2, row(1, 1, 2, 3, 1, 4), [][]int{{1}, nil, {3}, {4}}},
		{3, row(1, 1, 2, 2, 1, 4), [][]int{{1}, nil, {2}, {4}}},
		{4, row(1, 1, 2, 2, 0, 3), [][]int{{1}, nil, {2, 3}}},
	} {
		next := drop(t, l, x.key)
		if !slices.Equal(next, x.want) {
			t.Errorf("Drop(%v, %d): %v, want %v", l, x.key, next, x.want)
		}
		checkDue(t, next, x.due...)
	}
	if next := drop(t, row(5, 1), 1); len(next) != 0 {
		t.Errorf("the only one: %v", next)
	}
	if next := drop(t, row(1, 1, api.MaxTime-1, 2), 1); !slices.Equal(next, row(api.MaxTime, 2)) {
		t.Errorf("to the end of time: %v", next)
	}
}

// P4.1, Drop and Left: a key that has none: no, and the row as it was.
func TestNone(t *testing.T) {
	for _, l := range [][]Timer{nil, {}, row(0, 1), row(1, 1, 2, 2, 0, 3), full(t)} {
		for _, key := range []int{-1, 64, 77, 1<<32 + 1, math.MaxInt, math.MinInt} {
			if next, ok := Drop(l, key); ok || !slices.Equal(next, l) {
				t.Errorf("Drop(%v, %d): %v %v", l, key, next, ok)
			}
			if left, ok := Left(l, key); left != 0 || ok {
				t.Errorf("Left(%v, %d): %d %v", l, key, left, ok)
			}
		}
	}
	if _, ok := Drop(drop(t, row(1, 1, 2, 2), 1), 1); ok {
		t.Error("dropped twice")
	}
}

// P4.1, Left: all that are ahead count.
func TestLeft(t *testing.T) {
	l := row(0, 5, 0, 6, 1, -9, 1, 2, 0, 7, 3, 1, api.MaxTime-5, 8)
	for key, want := range map[int]int64{5: 0, 6: 0, -9: 1, 2: 2, 7: 2, 1: 5, 8: api.MaxTime} {
		if left, ok := Left(l, key); left != want || !ok {
			t.Errorf("Left of %d: %d %v, want %d", key, left, ok, want)
		}
	}
}

// calls has each call on l, by name, in cases that change something and in others; it tells the rows that they tell.
func calls(l []Timer) map[string][]Timer {
	m := map[string][]Timer{}
	m["Add, front"], _ = Add(l, 0, 90)
	m["Add, between"], _ = Add(l, 2, 90)
	m["Add, end"], _ = Add(l, 1000, 90)
	m["Add, the last tick"], _ = Add(l, api.MaxTime, 90)
	m["Add, below 0"], _ = Add(l, -1, 90)
	m["Add, too far"], _ = Add(l, math.MaxInt64, 90)
	m["Add, has one"], _ = Add(l, 2, 1)
	m["Tick"], _ = Tick(l)
	for key := range 4 {
		m["Drop "+string(rune('0'+key))], _ = Drop(l, key)
	}
	m["Drop, none"], _ = Drop(l, 77)
	Left(l, 1)
	Left(l, 77)
	return m
}

// R3: what is handed in stays as it is, its spare room too, and what is told shares no memory with it.
func TestHandedInStays(t *testing.T) {
	for _, l := range [][]Timer{
		row(0, 1, 3, 2, 0, 3),
		row(2, 1, 1, 2, 4, 3),
		row(0, 1, 1, 2, 0, 3),
		full(t),
	} {
		for n := range len(l) + 1 {
			room := append(slices.Clone(l), row(70, 71, 72, 73)...)
			was := slices.Clone(room)
			for name, next := range calls(room[:n]) {
				for i := range next[:cap(next)] {
					next[:cap(next)][i] = Timer{After: -9, Key: -9}
				}
				if !slices.Equal(room, was) {
					t.Fatalf("%s of %v: %v", name, was[:n], room)
				}
			}
		}
	}
}

// R1: rows that may not be: no panic, and what is handed in stays.
func TestRowsThatMayNotBe(t *testing.T) {
	const top, low = math.MaxInt64, math.MinInt64
	long := make([]Timer, 1000)
	for i := range long {
		long[i] = Timer{After: int64(i % 3), Key: i}
	}
	for _, l := range [][]Timer{
		row(-1, 1), row(low, 1), row(low, 1, low, 2), row(0, 1, low, 2), row(3, 1, -2, 2, 0, 3),
		row(top, 1), row(top, 1, top, 2, top, 3), row(api.MaxTime, 1, 1, 2), row(top, 1, low, 2, top, 3),
		row(0, 1, 0, 1), row(1, 1, 2, 1, 3, 1), row(low, 1, top, 1, low, 1),
		long, append(full(t), Timer{After: 1, Key: 64}), make([]Timer, 70),
	} {
		was := slices.Clone(l)
		calls(l)
		if !slices.Equal(l, was) {
			t.Errorf("%v: %v", was, l)
		}
		if next, ok := Add(l, -1, 90); ok || !slices.Equal(next, was) {
			t.Errorf("Add(%v) below 0: %v %v", was, next, ok)
		}
		if next, ok := Add(l, 1, 1); ok || !slices.Equal(next, was) {
			t.Errorf("Add(%v) of one that is there: %v %v", was, next, ok)
		}
		if next, ok := Add(l, 1, 5000); len(l) >= api.MaxDelta && (ok || !slices.Equal(next, was)) {
			t.Errorf("Add(%v), there are MaxDelta: %v %v", was, next, ok)
		}
	}
}

// R4: the same again tells the same.
func TestSameAgain(t *testing.T) {
	l := full(t)
	first := calls(l)
	for range 20 {
		for name, next := range calls(l) {
			if !slices.Equal(next, first[name]) {
				t.Errorf("%s: %v, then %v", name, first[name], next)
			}
		}
	}
}

// clock is what a row must come to, by another road: each timer with its own count.
type clock []struct {
	left int64
	key  int
}

func (c clock) find(key int) int {
	for i, x := range c {
		if x.key == key {
			return i
		}
	}
	return -1
}

func (c clock) add(in int64, key int) (clock, bool) {
	if in < 0 || in > api.MaxTime || len(c) >= api.MaxDelta || c.find(key) >= 0 {
		return c, false
	}
	at := len(c)
	for at > 0 && c[at-1].left > in {
		at--
	}
	return slices.Insert(c, at, struct {
		left int64
		key  int
	}{in, key}), true
}

func (c clock) tick() (rest clock, due []int) {
	for _, x := range c {
		if x.left <= 1 {
			due = append(due, x.key)
			continue
		}
		x.left--
		rest = append(rest, x)
	}
	return rest, due
}

func (c clock) drop(key int) (clock, bool) {
	at := c.find(key)
	if at < 0 {
		return c, false
	}
	return slices.Delete(c, at, at+1), true
}

func checkRow(t *testing.T, l []Timer, c clock) {
	t.Helper()
	if len(l) != len(c) {
		t.Fatalf("%v, want %v", l, c)
	}
	for i, x := range c {
		left, ok := Left(l, x.key)
		if l[i].Key != x.key || l[i].After < 0 || left != x.left || !ok {
			t.Fatalf("%v, want %v: in %d", l, c, left)
		}
	}
}

// 'What follows': over long runs each comes just when it was to come.
func TestRuns(t *testing.T) {
	for run, r := range []struct {
		keys, far uint32
		ticks     uint32 // of 16 steps
	}{{4, 4, 4}, {10, 12, 5}, {40, 100, 6}, {90, 1000, 1}, {200, 3, 1}, {8, 2, 8}} {
		var l []Timer
		var c clock
		seed := uint32(run + 1)
		pick := func(n uint32) uint32 {
			seed = seed*1664525 + 1013904223
			return (seed >> 12) % n
		}
		for range 1500 {
			step, key := pick(16), int(pick(r.keys))-2
			var ok, want bool
			var due, wantDue []int
			switch {
			case step < r.ticks:
				l, due = Tick(l)
				c, wantDue = c.tick()
			case step < r.ticks+2:
				l, ok = Drop(l, key)
				c, want = c.drop(key)
			default:
				in := int64(pick(r.far+2)) - 1
				if pick(50) == 0 {
					in = api.MaxTime + int64(pick(5)) - 3
				}
				l, ok = Add(l, in, key)
				c, want = c.add(in, key)
			}
			if ok != want || !slices.Equal(due, wantDue) {
				t.Fatalf("%v %v, want %v %v", ok, due, want, wantDue)
			}
			checkRow(t, l, c)
		}
	}
}
