package sample

import (
	"reflect"
	"slices"
	"testing"

	"foliot/api"
	"foliot/cost"
	"foliot/shape"
)

// Each word is read as it says.
func TestWords(t *testing.T) {
	got := Words(" s m  e k2 l1 u1 r2x13 ")
	if !slices.Equal(got, []api.Inst{{Op: api.Set, A: 2, N: -5}, {Op: api.Mark}, {}, {Op: api.Skip, A: 3, N: 2}, {Op: api.Lock, A: 1}, {Op: api.Unlock, A: 1}, {Op: api.Rep, B: 2, N: 13}}) {
		t.Error(got)
	}
	if got := Program("s"); !slices.Equal(got, Words("s e")) {
		t.Error(got)
	}
	if got := Repeated(3, "s"); len(Words("")) != 0 || !slices.Equal(Words(got), Words("s s s")) {
		t.Error(got)
	}
}

// What takes n ticks takes n ticks; what there is not is none.
func TestTicks(t *testing.T) {
	for n := 1; n <= 2000; n++ {
		l := Ticks(n)
		if c, ok := cost.Of(l); ok != (l != nil) || ok && c.All != int64(n) || !ok && n <= 42 {
			t.Errorf("%d: %v %v %v", n, l, c, ok)
		}
	}
	if c, ok := cost.Of(Ticks(Longest)); !ok || c.All != Longest {
		t.Error(c)
	}
}

// Programs of pieces may be; the same chance makes the same ones, and the same junk.
func TestPieces(t *testing.T) {
	c, again := Chance(1), Chance(1)
	for range 500 {
		s := Pieces(&c, 4)
		if s != Pieces(&again, 4) || !shape.May(Program(s)) {
			t.Error(s)
		}
		if !slices.Equal(Junk(&c), Junk(&again)) {
			t.Error("other junk")
		}
	}
}

// A row with room is the same row, in memory of its own, with something behind it.
func TestRoomy(t *testing.T) {
	l := []api.Task{{Rank: 1, Main: Program("s"), Way: Program(""), Opt: []api.Inst{}}}
	got := Roomy(l)
	if !slices.Equal(got[0].Main, l[0].Main) || !slices.Equal(got[0].Way, l[0].Way) || len(got[0].Opt) != 0 || len(got) != 1 || cap(got) < 2 {
		t.Error(got)
	}
	was := Memory(got)
	if !reflect.DeepEqual(was, Memory(got)) {
		t.Error("other memory")
	}
	got[0].Main[:cap(got[0].Main)][3].A++
	if reflect.DeepEqual(was, Memory(got)) || !slices.Equal(l[0].Main, Program("s")) {
		t.Error("its room does not count")
	}
}
