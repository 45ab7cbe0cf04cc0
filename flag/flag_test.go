package flag

import (
	"math"
	"slices"
	"testing"

	"foliot/api"
)

const (
	every = math.MaxUint32 // all flags
	last  = 1 << 31        // the last flag alone
)

// noClients are clients that there may not be.
var noClients = []int{0, -1, -2, -7, -1 << 32, math.MinInt + 1, math.MinInt}

// w is short for one that waits.
func w(client int, mask uint32) api.Waiter { return api.Waiter{Client: client, Mask: mask} }

// flags tells a flag with these bits, and these that wait.
func flags(set uint32, wait ...api.Waiter) api.Flag { return api.Flag{Bits: set, Wait: wait} }

// who tells several that are told, or that wait.
func who(l ...api.Waiter) []api.Waiter { return l }

// same tells whether the same bits are set and the same wait; nil and an empty list are one.
func same(a, b api.Flag) bool {
	return a.Bits == b.Bits && slices.Equal(a.Wait, b.Wait)
}

// clone tells f on memory of its own.
func clone(f api.Flag) api.Flag {
	return api.Flag{Bits: f.Bits, Wait: slices.Clone(f.Wait)}
}

// roomy tells a copy of f with three places behind its list that are not its own.
func roomy(f api.Flag) api.Flag {
	l := append(slices.Clone(f.Wait), w(81, every), w(82, 5), w(-83, 0))
	return api.Flag{Bits: f.Bits, Wait: l[:len(f.Wait)]}
}

// whole tells all that stands in the memory of f's list, spare room too.
func whole(f api.Flag) api.Flag {
	return api.Flag{Bits: f.Bits, Wait: f.Wait[:cap(f.Wait)]}
}

// spoil writes over all the memory of a list, spare room too.
func spoil[T any](l []T, by T) {
	l = l[:cap(l)]
	for at := range l {
		l[at] = by
	}
}

// lists are what a call told that has memory.
type lists struct {
	wait, told []api.Waiter
	who        []int
}

// asked asks of f as it is, with room behind its list and without, twice each, that what ask tells is right; that what was handed in stays as it was, and that what is told is no memory of anything else.
func asked(t *testing.T, f api.Flag, ask func(api.Flag) lists) {
	t.Helper()
	for _, in := range []api.Flag{roomy(f), clone(f), {Bits: f.Bits, Wait: slices.Clip(slices.Clone(f.Wait))}} {
		was := clone(whole(in))
		for range 2 {
			l := ask(in)
			told := slices.Clone(l.told)
			spoil(l.wait, w(-990, 1))
			if !slices.Equal(l.told, told) {
				t.Fatalf("%v: who waits and who is told share their memory", f)
			}
			spoil(l.told, w(-991, 2))
			spoil(l.who, -992)
			if !same(whole(in), was) {
				t.Fatalf("%v: handed in %v is %v", f, was, whole(in))
			}
		}
	}
}

// wantRaise asks that Raise of f answers so.
func wantRaise(t *testing.T, f api.Flag, mask uint32, want api.Flag, told ...api.Waiter) {
	t.Helper()
	asked(t, f, func(in api.Flag) lists {
		x, l := Raise(in, mask)
		if !same(x, want) || !slices.Equal(l, told) {
			t.Errorf("Raise(%v, %#x): %v %v, want %v %v", f, mask, x, l, want, told)
		}
		return lists{wait: x.Wait, told: l}
	})
}

// wantAwait asks that Await of f answers so.
func wantAwait(t *testing.T, f api.Flag, client int, mask uint32, want api.Flag, got uint32, ok bool) {
	t.Helper()
	asked(t, f, func(in api.Flag) lists {
		x, g, o := Await(in, client, mask)
		if !same(x, want) || g != got || o != ok {
			t.Errorf("Await(%v, %d, %#x): %v %#x %v, want %v %#x %v", f, client, mask, x, g, o, want, got, ok)
		}
		return lists{wait: x.Wait}
	})
}

// wantGot asks that the client gets these bits, that the others stay, and that who waits does.
func wantGot(t *testing.T, f api.Flag, client int, mask uint32, left, got uint32) {
	t.Helper()
	wantAwait(t, f, client, mask, flags(left, f.Wait...), got, true)
}

// wantWaits asks that the client waits behind the others, and that no bit changes.
func wantWaits(t *testing.T, f api.Flag, client int, mask uint32) {
	t.Helper()
	wantAwait(t, f, client, mask, flags(f.Bits, append(slices.Clone(f.Wait), w(client, mask))...), 0, true)
}

// wantNo asks that Await says no, and that f comes back as it was.
func wantNo(t *testing.T, f api.Flag, client int, mask uint32) {
	t.Helper()
	wantAwait(t, f, client, mask, f, 0, false)
}

// wantReset asks that no bit is left and nobody, and that these are told as who waited.
func wantReset(t *testing.T, f api.Flag, clients ...int) {
	t.Helper()
	asked(t, f, func(in api.Flag) lists {
		x, l := Reset(in)
		if !same(x, api.Flag{}) || !slices.Equal(l, clients) {
			t.Errorf("Reset(%v): %v %v, want %v", f, x, l, clients)
		}
		return lists{wait: x.Wait, who: l}
	})
}

// P13.1, Raise: nobody waits: the bits are set, too, and nobody is told.
func TestRaise(t *testing.T) {
	wantRaise(t, flags(0), 1, flags(1))
	wantRaise(t, flags(0), 6, flags(6))
	wantRaise(t, flags(1), 6, flags(7))
	wantRaise(t, flags(5), 2, flags(7))
	wantRaise(t, flags(1<<16), 1<<15, flags(3<<15))
	wantRaise(t, flags(last), 1, flags(last|1))
}

// P13.1, Raise: bits that are set already stay so, and are no more than set.
func TestRaiseAgain(t *testing.T) {
	wantRaise(t, flags(1), 1, flags(1))
	wantRaise(t, flags(6), 3, flags(7))
	wantRaise(t, flags(7), 2, flags(7))
	wantRaise(t, flags(last|1), last, flags(last|1))
	wantRaise(t, flags(every), every, flags(every))
	wantRaise(t, flags(every), 1<<9, flags(every))
	wantRaise(t, flags(5, w(7, 2)), 5, flags(5, w(7, 2)))
	wantRaise(t, flags(5, w(7, 2)), 7, flags(5), w(7, 2))
}

// P13.1, Raise: a mask of 0 sets nothing and tells nobody.
func TestRaiseNothing(t *testing.T) {
	for _, f := range []api.Flag{flags(0), flags(1), flags(every), flags(0, w(7, 1)), flags(0, w(7, every), w(1, every)), flags(6, w(7, 1), w(3, last))} {
		wantRaise(t, f, 0, f)
	}
}

// P13.1, Raise: all 32 bits, the first and the last, each alone: set, told, and awaited.
func TestEachBit(t *testing.T) {
	for at := range 32 {
		bit := uint32(1) << at
		wantRaise(t, flags(0), bit, flags(bit))
		wantRaise(t, flags(every&^bit), bit, flags(every))
		wantRaise(t, flags(0, w(7, bit)), bit, flags(0), w(7, bit))
		wantRaise(t, flags(0, w(7, bit)), every, flags(every&^bit), w(7, bit))
		wantRaise(t, flags(0, w(7, every)), bit, flags(0), w(7, bit))
		wantRaise(t, flags(0, w(7, bit)), every&^bit, flags(every&^bit, w(7, bit)))
		wantRaise(t, flags(0, w(7, every&^bit)), bit, flags(bit, w(7, every&^bit)))
		wantGot(t, flags(bit), 7, bit, 0, bit)
		wantGot(t, flags(every), 7, bit, every&^bit, bit)
		wantGot(t, flags(bit), 7, every, 0, bit)
		wantWaits(t, flags(every&^bit), 7, bit)
		wantWaits(t, flags(bit), 7, every&^bit)
		wantWaits(t, flags(0), 7, bit)
	}
	wantRaise(t, flags(0), every, flags(every))
	wantRaise(t, flags(0, w(7, every)), every, flags(0), w(7, every))
	wantGot(t, flags(every), 7, every, 0, every)
	wantWaits(t, flags(0), 7, every)
}

// P13.1, Raise: one waits: it is told those of its Mask that are set, they are set no more, and it waits no more; the others stay.
func TestRaiseTells(t *testing.T) {
	wantRaise(t, flags(0, w(7, 1)), 1, flags(0), w(7, 1))
	wantRaise(t, flags(0, w(7, 6)), 2, flags(0), w(7, 2))
	wantRaise(t, flags(0, w(7, 6)), 4, flags(0), w(7, 4))
	wantRaise(t, flags(0, w(7, 6)), 6, flags(0), w(7, 6))
	wantRaise(t, flags(0, w(7, 6)), 15, flags(9), w(7, 6))
	wantRaise(t, flags(0, w(7, 14)), 21, flags(17), w(7, 4))
	wantRaise(t, flags(8, w(7, 6)), 3, flags(9), w(7, 2))
	wantRaise(t, flags(8, w(7, 6)), 1, flags(9, w(7, 6)))
	wantRaise(t, flags(0, w(1, last)), last, flags(0), w(1, last))
	wantRaise(t, flags(0, w(math.MaxInt, 1)), 1, flags(0), w(math.MaxInt, 1))
}

// P13.1, Raise: several wait for one bit: the first of them is told alone, whatever its number; the others wait on, as they came.
func TestRaiseToTheFirst(t *testing.T) {
	wantRaise(t, flags(0, w(7, 4), w(3, 4)), 4, flags(0, w(3, 4)), w(7, 4))
	wantRaise(t, flags(0, w(3, 4), w(7, 4)), 4, flags(0, w(7, 4)), w(3, 4))
	wantRaise(t, flags(0, w(9, 4), w(3, 4), w(7, 4)), 4, flags(0, w(3, 4), w(7, 4)), w(9, 4))
	wantRaise(t, flags(0, w(9, 2), w(3, 4), w(7, 4)), 4, flags(0, w(9, 2), w(7, 4)), w(3, 4))
	wantRaise(t, flags(0, w(9, 2), w(3, 1), w(7, 4), w(1, 4)), 4, flags(0, w(9, 2), w(3, 1), w(1, 4)), w(7, 4))
	wantRaise(t, flags(0, w(9, 2), w(3, 1), w(7, 8), w(1, 4)), 4, flags(0, w(9, 2), w(3, 1), w(7, 8)), w(1, 4))
	wantRaise(t, flags(0, w(8, 1), w(4, 1), w(2, 1), w(1, 1)), 3, flags(2, w(4, 1), w(2, 1), w(1, 1)), w(8, 1))
	wantRaise(t, flags(0, w(math.MaxInt, last), w(1, last)), last, flags(0, w(1, last)), w(math.MaxInt, last))
}

// P13.1, Raise: several wait for unlike bits: each of whose Mask one is set is told, in order; the others wait on.
func TestRaiseToSeveral(t *testing.T) {
	wantRaise(t, flags(0, w(7, 1), w(3, 2)), 3, flags(0), w(7, 1), w(3, 2))
	wantRaise(t, flags(0, w(7, 2), w(3, 1)), 3, flags(0), w(7, 2), w(3, 1))
	wantRaise(t, flags(0, w(7, last), w(3, 1)), last|1, flags(0), w(7, last), w(3, 1))
	wantRaise(t, flags(0, w(7, 1), w(3, 2), w(9, 4)), 5, flags(0, w(3, 2)), w(7, 1), w(9, 4))
	wantRaise(t, flags(0, w(7, 1), w(3, 2), w(9, 4)), 2, flags(0, w(7, 1), w(9, 4)), w(3, 2))
	wantRaise(t, flags(0, w(7, 1), w(3, 2), w(9, 4)), 8, flags(8, w(7, 1), w(3, 2), w(9, 4)))
	wantRaise(t, flags(16, w(7, 8), w(3, 4), w(9, 2), w(1, 1)), 47, flags(48), w(7, 8), w(3, 4), w(9, 2), w(1, 1))
	wantRaise(t, flags(0, w(4, 8), w(3, 4), w(2, 2), w(1, 1)), every, flags(every&^15), w(4, 8), w(3, 4), w(2, 2), w(1, 1))
}

// P13.1, Raise: what one ahead is told is set no more for those behind it: these are told what is left of theirs, or wait on.
func TestRaiseTakesAway(t *testing.T) {
	wantRaise(t, flags(0, w(7, 3), w(3, 6)), 7, flags(0), w(7, 3), w(3, 4))
	wantRaise(t, flags(0, w(3, 6), w(7, 3)), 7, flags(0), w(3, 6), w(7, 1))
	wantRaise(t, flags(0, w(7, 3), w(3, 6)), 2, flags(0, w(3, 6)), w(7, 2))
	wantRaise(t, flags(0, w(7, 3), w(3, 6)), 3, flags(0, w(3, 6)), w(7, 3))
	wantRaise(t, flags(0, w(7, 3), w(3, 6)), 4, flags(0, w(7, 3)), w(3, 4))
	wantRaise(t, flags(0, w(7, 3), w(3, 3), w(9, 7)), 7, flags(0, w(3, 3)), w(7, 3), w(9, 4))
	wantRaise(t, flags(0, w(7, every), w(3, 1)), 5, flags(0, w(3, 1)), w(7, 5))
	wantRaise(t, flags(0, w(3, 1), w(7, every)), 5, flags(0), w(3, 1), w(7, 4))
	wantRaise(t, flags(0, w(3, 1), w(7, every), w(5, every), w(2, last)), every, flags(0, w(5, every), w(2, last)), w(3, 1), w(7, every-1))
	wantRaise(t, flags(0, w(1, 12), w(2, 10), w(3, 6), w(4, 1)), 14, flags(0, w(3, 6), w(4, 1)), w(1, 12), w(2, 2))
}

// P13.1, Await: one of mask is set: those that are, and they are set no more; whoever gets them does not wait.
func TestAwait(t *testing.T) {
	wantGot(t, flags(1), 7, 1, 0, 1)
	wantGot(t, flags(7), 7, 2, 5, 2)
	wantGot(t, flags(7), 7, 6, 1, 6)
	wantGot(t, flags(7), 7, 7, 0, 7)
	wantGot(t, flags(7), 1, 12, 3, 4)
	wantGot(t, flags(5), 1, 30, 1, 4)
	wantGot(t, flags(last|1), 3, last, 1, last)
	wantGot(t, flags(last|1), 3, 1, last, 1)
	wantGot(t, flags(0xF0F0F0F0), math.MaxInt, 0x33333333, 0xC0C0C0C0, 0x30303030)
	wantGot(t, flags(1, w(7, 2), w(3, 4)), 9, 1, 0, 1)
	wantGot(t, flags(9, w(7, 2), w(3, 4)), 9, 15, 0, 9)
}

// P13.1, Await: none of mask is set: the client waits, behind the others; up to MaxWait.
func TestAwaitWaits(t *testing.T) {
	wantWaits(t, flags(0), 7, 1)
	wantWaits(t, flags(0), 1, 6)
	wantWaits(t, flags(5), 7, 2)
	wantWaits(t, flags(5), 7, every&^5)
	wantWaits(t, flags(0), math.MaxInt, last)
	wantWaits(t, flags(0, w(7, 1)), 3, 1)
	wantWaits(t, flags(0, w(3, 1)), 7, 1)
	wantWaits(t, flags(0, w(7, 1)), 3, 2)
	wantWaits(t, flags(8, w(7, 1), w(3, 2)), 9, 4)
	wantWaits(t, flags(0, w(7, 1), w(3, 2), w(9, 3)), 1, every)
	wantWaits(t, flags(0, w(1, 1), w(2, 1), w(3, 1)), 4, 1)
	wantWaits(t, flags(0, w(1<<32+5, 1)), 5, 1)
	wantWaits(t, flags(0, w(math.MaxInt, 1)), math.MaxInt-1, 1)
	wantWaits(t, flags(0, w(9, 7), w(8, 7)), 7, 9)
}

// P13.1, Await: no, if the client waits already, wherever it stands and for whatever; the last of a row of MaxWait too.
func TestAwaitWaitsAlready(t *testing.T) {
	for _, row := range [][]api.Waiter{
		{w(7, 1)}, {w(1, 1)}, {w(math.MaxInt, last)}, {w(7, 1), w(3, 2)}, {w(7, 1), w(3, 1), w(9, 6)},
		{w(7, 1), w(3, 2), w(9, 4), w(1, 8)}, {w(1, 8), w(math.MaxInt, 1), w(2, 6), w(1<<40, last)},
	} {
		for _, x := range row {
			for _, mask := range []uint32{1, 2, 4, 8, 6, 15, last, every &^ 16} {
				wantNo(t, flags(0, row...), x.Client, mask)
				wantNo(t, flags(16, row...), x.Client, mask)
			}
		}
	}
}

// P13.1, Await: a client that waits already, one of whose mask is set: it gets those, and waits on for what it waits; in a row of MaxWait too.
func TestAwaitBesideWaiting(t *testing.T) {
	rows := [][]api.Waiter{{w(7, 1)}, {w(3, 4), w(7, 1)}, {w(7, 1), w(3, 2), w(9, 4), w(1, 8)}, {w(9, 4), w(3, 3), w(1, 1), w(7, 8)}}
	for _, row := range rows {
		wantGot(t, flags(16, row...), 7, 16, 0, 16)
		wantGot(t, flags(48, row...), 7, 31, 32, 16)
		wantGot(t, flags(last|32, row...), 7, every, 0, last|32)
	}
	wantGot(t, flags(last, rows[2]...), 2, last, 0, last)
	wantGot(t, flags(last|16, rows[2]...), 2, 31, last, 16)
}

// P13.1, Await: no, if MaxWait wait and none of mask is set; one less is not too many.
func TestAwaitFull(t *testing.T) {
	full := who(w(7, 1), w(3, 6), w(9, 1), w(1, last))
	if len(full) != api.MaxWait {
		t.Fatal("another limit")
	}
	for _, client := range []int{2, 4, 5, 6, 8, 10, 81, 82, 1 << 32, math.MaxInt - 1, math.MaxInt} {
		for _, mask := range []uint32{1, 2, 6, last, 16, every &^ 32} {
			wantNo(t, flags(0, full...), client, mask)
			wantNo(t, flags(32, full...), client, mask)
			wantWaits(t, flags(32, full[:3]...), client, mask)
			wantWaits(t, flags(32, full[1:]...), client, mask)
			wantGot(t, flags(32, full...), client, mask|32, 0, 32)
		}
	}
}

// P13.1, Await: no, if the client is 0 or below, or mask is 0, whatever is set and whoever waits.
func TestNoClientNoMask(t *testing.T) {
	full := who(w(7, 1), w(3, 6), w(9, 1), w(1, last))
	for _, f := range []api.Flag{flags(0), flags(1), flags(every), flags(0, full[0]), flags(8, full[:2]...), flags(8, full[:3]...), flags(0, full...), flags(8, full...)} {
		for _, client := range noClients {
			for _, mask := range []uint32{0, 1, 8, last, every} {
				wantNo(t, f, client, mask)
			}
		}
		for _, client := range []int{1, 2, 3, 7, 9, 1 << 32, math.MaxInt} {
			wantNo(t, f, client, 0)
		}
	}
}

// P13.1, Reset: no bit, nobody; who waited, as they came.
func TestReset(t *testing.T) {
	wantReset(t, api.Flag{})
	wantReset(t, flags(1))
	wantReset(t, flags(last))
	wantReset(t, flags(every))
	wantReset(t, flags(0, w(7, 1)), 7)
	wantReset(t, flags(0, w(7, 1), w(3, 1)), 7, 3)
	wantReset(t, flags(4, w(3, 1), w(7, 2), w(1, 3)), 3, 7, 1)
	wantReset(t, flags(4, w(1, last), w(9, 1), w(math.MaxInt, 3), w(7, 1)), 1, 9, math.MaxInt, 7)
}

// P13.1, Reset: what is told is as it is new: bits and clients come in again.
func TestAfterReset(t *testing.T) {
	for _, f := range []api.Flag{flags(every), flags(0, w(7, 1), w(3, 6), w(9, 1), w(1, last)), flags(8, w(7, 1)), {}} {
		x, _ := Reset(f)
		wantRaise(t, x, every, flags(every))
		wantWaits(t, x, 7, every)
		wantNo(t, x, 0, every)
		wantReset(t, x)
	}
}

// R3, P13.1: nil and an empty list are one.
func TestEmptyLists(t *testing.T) {
	for _, f := range []api.Flag{{}, {Wait: []api.Waiter{}}, {Wait: make([]api.Waiter, 0, 9)}} {
		if x, told := Raise(f, 5); !same(x, flags(5)) || len(told) != 0 {
			t.Errorf("Raise: %v %v", x, told)
		}
		if x, got, ok := Await(f, 7, 5); !same(x, flags(0, w(7, 5))) || got != 0 || !ok {
			t.Errorf("Await: %v %d %v", x, got, ok)
		}
		if x, got, ok := Await(f, 0, 5); !same(x, api.Flag{}) || got != 0 || ok {
			t.Errorf("Await of nobody: %v %d %v", x, got, ok)
		}
		if x, clients := Reset(f); !same(x, api.Flag{}) || len(clients) != 0 {
			t.Errorf("Reset: %v %v", x, clients)
		}
	}
}

// P13.1: the chapter's example: Await, Raise: told.
func TestAwaited(t *testing.T) {
	f, got, ok := Await(api.Flag{}, 3, 12)
	if got != 0 || !ok {
		t.Fatalf("%d %v", got, ok)
	}
	wantRaise(t, f, 6, flags(2), w(3, 4))
	f, told := Raise(api.Flag{}, 6)
	if len(told) != 0 {
		t.Fatalf("%v", told)
	}
	wantGot(t, f, 3, 12, 2, 4)
}

// raised tells what Raise must answer, one that waits at a time, as the promise's words go.
func raised(f api.Flag, mask uint32) (next api.Flag, told []api.Waiter) {
	next.Bits = f.Bits | mask
	for _, x := range f.Wait {
		if next.Bits&x.Mask == 0 {
			next.Wait = append(next.Wait, x)
			continue
		}
		told = append(told, w(x.Client, next.Bits&x.Mask))
		next.Bits &^= x.Mask
	}
	return next, told
}

// awaited tells what Await must answer.
func awaited(f api.Flag, client int, mask uint32) (next api.Flag, got uint32, ok bool) {
	switch {
	case client <= 0 || mask == 0:
		return f, 0, false
	case f.Bits&mask != 0:
		return flags(f.Bits&^mask, f.Wait...), f.Bits & mask, true
	case len(f.Wait) >= api.MaxWait:
		return f, 0, false
	}
	for _, x := range f.Wait {
		if x.Client == client {
			return f, 0, false
		}
	}
	return flags(f.Bits, append(slices.Clone(f.Wait), w(client, mask))...), 0, true
}

// state is a flag as a key.
type state struct {
	set  uint32
	n    int
	wait [api.MaxWait]api.Waiter
}

// at tells which state f is in.
func at(f api.Flag) state {
	s := state{set: f.Bits, n: len(f.Wait)}
	copy(s.wait[:], f.Wait)
	return s
}

// reached goes through all that flags of masks and clients 1 to n come to, and tells how many states there are.
func reached(t *testing.T, masks []uint32, clients int) int {
	t.Helper()
	seen := map[state]bool{}
	work := []api.Flag{{}}
	for len(work) > 0 {
		f := work[0]
		work = work[1:]
		if s := at(f); !seen[s] {
			seen[s] = true
			work = append(work, deeds(t, f, masks, clients)...)
		}
	}
	return len(seen)
}

// deeds does each thing that there is at f, and tells what came of it.
func deeds(t *testing.T, f api.Flag, masks []uint32, clients int) []api.Flag {
	t.Helper()
	var out []api.Flag
	for _, mask := range masks {
		next, told := raised(f, mask)
		wantRaise(t, f, mask, next, told...)
		out = append(out, next)
		for client := -1; client <= clients; client++ {
			next, got, ok := awaited(f, client, mask)
			wantAwait(t, f, client, mask, next, got, ok)
			out = append(out, next)
		}
	}
	var waited []int
	for _, x := range f.Wait {
		waited = append(waited, x.Client)
	}
	wantReset(t, f, waited...)
	return out
}

// What follows: from all that two flags and five clients come to, each deed answers as the words have it, and leads to what they have. Nobody waits for what is set.
func TestAllFlags(t *testing.T) {
	// Rows of clients of five that differ, by how many: 1, 5, 20, 60, 120; each waits in one of three ways if nothing is set, in one way if one flag is, and not at all if both are.
	want := 1 + 5*3 + 20*9 + 60*27 + 120*81 + 2*(1+5+20+60+120) + 1
	if n := reached(t, []uint32{0, 1, last, last | 1}, 5); n != want {
		t.Errorf("%d states, want %d", n, want)
	}
}

// What follows: the same of three flags and three clients.
func TestThreeFlags(t *testing.T) {
	// Rows of clients of three that differ: 1, 3, 6, 6; each waits in so many ways as there are masks of flags that are not set: 7, 3, 1, 0.
	rows := func(ways int) int { return 1 + 3*ways + 6*ways*ways + 6*ways*ways*ways }
	var masks []uint32
	for i := range uint32(8) {
		masks = append(masks, i&1|i>>1&1<<13|i>>2<<30)
	}
	if n, want := reached(t, masks, 3), rows(7)+3*rows(3)+3*rows(1)+rows(0); n != want {
		t.Errorf("%d states, want %d", n, want)
	}
}

// ledger has, of a run from new flags, for which each client waits, and how often each flag was raised while it was not there, and was told.
type ledger struct {
	waits        map[int]uint32
	raised, told [32]int
}

// raise writes down that mask was raised with f there, and who was told.
func (l *ledger) raise(t *testing.T, f api.Flag, mask uint32, told []api.Waiter) {
	t.Helper()
	for i := range 32 {
		if mask&^f.Bits>>i&1 != 0 {
			l.raised[i]++
		}
	}
	for _, x := range told {
		mask, is := l.waits[x.Client]
		if !is || x.Mask == 0 || x.Mask&^mask != 0 {
			t.Fatalf("%v is told, and waits for %#x (%v)", x, mask, is)
		}
		delete(l.waits, x.Client)
		l.tell(x.Mask)
	}
}

// tell writes down that these flags were told.
func (l *ledger) tell(mask uint32) {
	for i := range 32 {
		if mask>>i&1 != 0 {
			l.told[i]++
		}
	}
}

// holds asks that each flag that was raised was told once or is there, and that those wait who were not told, none for what is there.
func (l *ledger) holds(t *testing.T, f api.Flag) {
	t.Helper()
	for i := range 32 {
		if l.raised[i] != l.told[i]+int(f.Bits>>i&1) {
			t.Fatalf("flag %d: raised %d, told %d, there %d", i, l.raised[i], l.told[i], f.Bits>>i&1)
		}
	}
	if len(f.Wait) != len(l.waits) {
		t.Fatalf("%v wait, want %v", f.Wait, l.waits)
	}
	for _, x := range f.Wait {
		if mask, is := l.waits[x.Client]; !is || mask != x.Mask || x.Mask&f.Bits != 0 {
			t.Fatalf("%v waits, want %#x, with %#x there", x, mask, f.Bits)
		}
	}
}

// random tells the number behind seed, of which the upper bits are as good as chance.
func random(seed uint64) uint64 { return seed*6364136223846793005 + 1442695040888963407 }

// mask tells a mask of all the first n flags, or of a half, a quarter, an eighth of them or so; of none now and then.
func mask(seed uint64, n int) uint32 {
	m := uint32(1)<<n - 1
	for range seed >> 40 & 3 {
		seed = random(seed)
		m &= uint32(seed >> 32)
	}
	return m
}

// What follows: in a long run of raises and awaits, each flag that was raised is told once at most, to one who waits for it, and is else there.
func TestLongRun(t *testing.T) {
	for _, n := range []int{1, 2, 5, 16, 32} {
		for _, raises := range []uint64{2, 6, 10, 14} { // of sixteen deeds
			f, l, seed := api.Flag{}, ledger{waits: map[int]uint32{}}, uint64(n)*100+raises
			for range 3000 {
				seed = random(seed)
				m := mask(seed, n)
				if seed>>60 < raises {
					next, told := Raise(f, m)
					l.raise(t, f, m, told)
					f = next
				} else {
					f = l.await(t, f, int(seed>>55&7), m)
				}
				l.holds(t, f)
			}
			if n > 1 && slices.Max(l.told[:]) < 50 {
				t.Errorf("of %d flags with %d raises none was told often: %v", n, raises, l.told)
			}
		}
	}
}

// await does an Await of f, writes it down, and tells what f is then.
func (l *ledger) await(t *testing.T, f api.Flag, client int, mask uint32) api.Flag {
	t.Helper()
	next, got, ok := Await(f, client, mask)
	_, waits := l.waits[client]
	room := len(l.waits) < api.MaxWait && !waits
	switch {
	case client <= 0 || mask == 0 || f.Bits&mask == 0 && !room:
		if ok || got != 0 || !same(next, f) {
			t.Fatalf("Await(%v, %d, %#x): %v %#x %v, want no", f, client, mask, next, got, ok)
		}
	case f.Bits&mask == 0:
		if !ok || got != 0 {
			t.Fatalf("Await(%v, %d, %#x): %v %#x %v, want it to wait", f, client, mask, next, got, ok)
		}
		l.waits[client] = mask
	default:
		if !ok || got != f.Bits&mask {
			t.Fatalf("Await(%v, %d, %#x): %v %#x %v, want %#x", f, client, mask, next, got, ok, f.Bits&mask)
		}
		l.tell(got)
	}
	return next
}

// wrong are flags that no run from new ones comes to.
func wrong() []api.Flag {
	many, nobody, one := make([]api.Waiter, 3000), make([]api.Waiter, 3000), make([]api.Waiter, 3000)
	for i := range many {
		many[i] = w(i-7, uint32(i)*2654435761)
		one[i] = w(7, uint32(1)<<(i%32))
	}
	return []api.Flag{
		flags(1, w(7, 1)), flags(every, w(7, every)), flags(6, w(7, 3), w(3, 4)), flags(last, w(7, 1), w(3, last), w(9, last)),
		flags(0, w(7, 1), w(3, 2), w(9, 4), w(1, 8), w(2, 16)), flags(0, many...), flags(every, many...), flags(0, nobody...), flags(5, nobody...), flags(0, one...), flags(every, one...),
		flags(0, w(7, 0)), flags(1, w(7, 0)), flags(1, w(7, 0), w(3, 1), w(9, 0)), flags(every, w(1, 0), w(2, 0), w(3, 0), w(4, 0), w(5, 0)),
		flags(0, w(0, 1)), flags(0, w(-1, 1), w(0, last)), flags(3, w(math.MinInt, 1), w(math.MinInt+1, 2), w(0, 4), w(math.MaxInt, 8)),
		flags(0, w(7, 1), w(7, 1)), flags(0, w(7, 1), w(7, 2), w(7, 4), w(7, 8)), flags(2, w(7, 1), w(3, 2), w(7, 2)), flags(0, w(0, 0), w(0, 0)), flags(0, w(-2, 1), w(-2, 1), w(-2, 1), w(-2, 1), w(-2, 1)),
	}
}

// R1, R3: flags that may not be: no panic, what is handed in stays, what is told is new memory.
func TestWrongFlags(t *testing.T) {
	for _, f := range wrong() {
		for _, mask := range []uint32{0, 1, 2, 6, last, every} {
			asked(t, f, func(in api.Flag) lists {
				x, told := Raise(in, mask)
				return lists{wait: x.Wait, told: told}
			})
			for _, client := range append([]int{1, 2, 3, 7, 9, 3000, math.MaxInt}, noClients...) {
				asked(t, f, func(in api.Flag) lists {
					x, _, _ := Await(in, client, mask)
					return lists{wait: x.Wait}
				})
			}
		}
		var waited []int
		for _, x := range f.Wait {
			waited = append(waited, x.Client)
		}
		wantReset(t, f, waited...)
	}
}

// P13.1: what stays plain of flags that may not be: each deed is as its words have it.
func TestBeyondLimits(t *testing.T) {
	for _, f := range wrong() {
		for _, mask := range []uint32{0, 1, 2, 6, last, every} {
			next, told := raised(f, mask)
			wantRaise(t, f, mask, next, told...)
			for _, client := range append([]int{1, 2, 3, 7, 9, 3000, math.MaxInt}, noClients...) {
				next, got, ok := awaited(f, client, mask)
				wantAwait(t, f, client, mask, next, got, ok)
			}
		}
	}
	wantRaise(t, flags(1, w(7, 1)), 0, flags(0), w(7, 1))
	wantRaise(t, flags(0, w(7, 0)), every, flags(every, w(7, 0)))
	wantRaise(t, flags(0, w(7, 1), w(7, 3)), 3, flags(0), w(7, 1), w(7, 2))
	wantRaise(t, flags(0, w(0, 1), w(-1, 1)), 1, flags(0, w(-1, 1)), w(0, 1))
	wantNo(t, flags(0, w(7, 1), w(3, 2), w(9, 4), w(1, 8), w(2, 16)), 4, 1)
	wantGot(t, flags(32, w(7, 1), w(3, 2), w(9, 4), w(1, 8), w(2, 16)), 4, 33, 0, 32)
}

// R3: what was told of flags does not change with these, nor one answer with another one.
func TestKeepsNothing(t *testing.T) {
	f := flags(16, w(7, 1), w(3, 2), w(9, 4), w(1, 8))
	up, told := Raise(f, 5)
	none, _ := Raise(f, 0)
	gone, _, _ := Await(f, 2, 16)
	no, _, _ := Await(f, 3, 8)
	empty, clients := Reset(f)
	spoil(f.Wait, w(-990, 1))
	up.Wait[0], told[0], gone.Wait[0], clients[0] = w(-1, 1), w(-2, 2), w(-3, 3), -4
	more, _, _ := Await(empty, 5, 5)
	empty.Wait = append(empty.Wait, w(-6, 6))
	if !same(up, flags(16, w(-1, 1), w(1, 8))) || !slices.Equal(told, who(w(-2, 2), w(9, 4))) || !same(none, flags(16, w(7, 1), w(3, 2), w(9, 4), w(1, 8))) {
		t.Errorf("%v %v %v", up, told, none)
	}
	if !same(gone, flags(0, w(-3, 3), w(3, 2), w(9, 4), w(1, 8))) || !same(no, flags(16, w(7, 1), w(3, 2), w(9, 4), w(1, 8))) {
		t.Errorf("%v %v", gone, no)
	}
	if !slices.Equal(clients, []int{-4, 3, 9, 1}) || !same(empty, flags(0, w(-6, 6))) || !same(more, flags(0, w(5, 5))) {
		t.Errorf("%v %v %v", clients, empty, more)
	}
}

// R3: two that come of one share nothing: who goes into one's spare room is not in the other.
func TestBranches(t *testing.T) {
	f, _, _ := Await(flags(0, w(5, 1), w(6, 1)), 7, 1)
	a, _, _ := Await(f, 8, 1)
	b, _, _ := Await(f, 9, 2)
	r, _ := Raise(flags(0, w(5, 1), w(6, 2), w(7, 2)), 1)
	c, _, _ := Await(r, 8, 4)
	d, _, _ := Await(r, 9, 8)
	if !same(a, flags(0, w(5, 1), w(6, 1), w(7, 1), w(8, 1))) || !same(b, flags(0, w(5, 1), w(6, 1), w(7, 1), w(9, 2))) {
		t.Errorf("%v %v", a, b)
	}
	if !same(c, flags(0, w(6, 2), w(7, 2), w(8, 4))) || !same(d, flags(0, w(6, 2), w(7, 2), w(9, 8))) {
		t.Errorf("%v %v", c, d)
	}
}

// FuzzFlag: any bytes as a run of deeds, and as flags: no panic, and answers as the words have them.
func FuzzFlag(f *testing.F) {
	f.Add([]byte{}, uint32(0), 0)
	f.Add([]byte{0, 5, 1, 1, 7, 6, 1, 3, 8, 0, 0, 255}, uint32(every), 7)
	f.Add([]byte{1, 0, 1, 1, 255, 1, 1, 128, 255, 2, 127, 1}, uint32(last), math.MinInt)
	f.Fuzz(func(t *testing.T, run []byte, mask uint32, client int) {
		var runs, wild api.Flag
		for ; len(run) >= 3; run = run[3:] {
			n, m := int(int8(run[1])), uint32(run[2])*0x01000001
			if run[0]&1 == 0 {
				next, told := raised(runs, m)
				wantRaise(t, runs, m, next, told...)
				runs, wild.Bits = next, wild.Bits^m
			} else {
				next, got, ok := awaited(runs, n, m)
				wantAwait(t, runs, n, m, next, got, ok)
				runs, wild.Wait = next, append(wild.Wait, w(n, m))
			}
		}
		next, told := raised(wild, mask)
		wantRaise(t, wild, mask, next, told...)
		next, got, ok := awaited(wild, client, mask)
		wantAwait(t, wild, client, mask, next, got, ok)
		var waited []int
		for _, x := range wild.Wait {
			waited = append(waited, x.Client)
		}
		wantReset(t, wild, waited...)
	})
}
