package vm

import (
	"math"
	"math/big"
	"slices"
	"strconv"
	"strings"
	"testing"

	"foliot/api"
	"foliot/code"
	"foliot/cost"
	"foliot/shape"
)

type memory = [api.MaxMem]int64

// edges are numbers at and beside the ends of numbers.
var edges = []int64{
	math.MinInt64, math.MinInt64 + 1, math.MinInt64 / 2, -1 << 32, math.MinInt32, -256, -129, -128, -127, -5, -3, -2, -1,
	0, 1, 2, 3, 5, 127, 128, 129, 255, 256, math.MaxInt32, 1 << 31, 1 << 32, 1 << 62, 0x5555555555555555, math.MaxInt64 - 1, math.MaxInt64,
}

// words reads a program, a word an instruction: s (a Set), m (a Mark), e (an End); with a number behind it k (a Skip on memory 2), K (a Skip on memory 0), l and u (a Lock, an Unlock); r2x3 is a Rep whose body are 2 instructions, 3 times. No End is put behind it.
func words(s string) []api.Inst {
	var l []api.Inst
	for _, w := range strings.Fields(s) {
		first, second, _ := strings.Cut(w[1:], "x")
		n, _ := strconv.Atoi(first)
		times, _ := strconv.Atoi(second)
		switch w[0] {
		case 's':
			l = append(l, api.Inst{Op: api.Set, A: 1, N: -5})
		case 'm':
			l = append(l, api.Inst{Op: api.Mark})
		case 'e':
			l = append(l, api.Inst{Op: api.End})
		case 'k':
			l = append(l, api.Inst{Op: api.Skip, A: 2, N: n})
		case 'K':
			l = append(l, api.Inst{Op: api.Skip, A: 0, N: n})
		case 'r':
			l = append(l, api.Inst{Op: api.Rep, B: n, N: times})
		case 'l':
			l = append(l, api.Inst{Op: api.Lock, A: n})
		case 'u':
			l = append(l, api.Inst{Op: api.Unlock, A: n})
		}
	}
	return l
}

// same tells whether two machines are one; no Reps are one, nil or empty.
func same(a, b api.Machine) bool {
	return a.PC == b.PC && a.Mem == b.Mem && a.Over == b.Over && slices.Equal(a.Reps, b.Reps)
}

// copied is m with memory of its own.
func copied(m api.Machine) api.Machine {
	m.Reps = slices.Clone(m.Reps)
	return m
}

// want asks that a step from m comes to that machine, by the instruction at m.
func want(t *testing.T, l []api.Inst, m, next api.Machine) {
	t.Helper()
	was := copied(m)
	got, i, ok := Step(l, m)
	if !ok || i != l[was.PC] || !same(got, next) {
		t.Errorf("%v at %v: %v %v %v, want %v", l, was, got, i, ok, next)
	}
	if !same(m, was) {
		t.Errorf("%v became %v", was, m)
	}
}

// refused asks that there is no step from m: it comes back as it was, with no instruction.
func refused(t *testing.T, l []api.Inst, m api.Machine) {
	t.Helper()
	was := copied(m)
	got, i, ok := Step(l, m)
	if ok || i != (api.Inst{}) || !same(got, was) || !same(m, was) {
		t.Errorf("%v at %v: %v %v %v", l, was, got, i, ok)
	}
}

// P8.1 New: at instruction 0, memory 0 is what it is given, the rest nothing.
func TestNew(t *testing.T) {
	for _, in := range edges {
		if m := New(in); m.PC != 0 || m.Mem != (memory{in}) || len(m.Reps) != 0 || m.Over {
			t.Errorf("%d: %v", in, m)
		}
	}
}

// modulo is x modulo 2^n, from 0 on.
func modulo(x *big.Int, n int) *big.Int {
	return new(big.Int).Mod(x, power(n))
}

// power is 2^n.
func power(n int) *big.Int { return new(big.Int).Exp(big.NewInt(2), big.NewInt(int64(n)), nil) }

// signed is the number with a sign that x is modulo 2^n.
func signed(x *big.Int, n int) int64 {
	low := modulo(x, n)
	if low.Cmp(power(n-1)) >= 0 {
		low.Sub(low, power(n))
	}
	return low.Int64()
}

// narrowed says what P8.1 says of Narrow, by numbers that have no ends.
func narrowed(v int64, n int) int64 {
	if n < 1 || n > 64 {
		return v
	}
	return signed(big.NewInt(v), n)
}

// shifted says what P8.1 says of Shift, by numbers that have no ends.
func shifted(v int64, n int) int64 {
	switch {
	case n < -63 || n > 63:
		return v
	case n < 0: // what is left of a division is from 0 on, so it rounds down
		return new(big.Int).Div(big.NewInt(v), power(-n)).Int64()
	}
	return signed(new(big.Int).Mul(big.NewInt(v), power(n)), 64)
}

// beyond are places that no number has, on both sides.
var beyond = []int{64, 65, 66, 127, 128, 192, 256, 1 << 16, math.MaxInt32, 1 << 31, 1 << 32, 1<<32 + 1, 1<<32 + 8, math.MaxInt - 1, math.MaxInt}

// P8.1 Narrow: written out.
func TestNarrow(t *testing.T) {
	for _, x := range []struct {
		v    int64
		n    int
		want int64
	}{
		{255, 8, -1}, {254, 8, -2}, {127, 8, 127}, {128, 8, -128}, {256, 8, 0}, {257, 8, 1}, {383, 8, 127}, {384, 8, -128}, {-128, 8, -128}, {-129, 8, 127}, {-1, 8, -1}, {-256, 8, 0},
		{0, 1, 0}, {1, 1, -1}, {2, 1, 0}, {3, 1, -1}, {-1, 1, -1}, {-2, 1, 0}, {math.MaxInt64, 1, -1}, {math.MinInt64, 1, 0},
		{1, 2, 1}, {2, 2, -2}, {3, 2, -1}, {4, 2, 0}, {1 << 15, 16, -1 << 15}, {1<<31 - 1, 32, 1<<31 - 1}, {1 << 31, 32, -1 << 31}, {1<<32 - 1, 32, -1}, {1 << 32, 32, 0},
		{1 << 62, 63, -1 << 62}, {1<<62 - 1, 63, 1<<62 - 1}, {-1 << 62, 63, -1 << 62}, {-1<<62 - 1, 63, 1<<62 - 1}, {math.MaxInt64, 63, -1}, {math.MinInt64, 63, 0},
		{1 << 62, 64, 1 << 62}, {math.MaxInt64, 64, math.MaxInt64}, {math.MinInt64, 64, math.MinInt64}, {-1, 64, -1}, {0, 64, 0},
		{5, 0, 5}, {5, 65, 5}, {5, -1, 5}, {255, -8, 255}, {255, 72, 255}, {math.MinInt64, 0, math.MinInt64}, {math.MaxInt64, 65, math.MaxInt64}, {255, math.MinInt, 255}, {255, math.MaxInt, 255},
	} {
		if got := Narrow(x.v, x.n); got != x.want {
			t.Errorf("Narrow(%d, %d): %d, want %d", x.v, x.n, got, x.want)
		}
	}
}

// P8.1 Shift: written out.
func TestShift(t *testing.T) {
	for _, x := range []struct {
		v    int64
		n    int
		want int64
	}{
		{5, 0, 5}, {-5, 0, -5}, {math.MinInt64, 0, math.MinInt64}, {math.MaxInt64, 0, math.MaxInt64},
		{5, 1, 10}, {-5, 1, -10}, {3, 4, 48}, {1, 62, 1 << 62}, {1, 63, math.MinInt64}, {2, 63, 0}, {3, 63, math.MinInt64}, {-1, 63, math.MinInt64}, {-2, 63, 0}, {0, 63, 0},
		{1 << 62, 1, math.MinInt64}, {1 << 62, 2, 0}, {math.MaxInt64, 1, -2}, {math.MinInt64, 1, 0}, {math.MaxInt64, 63, math.MinInt64}, {math.MinInt64, 63, 0}, {math.MinInt64 + 1, 1, 2},
		{5, -1, 2}, {-5, -1, -3}, {4, -1, 2}, {-4, -1, -2}, {7, -2, 1}, {-7, -2, -2}, {-1, -1, -1}, {1, -1, 0}, {0, -1, 0},
		{1, -63, 0}, {-1, -63, -1}, {math.MaxInt64, -63, 0}, {math.MinInt64, -63, -1}, {math.MaxInt64, -62, 1}, {math.MinInt64, -62, -2}, {math.MaxInt64, -1, 1<<62 - 1}, {math.MinInt64, -1, -1 << 62},
		{5, 64, 5}, {5, -64, 5}, {-5, 64, -5}, {-5, -64, -5}, {5, 65, 5}, {-5, -65, -5}, {math.MinInt64, 64, math.MinInt64}, {math.MaxInt64, -64, math.MaxInt64}, {-7, math.MinInt, -7}, {-7, math.MaxInt, -7},
	} {
		if got := Shift(x.v, x.n); got != x.want {
			t.Errorf("Shift(%d, %d): %d, want %d", x.v, x.n, got, x.want)
		}
	}
}

// P8.1: each number by each n, within and beyond.
func TestAllPlaces(t *testing.T) {
	c := chance(9)
	numbers := slices.Clone(edges)
	for range 100 {
		numbers = append(numbers, c.number())
	}
	places := []int{math.MinInt}
	for n := -70; n <= 70; n++ {
		places = append(places, n)
	}
	for _, n := range beyond {
		places = append(places, n, -n)
	}
	for _, v := range numbers {
		for _, n := range places {
			if got := Narrow(v, n); got != narrowed(v, n) {
				t.Errorf("Narrow(%d, %d): %d, want %d", v, n, got, narrowed(v, n))
			}
			if got := Shift(v, n); got != shifted(v, n) {
				t.Errorf("Shift(%d, %d): %d, want %d", v, n, got, shifted(v, n))
			}
		}
	}
}

// P8.2: each operation, once.
func TestOnce(t *testing.T) {
	full := memory{10, -21, 32, -43, 54, -65, 76, 0}
	for _, x := range []struct {
		i    api.Inst
		at   int // of the memory that is another one
		want int64
	}{
		{api.Inst{Op: api.Set, A: 0, N: 5}, 0, 5}, {api.Inst{Op: api.Set, A: 7, N: -5}, 7, -5}, {api.Inst{Op: api.Set, A: 3, N: 0}, 3, 0},
		{api.Inst{Op: api.Set, A: 1, N: math.MinInt32}, 1, math.MinInt32}, {api.Inst{Op: api.Set, A: 1, N: math.MaxInt32}, 1, math.MaxInt32},
		{api.Inst{Op: api.Add, A: 0, B: 1}, 0, -11}, {api.Inst{Op: api.Add, A: 1, B: 0}, 1, -11}, {api.Inst{Op: api.Add, A: 2, B: 2}, 2, 64}, {api.Inst{Op: api.Add, A: 4, B: 7}, 4, 54}, {api.Inst{Op: api.Add, A: 7, B: 4}, 7, 54},
		{api.Inst{Op: api.Sub, A: 0, B: 1}, 0, 31}, {api.Inst{Op: api.Sub, A: 1, B: 0}, 1, -31}, {api.Inst{Op: api.Sub, A: 2, B: 2}, 2, 0}, {api.Inst{Op: api.Sub, A: 7, B: 6}, 7, -76},
		{api.Inst{Op: api.Mul, A: 0, B: 1}, 0, -210}, {api.Inst{Op: api.Mul, A: 1, B: 3}, 1, 903}, {api.Inst{Op: api.Mul, A: 5, B: 5}, 5, 4225}, {api.Inst{Op: api.Mul, A: 4, B: 7}, 4, 0},
		{api.Inst{Op: api.Shift, A: 0, N: 3}, 0, 80}, {api.Inst{Op: api.Shift, A: 1, N: -2}, 1, -6}, {api.Inst{Op: api.Shift, A: 2, N: 0}, 2, 32}, {api.Inst{Op: api.Shift, A: 3, N: 63}, 3, math.MinInt64}, {api.Inst{Op: api.Shift, A: 6, N: -63}, 6, 0},
		{api.Inst{Op: api.Narrow, A: 0, N: 4}, 0, -6}, {api.Inst{Op: api.Narrow, A: 1, N: 5}, 1, 11}, {api.Inst{Op: api.Narrow, A: 3, N: 1}, 3, -1}, {api.Inst{Op: api.Narrow, A: 3, N: 64}, 3, -43},
	} {
		next := api.Machine{PC: 1, Mem: full}
		next.Mem[x.at] = x.want
		want(t, []api.Inst{x.i}, api.Machine{Mem: full}, next)
		next.PC = 3
		want(t, []api.Inst{{}, {Op: 99}, x.i, {}}, api.Machine{PC: 2, Mem: full}, next)
	}
	for _, i := range words("m l0 l3 u0 u3") { // they change nothing else
		want(t, []api.Inst{i}, api.Machine{Mem: full}, api.Machine{PC: 1, Mem: full})
		reps := []api.Rep2{{First: 0, Last: 4, Left: 2}, {First: 1, Last: 3, Left: 0}}
		want(t, []api.Inst{{}, {}, i, {}}, api.Machine{PC: 2, Mem: full, Reps: reps}, api.Machine{PC: 3, Mem: full, Reps: reps})
	}
	for pc := range 3 {
		want(t, words("e e e"), api.Machine{PC: pc, Mem: full}, api.Machine{PC: pc, Mem: full, Over: true})
	}
	reps := []api.Rep2{{First: 0, Last: 1, Left: 2}}
	want(t, words("s e"), api.Machine{PC: 1, Mem: full, Reps: reps}, api.Machine{PC: 1, Mem: full, Reps: reps, Over: true})
}

// P8.2: Add, Sub and Mul modulo 2^64, of all numbers at the ends.
func TestModulo(t *testing.T) {
	for _, x := range []struct {
		op         int
		a, b, want int64
	}{
		{api.Add, math.MaxInt64, 1, math.MinInt64}, {api.Add, math.MinInt64, -1, math.MaxInt64}, {api.Add, math.MinInt64, math.MinInt64, 0}, {api.Add, math.MaxInt64, math.MaxInt64, -2}, {api.Add, math.MaxInt64, math.MinInt64, -1},
		{api.Sub, math.MinInt64, 1, math.MaxInt64}, {api.Sub, math.MaxInt64, -1, math.MinInt64}, {api.Sub, 0, math.MinInt64, math.MinInt64}, {api.Sub, math.MaxInt64, math.MinInt64, -1}, {api.Sub, math.MinInt64, math.MaxInt64, 1},
		{api.Mul, math.MaxInt64, 2, -2}, {api.Mul, math.MinInt64, -1, math.MinInt64}, {api.Mul, math.MinInt64, 2, 0}, {api.Mul, math.MaxInt64, math.MaxInt64, 1}, {api.Mul, math.MinInt64, math.MinInt64, 0}, {api.Mul, 1 << 32, 1 << 32, 0}, {api.Mul, 1 << 32, 1 << 31, math.MinInt64},
	} {
		want(t, []api.Inst{{Op: x.op, A: 6, B: 3}}, api.Machine{Mem: memory{3: x.b, 6: x.a}}, api.Machine{PC: 1, Mem: memory{3: x.b, 6: x.want}})
	}
	c := chance(4)
	numbers := slices.Clone(edges)
	for range 50 {
		numbers = append(numbers, c.number())
	}
	for _, a := range numbers {
		for _, b := range numbers {
			x, y := big.NewInt(a), big.NewInt(b)
			for op, z := range map[int]*big.Int{api.Add: new(big.Int).Add(x, y), api.Sub: new(big.Int).Sub(x, y), api.Mul: new(big.Int).Mul(x, y)} {
				want(t, []api.Inst{{Op: op, A: 1, B: 2}}, api.Machine{Mem: memory{7, a, b}}, api.Machine{PC: 1, Mem: memory{7, signed(z, 64), b}})
			}
		}
	}
}

// P8.2: Shift and Narrow as instructions are those of P8.1.
func TestPlacesAsInstructions(t *testing.T) {
	for _, v := range edges {
		for n := -63; n <= 63; n++ {
			want(t, []api.Inst{{Op: api.Shift, A: 5, N: n}}, api.Machine{Mem: memory{5: v}}, api.Machine{PC: 1, Mem: memory{5: shifted(v, n)}})
		}
		for n := 1; n <= 64; n++ {
			want(t, []api.Inst{{Op: api.Narrow, A: 5, N: n}}, api.Machine{Mem: memory{5: v}}, api.Machine{PC: 1, Mem: memory{5: narrowed(v, n)}})
		}
	}
}

// P8.2: a Skip passes over just if its memory is 0, as far as it says: beyond l too.
func TestSkip(t *testing.T) {
	for a := range api.MaxMem {
		var other memory // all but memory a are 0
		other[a] = 1
		var only memory // memory a alone is 0
		for at := range only {
			only[at] = int64(at - a)
		}
		for n := 1; n <= api.MaxCode; n++ {
			l := []api.Inst{{}, {Op: api.Skip, A: a, N: n}, {}}
			want(t, l, api.Machine{PC: 1}, api.Machine{PC: 2 + n})
			want(t, l, api.Machine{PC: 1, Mem: only}, api.Machine{PC: 2 + n, Mem: only})
			want(t, l, api.Machine{PC: 1, Mem: other}, api.Machine{PC: 2, Mem: other})
		}
	}
	for _, v := range edges {
		pc := 1
		if v == 0 {
			pc = 3
		}
		want(t, words("K2 s s e"), New(v), api.Machine{PC: pc, Mem: memory{v}})
	}
}

// P8.2: of a Rep, Reps has its body, innermost last; it is the first go.
func TestRep(t *testing.T) {
	for b := 1; b <= api.MaxCode; b++ {
		for n := 1; n <= api.MaxRep; n++ {
			i := api.Inst{Op: api.Rep, B: b, N: n}
			want(t, []api.Inst{i}, New(3), api.Machine{PC: 1, Mem: memory{3}, Reps: []api.Rep2{{First: 1, Last: b, Left: n - 1}}})
			around := api.Rep2{First: 2, Last: 60, Left: 4}
			want(t, []api.Inst{{}, {}, {}, i}, api.Machine{PC: 3, Reps: []api.Rep2{around}}, api.Machine{PC: 4, Reps: []api.Rep2{around, {First: 4, Last: 3 + b, Left: n - 1}}})
		}
	}
}

// r is a body on its way.
func r(first, last, left int) api.Rep2 { return api.Rep2{First: first, Last: last, Left: left} }

// P8.2: the last one of Reps, if it ends ahead of PC: Left above 0 and Left 0; of the others none but the next one.
func TestEndOfBody(t *testing.T) {
	l := words("s s s s s e")
	at := func(pc int, reps ...api.Rep2) api.Machine {
		return api.Machine{PC: pc, Mem: memory{1: -5}, Reps: reps}
	}
	for _, x := range [][2]api.Machine{
		{at(2, r(1, 3, 1)), at(3, r(1, 3, 1))}, // still in it
		{at(2, r(1, 3, 0)), at(3, r(1, 3, 0))},
		{at(3, r(1, 3, 1)), at(1, r(1, 3, 0))}, // at its end
		{at(3, r(1, 3, 19)), at(1, r(1, 3, 18))},
		{at(3, r(1, 3, 0)), at(4)},
		{at(4, r(1, 3, 1)), at(1, r(1, 3, 0))}, // behind its end
		{at(4, r(1, 3, 0)), at(5)},
		{at(3, r(3, 3, 2)), at(3, r(3, 3, 1))}, // of one instruction
		{at(3, r(3, 3, 0)), at(4)},
		{at(3, r(1, 3, 2), r(2, 3, 0)), at(1, r(1, 3, 1))}, // two that end together
		{at(3, r(1, 3, 2), r(2, 3, 1)), at(2, r(1, 3, 2), r(2, 3, 0))},
		{at(3, r(1, 3, 0), r(2, 3, 0)), at(4)},
		{at(3, r(1, 3, 0), r(2, 3, 5)), at(2, r(1, 3, 0), r(2, 3, 4))},
		{at(3, r(1, 4, 2), r(2, 3, 0)), at(4, r(1, 4, 2))}, // the one around it goes on
		{at(3, r(1, 4, 0), r(2, 3, 0)), at(4, r(1, 4, 0))},
		{at(3, r(0, 3, 4), r(1, 3, 0), r(2, 3, 0)), at(0, r(0, 3, 3))}, // three
		{at(3, r(0, 3, 0), r(1, 3, 0), r(2, 3, 0)), at(4)},
		{at(3, r(0, 3, 4), r(1, 3, 6), r(2, 3, 0)), at(1, r(0, 3, 4), r(1, 3, 5))},
		{at(3, r(1, 1, 2), r(2, 4, 0)), at(4, r(1, 1, 2), r(2, 4, 0))}, // the last one alone is looked at as long as it is there
		{at(3, r(1, 3, -1)), at(4)},                                    // no goes are left
		{at(3, r(1, 3, math.MinInt)), at(4)},
		{at(3, r(0, math.MaxInt, 1)), at(4, r(0, math.MaxInt, 1))},
		{at(3, r(0, math.MinInt, math.MaxInt)), at(0, r(0, math.MinInt, math.MaxInt-1))},
		{at(3, r(-7, 3, 1)), at(-7, r(-7, 3, 0))}, // what is told is where it begins, wherever that is
		{at(3, r(4, 3, 1)), at(4, r(4, 3, 0))},
		{at(3, r(9, 2, 3), r(8, 1, 3)), at(8, r(9, 2, 3), r(8, 1, 2))}, // and that is all, though that one ends ahead of it
	} {
		want(t, l, x[0], x[1])
	}
}

// P8.2: a Skip that ends where a body ends, or goes beyond it; a body of a body.
func TestSkipAndRepInBodies(t *testing.T) {
	skip := words("s s k2 s s s e")
	want(t, skip, api.Machine{PC: 2, Reps: []api.Rep2{r(1, 4, 2)}}, api.Machine{PC: 1, Reps: []api.Rep2{r(1, 4, 1)}}) // it ends where the body ends
	want(t, skip, api.Machine{PC: 2, Reps: []api.Rep2{r(1, 4, 0)}}, api.Machine{PC: 5})
	want(t, skip, api.Machine{PC: 2, Reps: []api.Rep2{r(1, 5, 2)}}, api.Machine{PC: 5, Reps: []api.Rep2{r(1, 5, 2)}}) // ahead of it
	want(t, skip, api.Machine{PC: 2, Reps: []api.Rep2{r(1, 3, 2)}}, api.Machine{PC: 1, Reps: []api.Rep2{r(1, 3, 1)}}) // beyond it
	want(t, skip, api.Machine{PC: 2, Reps: []api.Rep2{r(1, 3, 0)}}, api.Machine{PC: 5})
	want(t, skip, api.Machine{PC: 2, Mem: memory{2: 1}, Reps: []api.Rep2{r(1, 4, 2)}}, api.Machine{PC: 3, Mem: memory{2: 1}, Reps: []api.Rep2{r(1, 4, 2)}}) // not passed over
	want(t, skip, api.Machine{PC: 2, Reps: []api.Rep2{r(0, 4, 3), r(1, 4, 0)}}, api.Machine{PC: 0, Reps: []api.Rep2{r(0, 4, 2)}})
	rep := words("s s r2x3 s s e")
	want(t, rep, api.Machine{PC: 2, Reps: []api.Rep2{r(1, 4, 1)}}, api.Machine{PC: 3, Reps: []api.Rep2{r(1, 4, 1), r(3, 4, 2)}})
	want(t, rep, api.Machine{PC: 2, Reps: []api.Rep2{r(1, 2, 1)}}, api.Machine{PC: 3, Reps: []api.Rep2{r(1, 2, 1), r(3, 4, 2)}}) // its own is the last one
	// Then, of every instruction: of an End too, if a body ends ahead of it.
	end := words("s s s e")
	want(t, end, api.Machine{PC: 3, Reps: []api.Rep2{r(1, 2, 0)}}, api.Machine{PC: 3, Over: true})
	want(t, end, api.Machine{PC: 3, Reps: []api.Rep2{r(1, 2, 4)}}, api.Machine{PC: 1, Reps: []api.Rep2{r(1, 2, 3)}, Over: true})
}

// gone tells the places that a program goes through, from New on.
func gone(t *testing.T, l []api.Inst, in int64) (string, api.Machine) {
	t.Helper()
	var places []string
	m := New(in)
	for !m.Over {
		places = append(places, strconv.Itoa(m.PC))
		next, i, ok := Step(l, m)
		if !ok || i != l[m.PC] || len(places) > 1<<14 {
			t.Fatalf("%v at %v: %v", l, m, ok)
		}
		m = next
	}
	return strings.Join(places, " "), m
}

// P8.2: which places programs go through: written out.
func TestPlaces(t *testing.T) {
	for s, want := range map[string]string{
		"e":                    "0",
		"s e":                  "0 1",
		"s m l0 s u0 e":        "0 1 2 3 4 5",
		"r1x1 s e":             "0 1 2", // done once
		"r1x2 s e":             "0 1 1 2",
		"r1x5 s e":             "0 1 1 1 1 1 2",
		"r3x1 s s s s e":       "0 1 2 3 4 5",
		"r2x3 s s s e":         "0 1 2 1 2 1 2 3 4",
		"s r2x2 s s e":         "0 1 2 3 2 3 4",
		"r1x2 s r1x3 s e":      "0 1 1 2 3 3 3 4",
		"r2x2 r1x3 s e":        "0 1 2 2 2 1 2 2 2 3", // two that end together
		"r3x2 r2x2 s s e":      "0 1 2 3 2 3 1 2 3 2 3 4",
		"r2x1 r1x1 s e":        "0 1 2 3",
		"r3x2 s r1x2 s e":      "0 1 2 3 3 1 2 3 3 4",
		"r3x2 r1x2 s s e":      "0 1 2 2 3 1 2 2 3 4", // one ends ahead of the other one
		"r4x2 r1x2 s r1x2 s e": "0 1 2 2 3 4 4 1 2 2 3 4 4 5",
		"k1 s e":               "0 2",
		"k2 s s s e":           "0 3 4",
		"K1 s e":               "0 1 2",
		"k2 k1 s e":            "0 3",
		"K2 k1 s e":            "0 1 3",
		"k2 r1x2 s s e":        "0 3 4",
		"K2 r1x2 s s e":        "0 1 2 2 3 4",
		"r2x2 k1 s e":          "0 1 1 3", // a Skip ends where a body ends
		"r2x2 K1 s e":          "0 1 2 1 2 3",
		"r3x2 k1 s s e":        "0 1 3 1 3 4",
		"r3x2 s k1 s e":        "0 1 2 1 2 4",
		"r3x2 r2x2 k1 s e":     "0 1 2 2 1 2 2 4",
		"r3x2 k2 r1x2 s e":     "0 1 1 4",
		"r4x2 r1x2 s k1 s e":   "0 1 2 2 3 1 2 2 3 5",
		"r4x2 k2 s s s e":      "0 1 4 1 4 5",
		"r3x2 l0 s u0 m e":     "0 1 2 3 1 2 3 4 5",
		"e s e":                "0",
		"s r2x2 e s e":         "0 1 2", // it is over, though a body is on its way
	} {
		if got, _ := gone(t, words(s), 1); got != want {
			t.Errorf("%q: %s, want %s", s, got, want)
		}
	}
}

// P8.2: programs that reckon something.
func TestPrograms(t *testing.T) {
	set := func(a, n int) api.Inst { return api.Inst{Op: api.Set, A: a, N: n} }
	op := func(op, a, b int) api.Inst { return api.Inst{Op: op, A: a, B: b} }
	rep := func(b, n int) api.Inst { return api.Inst{Op: api.Rep, B: b, N: n} }
	for _, x := range []struct {
		l        []api.Inst
		in, want int64
	}{
		{[]api.Inst{{}}, 7, 7},
		{[]api.Inst{op(api.Add, 0, 0), {}}, 21, 42},
		{[]api.Inst{set(1, 3), rep(1, 4), op(api.Mul, 0, 1), {}}, 2, 2 * 81},
		{[]api.Inst{set(1, 1), rep(2, 20), op(api.Add, 2, 1), op(api.Add, 3, 2), op(api.Mul, 0, 3), {}}, -1, -210}, // 1 + 2 + .. + 20
		{[]api.Inst{set(1, 1), rep(2, 20), rep(1, 20), op(api.Add, 0, 1), {}}, 0, 400},
		{[]api.Inst{{Op: api.Skip, A: 0, N: 1}, set(0, 9), {}}, 0, 0}, // 9, if it is not 0
		{[]api.Inst{{Op: api.Skip, A: 0, N: 1}, set(0, 9), {}}, -4, 9},
		{[]api.Inst{set(1, 1), rep(3, 10), {Op: api.Skip, A: 0, N: 2}, op(api.Sub, 0, 1), op(api.Add, 2, 1), op(api.Add, 0, 2), {}}, 4, 4}, // down to 0, and no further
		{[]api.Inst{set(1, 1), rep(3, 10), {Op: api.Skip, A: 0, N: 2}, op(api.Sub, 0, 1), op(api.Add, 2, 1), op(api.Add, 0, 2), {}}, 100, 100},
		{[]api.Inst{{Op: api.Lock, A: 1}, {Op: api.Shift, A: 0, N: 60}, {Op: api.Unlock, A: 1}, {Op: api.Mark}, {Op: api.Shift, A: 0, N: -60}, {}}, 0x1F, -1},
		{[]api.Inst{{Op: api.Narrow, A: 0, N: 8}, op(api.Mul, 0, 0), {}}, 0x1FE, 4},
	} {
		if _, m := gone(t, x.l, x.in); m.Mem[0] != x.want || len(m.Reps) != 0 || m.PC != len(x.l)-1 {
			t.Errorf("%v of %d: %v, want %d", x.l, x.in, m, x.want)
		}
	}
}

// P8.2, no: it is Over, its place is none of l's, what stands there may not be.
func TestNo(t *testing.T) {
	reps := []api.Rep2{{First: 0, Last: 0, Left: 3}, {First: 0, Last: 0, Left: 0}}
	full := memory{1, 2, 3, 4, 5, 6, 7, 8}
	l := words("s r2x2 s k1 s e")
	for _, rs := range [][]api.Rep2{nil, {}, reps} {
		for pc := range len(l) {
			refused(t, l, api.Machine{PC: pc, Mem: full, Reps: rs, Over: true})
		}
		for _, pc := range []int{-1, -2, -6, math.MinInt, math.MinInt + 1, len(l), len(l) + 1, 24, 1 << 32, math.MaxInt - 1, math.MaxInt} {
			refused(t, l, api.Machine{PC: pc, Mem: full, Reps: rs})
			refused(t, l[:len(l):len(l)], api.Machine{PC: pc, Mem: full, Reps: rs, Over: true})
		}
		for _, none := range [][]api.Inst{nil, {}, l[:0]} { // no instruction at all, though there is spare room
			for _, pc := range []int{0, 1, -1, math.MinInt, math.MaxInt} {
				refused(t, none, api.Machine{PC: pc, Mem: full, Reps: rs})
			}
		}
		refused(t, l[:3], api.Machine{PC: 3, Mem: full, Reps: rs})
		for _, i := range []api.Inst{
			{Op: -1}, {Op: 12}, {Op: math.MinInt}, {Op: math.MaxInt}, {A: 1}, {B: 1}, {N: 1}, {Op: api.Mark, A: 1}, {Op: api.Mark, B: 1}, {Op: api.Mark, N: 1},
			{Op: api.Set, A: 8}, {Op: api.Set, A: -1}, {Op: api.Set, B: 1}, {Op: api.Set, N: math.MaxInt32 + 1}, {Op: api.Set, N: math.MinInt32 - 1}, {Op: api.Set, A: math.MaxInt}, {Op: api.Set, A: math.MinInt},
			{Op: api.Add, A: 8}, {Op: api.Add, B: 8}, {Op: api.Add, A: -1}, {Op: api.Sub, B: -1}, {Op: api.Mul, N: 1}, {Op: api.Mul, B: math.MaxInt},
			{Op: api.Shift, N: 64}, {Op: api.Shift, N: -64}, {Op: api.Shift, A: 8}, {Op: api.Narrow}, {Op: api.Narrow, N: 65}, {Op: api.Narrow, N: -1}, {Op: api.Narrow, A: -1, N: 1},
			{Op: api.Skip}, {Op: api.Skip, N: 25}, {Op: api.Skip, N: -1}, {Op: api.Skip, A: 8, N: 1}, {Op: api.Skip, B: 1, N: 1}, {Op: api.Skip, N: math.MaxInt},
			{Op: api.Rep}, {Op: api.Rep, B: 1}, {Op: api.Rep, N: 1}, {Op: api.Rep, B: 25, N: 1}, {Op: api.Rep, B: 1, N: 21}, {Op: api.Rep, A: 1, B: 1, N: 1}, {Op: api.Rep, B: math.MaxInt, N: math.MaxInt},
			{Op: api.Lock, A: 4}, {Op: api.Lock, A: -1}, {Op: api.Lock, B: 1}, {Op: api.Unlock, A: 4}, {Op: api.Unlock, N: 1},
		} {
			refused(t, []api.Inst{i}, api.Machine{Mem: full, Reps: rs})
			refused(t, []api.Inst{{}, {}, i, {}}, api.Machine{PC: 2, Mem: full, Reps: rs})
		}
	}
	// What stands elsewhere does not matter.
	want(t, []api.Inst{{Op: 99}, {Op: api.Mark}, {Op: -1}}, api.Machine{PC: 1}, api.Machine{PC: 2})
}

// A program too long to be one is gone through all the same: Step asks of one instruction alone.
func TestLong(t *testing.T) {
	l := slices.Repeat(words("s"), 1000)
	for pc := range l {
		want(t, l, api.Machine{PC: pc}, api.Machine{PC: pc + 1, Mem: memory{1: -5}})
	}
	refused(t, l, api.Machine{PC: 1000})
	deep := slices.Repeat([]api.Rep2{{First: 2, Last: 3, Left: 0}}, 1<<16)
	want(t, words("s s s s e"), api.Machine{PC: 3, Reps: deep}, api.Machine{PC: 4, Mem: memory{1: -5}})
	deep[0].Left = 1
	want(t, words("s s s s e"), api.Machine{PC: 3, Reps: deep}, api.Machine{PC: 2, Mem: memory{1: -5}, Reps: []api.Rep2{{First: 2, Last: 3, Left: 0}}})
}

// chance is a run of numbers that goes on from itself.
type chance uint64

func (c *chance) below(n int) int {
	*c = *c*6364136223846793005 + 1442695040888963407
	return int(uint64(*c)>>33) % n
}

// number is a number, one of the edges as often as not.
func (c *chance) number() int64 {
	if c.below(2) == 0 {
		return edges[c.below(len(edges))]
	}
	return int64(c.below(1<<30))<<34 ^ int64(c.below(1<<30))<<10 ^ int64(c.below(1<<10))
}

// plain is an instruction that reckons.
func (c *chance) plain() api.Inst {
	a, b := c.below(8), c.below(8)
	switch c.below(6) {
	case 0:
		return api.Inst{Op: api.Set, A: a, N: c.below(7) - 3}
	case 1:
		return api.Inst{Op: api.Shift, A: a, N: c.below(127) - 63}
	case 2:
		return api.Inst{Op: api.Narrow, A: a, N: 1 + c.below(64)}
	case 3:
		return api.Inst{Op: api.Add, A: a, B: b}
	case 4:
		return api.Inst{Op: api.Sub, A: a, B: b}
	}
	return api.Inst{Op: api.Mul, A: a, B: b}
}

// grown is a piece of a program that may be: at most so long, in so many bodies, with these held.
func grown(c *chance, size, bodies int, held []int, top bool) []api.Inst {
	var l []api.Inst
	for room := size; room > 0 && c.below(8) > 0; room = size - len(l) {
		inner := c.below(room)
		sema := c.below(api.MaxSemas)
		switch kind := c.below(5); {
		case kind == 0 && inner > 0 && bodies < 2:
			if body := grown(c, inner, bodies+1, held, false); len(body) > 0 {
				l = append(append(l, api.Inst{Op: api.Rep, B: len(body), N: 1 + c.below(5)}), body...)
			}
		case kind == 1 && inner > 0:
			if body := grown(c, inner, bodies, held, false); len(body) > 0 {
				l = append(append(l, api.Inst{Op: api.Skip, A: c.below(8), N: len(body)}), body...)
			}
		case kind == 2 && inner > 0 && len(held) < 2 && !slices.Contains(held, sema):
			l = append(l, api.Inst{Op: api.Lock, A: sema})
			l = append(l, grown(c, inner-1, bodies, append(slices.Clone(held), sema), false)...)
			l = append(l, api.Inst{Op: api.Unlock, A: sema})
		case kind == 3 && top:
			l = append(l, api.Inst{Op: api.Mark})
		default:
			l = append(l, c.plain())
		}
	}
	return l
}

// worked says what an instruction makes of memory, by numbers that have no ends.
func worked(mem memory, i api.Inst) memory {
	a, b := big.NewInt(mem[i.A]), big.NewInt(mem[i.B%8])
	switch i.Op {
	case api.Set:
		mem[i.A] = int64(i.N)
	case api.Add:
		mem[i.A] = signed(a.Add(a, b), 64)
	case api.Sub:
		mem[i.A] = signed(a.Sub(a, b), 64)
	case api.Mul:
		mem[i.A] = signed(a.Mul(a, b), 64)
	case api.Shift:
		mem[i.A] = shifted(mem[i.A], i.N)
	case api.Narrow:
		mem[i.A] = narrowed(mem[i.A], i.N)
	}
	return mem
}

// stop is a tick of a run: at which place, with which bodies around it, what memory was ahead of it.
type stop struct {
	pc   int
	reps []api.Rep2
	mem  memory
}

// walked goes through the places from first up to last of a program that may be, body in body, and puts down each tick.
func walked(l []api.Inst, first, last int, around []api.Rep2, mem *memory, ticks *[]stop) {
	for at := first; at <= last; at++ {
		i := l[at]
		*ticks = append(*ticks, stop{at, slices.Clone(around), *mem})
		switch i.Op {
		case api.Rep:
			for left := i.N - 1; left >= 0; left-- {
				walked(l, at+1, at+i.B, append(slices.Clone(around), api.Rep2{First: at + 1, Last: at + i.B, Left: left}), mem, ticks)
			}
			at += i.B
		case api.Skip:
			if mem[i.A] == 0 {
				at += i.N
			}
		default:
			*mem = worked(*mem, i)
		}
	}
}

// 'What follows': a program that may be comes to its end, within its cost, tick by tick as its bodies have it, with none of them on its way.
func TestComesToItsEnd(t *testing.T) {
	c := chance(5)
	for range 3000 {
		l := append(grown(&c, 23, 0, nil, true), api.Inst{})
		all, ok := cost.Of(l)
		if !ok {
			t.Fatalf("%v: no", l)
		}
		in := c.number()
		mem := memory{in}
		var ticks []stop
		walked(l, 0, len(l)-1, nil, &mem, &ticks)
		m := New(in)
		for n, tick := range ticks {
			if !same(m, api.Machine{PC: tick.pc, Reps: tick.reps, Mem: tick.mem}) {
				t.Fatalf("%v: tick %d: %v, want %v", l, n, m, tick)
			}
			next, i, ok := Step(l, m)
			if !ok || i != l[tick.pc] {
				t.Fatalf("%v: tick %d: %v %v", l, n, i, ok)
			}
			m = next
		}
		if !same(m, api.Machine{PC: len(l) - 1, Mem: mem, Over: true}) || int64(len(ticks)) > all.All {
			t.Fatalf("%v: %v behind %d ticks, of %d", l, m, len(ticks), all.All)
		}
		refused(t, l, m)
	}
}

// 'What follows': all programs of a few instructions that may be.
func TestAllShort(t *testing.T) {
	alphabet := words("s m k1 k2 K1 K2 r1x2 r1x5 r2x1 r2x3 r3x2 r4x3 l0 u0")
	n := 0
	var grow func(l []api.Inst, more int)
	grow = func(l []api.Inst, more int) {
		if whole := append(slices.Clone(l), api.Inst{}); shape.May(whole) {
			n++
			all, _ := cost.Of(whole)
			mem := memory{1}
			var ticks []stop
			walked(whole, 0, len(whole)-1, nil, &mem, &ticks)
			var places []string
			for _, tick := range ticks {
				places = append(places, strconv.Itoa(tick.pc))
			}
			if got, m := gone(t, whole, 1); got != strings.Join(places, " ") || !same(m, api.Machine{PC: len(l), Mem: mem, Over: true}) || int64(len(places)) > all.All {
				t.Fatalf("%v: %s, want %v, within %d", whole, got, places, all.All)
			}
		}
		for _, i := range alphabet {
			if more > 0 {
				grow(append(slices.Clone(l), i), more-1)
			}
		}
	}
	grow(nil, 5)
	if n < 1000 {
		t.Errorf("%d of them may be", n)
	}
}

// stepped says what P8.2 says of a step, sentence by sentence.
func stepped(l []api.Inst, m api.Machine) (api.Machine, api.Inst, bool) {
	if m.Over {
		return m, api.Inst{}, false
	}
	for at, i := range l {
		if at != m.PC || !code.May(i) {
			continue
		}
		reps := slices.Clone(m.Reps)
		next := api.Machine{PC: at + 1, Mem: worked(m.Mem, i)}
		switch i.Op {
		case api.End:
			next.PC, next.Over = at, true
		case api.Skip:
			if m.Mem[i.A] == 0 {
				next.PC = at + 1 + i.N
			}
		case api.Rep:
			reps = append(reps, api.Rep2{First: at + 1, Last: at + i.B, Left: i.N - 1})
		}
		for n := len(reps); n > 0; n-- {
			last := reps[n-1]
			if last.Last >= next.PC {
				next.Reps = reps[:n]
				return next, i, true
			}
			if last.Left > 0 {
				next.PC = last.First
				next.Reps = append(slices.Clone(reps[:n-1]), api.Rep2{First: last.First, Last: last.Last, Left: last.Left - 1})
				return next, i, true
			}
		}
		return next, i, true
	}
	return m, api.Inst{}, false
}

// R1 and R3: whatever there is: no panic, what P8.2 says, and nothing handed in is changed, its spare room too.
func TestWhatever(t *testing.T) {
	c := chance(2)
	numbers := []int{math.MinInt, -25, -1, 0, 1, 2, 3, 4, 5, 20, 24, 25, math.MaxInt}
	yes := 0
	for range 60000 {
		full := make([]api.Inst, 10)
		for at := range full {
			switch c.below(4) {
			case 0:
				full[at] = api.Inst{Op: c.below(14) - 1, A: numbers[c.below(len(numbers))], B: numbers[c.below(len(numbers))], N: numbers[c.below(len(numbers))]}
			case 1:
				full[at] = api.Inst{Op: api.Skip, A: c.below(8), N: 1 + c.below(5)}
			case 2:
				full[at] = api.Inst{Op: api.Rep, B: 1 + c.below(5), N: 1 + c.below(3)}
			case 3:
				full[at] = c.plain()
			}
		}
		reps := make([]api.Rep2, 6)
		for at := range reps {
			reps[at] = api.Rep2{First: c.below(10), Last: c.below(10), Left: c.below(3)}
			if c.below(20) == 0 {
				reps[at] = api.Rep2{First: numbers[c.below(len(numbers))], Last: numbers[c.below(len(numbers))], Left: numbers[c.below(len(numbers))]}
			}
		}
		m := api.Machine{PC: c.below(12) - 1, Reps: reps[:c.below(len(reps)+1)], Over: c.below(20) == 0}
		for at := range m.Mem {
			m.Mem[at] = int64(c.below(2)) * c.number()
		}
		l := full[:c.below(len(full)+1)]
		wasFull, wasReps, was := slices.Clone(full), slices.Clone(reps), copied(m)
		wantM, wantI, wantOK := stepped(l, copied(m))
		got, i, ok := Step(l, m)
		if ok != wantOK || i != wantI || !same(got, wantM) {
			t.Fatalf("%v at %v: %v %v %v, want %v %v %v", l, was, got, i, ok, wantM, wantI, wantOK)
		}
		if ok {
			yes++
		}
		spoil(got)
		if !slices.Equal(full, wasFull) || !slices.Equal(reps, wasReps) || !same(m, was) {
			t.Fatalf("%v at %v became %v at %v", wasFull, was, full, m)
		}
	}
	if yes < 10000 {
		t.Errorf("%d steps were done", yes)
	}
}

// spoil writes over all memory that m has, its spare room too.
func spoil(m api.Machine) {
	reps := m.Reps[:cap(m.Reps)]
	for at := range reps {
		reps[at] = api.Rep2{First: -9, Last: -9, Left: -9}
	}
}

// R3 and R4: what is told is new memory, beside a no as well, so whatever becomes of it, the same again tells the same.
func TestSameAgain(t *testing.T) {
	l := words("s s r2x3 s s e")
	reps := append(make([]api.Rep2, 0, 8), api.Rep2{First: 0, Last: 4, Left: 2}, api.Rep2{First: 1, Last: 4, Left: 1})
	was := slices.Clone(reps[:cap(reps)])
	for _, m := range []api.Machine{{PC: 0, Reps: reps}, {PC: 2, Reps: reps}, {PC: 4, Reps: reps}, {PC: 5, Reps: reps}, {PC: 6, Reps: reps}, {PC: -1, Reps: reps}, {PC: 1, Reps: reps, Over: true}, {PC: 1}, New(4)} {
		first, wantI, wantOK := Step(l, m)
		kept := copied(first)
		spoil(first)
		for range 3 {
			got, i, ok := Step(l, m)
			if i != wantI || ok != wantOK || !same(got, kept) {
				t.Errorf("%v: %v %v %v, want %v", m, got, i, ok, kept)
			}
			spoil(got)
		}
		if !slices.Equal(reps[:cap(reps)], was) {
			t.Fatalf("%v: %v became %v", m, was, reps[:cap(reps)])
		}
	}
	m := New(3)
	spoil(m)
	if !same(New(3), api.Machine{Mem: memory{3}}) {
		t.Errorf("%v", New(3))
	}
}

// R3: two ways that go on from one machine do not touch one another.
func TestFork(t *testing.T) {
	l := words("r3x3 r1x2 s s e")
	m := New(0)
	for range 4 {
		m, _, _ = Step(l, m)
	}
	was := copied(m)
	first, _, _ := Step(l, m)
	second, _, _ := Step(words("s s s r1x7 s"), m)
	if !same(m, was) || !same(first, api.Machine{PC: 1, Mem: memory{1: -5}, Reps: []api.Rep2{{First: 1, Last: 3, Left: 1}}}) {
		t.Errorf("%v: %v", m, first)
	}
	if !same(second, api.Machine{PC: 4, Mem: memory{1: -5}, Reps: []api.Rep2{{First: 1, Last: 3, Left: 2}, {First: 4, Last: 4, Left: 6}}}) {
		t.Errorf("%v: %v", m, second)
	}
}
