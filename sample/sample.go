// Package sample: programs and rows of tasks that the tests of several layers share. No layer stands on it.
package sample

import (
	"math"
	"slices"
	"strconv"
	"strings"

	"foliot/api"
)

// Longest is how many ticks a program takes at most.
const Longest = 1 + 20*(1+20*21) + 1

// Words reads instructions, a word each: s (a Set), m (a Mark), e (an End); with a number behind it k (a Skip), l and u (a Lock, an Unlock); r2x3 is a Rep whose body are 2 instructions, 3 times.
func Words(s string) []api.Inst {
	var l []api.Inst
	for _, w := range strings.Fields(s) {
		first, second, _ := strings.Cut(w[1:], "x")
		n, _ := strconv.Atoi(first)
		times, _ := strconv.Atoi(second)
		switch w[0] {
		case 's':
			l = append(l, api.Inst{Op: api.Set, A: 2, N: -5})
		case 'm':
			l = append(l, api.Inst{Op: api.Mark})
		case 'e':
			l = append(l, api.Inst{Op: api.End})
		case 'k':
			l = append(l, api.Inst{Op: api.Skip, A: 3, N: n})
		case 'r':
			l = append(l, api.Inst{Op: api.Rep, B: n, N: times})
		case 'l':
			l = append(l, api.Inst{Op: api.Lock, A: n})
		case 'u':
			l = append(l, api.Inst{Op: api.Unlock, A: n})
		}
	}
	return l
}

// Program is these words with an End behind them.
func Program(s string) []api.Inst {
	return append(Words(s), api.Inst{})
}

// Repeated is a word, n times.
func Repeated(n int, w string) string {
	return strings.Repeat(w+" ", n)
}

// Ticks is a program that takes so many ticks, as far as a few instructions and one body, or the longest program, come to it; else none.
func Ticks(n int) []api.Inst {
	if n <= api.MaxCode {
		return Program(Repeated(n-1, "s"))
	}
	if n == Longest {
		return Program("r22x20 r21x20 " + Repeated(21, "s"))
	}
	for body := 1; body <= 22; body++ {
		for times := 1; times <= 20; times++ {
			if rest := n - 2 - body*times; 0 <= rest && rest+body <= 22 {
				return Program("r" + strconv.Itoa(body) + "x" + strconv.Itoa(times) + " " + Repeated(body+rest, "s"))
			}
		}
	}
	return nil
}

// Chance is a run of numbers that goes on from itself.
type Chance uint64

// Below is the next number, from 0 on, below n.
func (c *Chance) Below(n int) int {
	*c = *c*6364136223846793005 + 1442695040888963407
	return int(uint64(*c)>>33) % n
}

// Pieces is the words of some program, one to most pieces long; no piece needs another one.
func Pieces(c *Chance, most int) string {
	pieces := []string{
		"s", "s", "m", "k2 s s", "r2x3 s s", "l0 u0", "l1 s u1", "l2 s s u2", "l3 s s s u3", "l3 l0 s u0 u3", "l1 s l2 u2 u1",
		"r3x4 l1 s u1", "l2 r2x9 s s u2", "k3 l3 s u3", "l0 k1 s u0",
	}
	s := pieces[c.Below(len(pieces))]
	for range c.Below(most) {
		s += " " + pieces[c.Below(len(pieces))]
	}
	return s
}

// Junk is instructions of any kind, with any numbers.
func Junk(c *Chance) []api.Inst {
	far := Numbers()
	l := make([]api.Inst, c.Below(30))
	for at := range l {
		l[at] = api.Inst{Op: c.Below(14) - 1, A: c.Below(6) - 1, B: far[c.Below(len(far))], N: far[c.Below(len(far))]}
	}
	return l
}

// Numbers are some below 0, some around the limits, some where fewer bits end, and some as far off as there are.
func Numbers() []int {
	return []int{
		math.MinInt, math.MinInt + 1, -1 << 62, -1<<32 + 1, -1 << 32, math.MinInt32, -256, -255, -8, -2, -1,
		0, 1, 2, 3, 4, 5, 7, 8, 9, 63, 64, 127, 128, 255, 256, 257, 1 << 14, 1 << 16, math.MaxInt32, 1 << 32, 1<<32 + 1, 1 << 62, math.MaxInt - 1, math.MaxInt,
	}
}

// Roomy is a copy of l with some room behind it and behind each program, in which there stands what locks all there is.
func Roomy(l []api.Task) []api.Task {
	room := func(x []api.Inst) []api.Inst {
		return append(slices.Clone(x), Words("l0 s u0 l1 s u1 l2 s u2 l3 s u3")...)[:len(x)]
	}
	all := slices.Clone(l)
	for _, s := range []string{"l0 s s s s s u0", "l1 s s s s s u1", "l2 s s s s s u2", "l3 s s s s s u3"} {
		all = append(all, api.Task{Rank: api.MaxRank, Period: 20, End: 20, Main: Program(s)})
	}
	for at := range all {
		x := &all[at]
		x.Main, x.Way, x.Opt = room(x.Main), room(x.Way), room(x.Opt)
	}
	return all[:len(l)]
}

// Memory is a copy of all that stands in the memory of l and of its programs, spare room too.
func Memory(l []api.Task) []api.Task {
	all := slices.Clone(l[:cap(l)])
	for at := range all {
		x := &all[at]
		x.Main, x.Way, x.Opt = slices.Clone(x.Main[:cap(x.Main)]), slices.Clone(x.Way[:cap(x.Way)]), slices.Clone(x.Opt[:cap(x.Opt)])
	}
	return all
}
