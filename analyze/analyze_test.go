package analyze_test

import (
	"math"
	"slices"
	"testing"

	"learner/analyze"
	"learner/api"
	"learner/hypothesis"
	"learner/mealy"
	"learner/observe"
)

// finder is the type of Find and Linear.
type finder = func(api.Hyp, api.Obs, []int) (api.Split, []int, api.Errno)

// finders returns Find and Linear.
func finders() []finder {
	return []finder{analyze.Find, analyze.Linear}
}

// gate returns the gate of the document.
func gate() api.Mealy {
	return api.Mealy{Inputs: 2, Next: [][]int{{1, 0}, {1, 0}}, Out: [][]int{{1, 0}, {1, 2}}}
}

// one returns the hypothesis with one state of the document.
func one() api.Hyp {
	return hyp(api.Mealy{Inputs: 2, Next: [][]int{{0, 0}}, Out: [][]int{{1, 0}}}, nil)
}

// ring returns the hypothesis with one input, n states and the output 0, in which the state s has an access word of s + n*rounds symbols.
func ring(n, rounds int) api.Hyp {
	h := hyp(api.Mealy{Inputs: 1}, nil)
	for s := range n {
		h.M.Next, h.M.Out = append(h.M.Next, []int{(s + 1) % n}), append(h.M.Out, []int{0})
		if s > 0 {
			h.Access = append(h.Access, make([]int, s+n*rounds))
		}
	}
	return h
}

// hyp returns a hypothesis.
func hyp(m api.Mealy, access ...[]int) api.Hyp {
	return api.Hyp{M: m, Access: access}
}

// trace returns a trace.
func trace(in, out []int) api.Trace {
	return api.Trace{In: in, Out: out}
}

// obs returns observations.
func obs(inputs int, traces ...api.Trace) api.Obs {
	return api.Obs{Inputs: inputs, Traces: traces}
}

// split returns a split.
func split(prefix []int, symbol int, suffix ...int) api.Split {
	return api.Split{Prefix: prefix, Symbol: symbol, Suffix: suffix}
}

// same reports whether two splits are equal.
func same(a, b api.Split) bool {
	return slices.Equal(a.Prefix, b.Prefix) && a.Symbol == b.Symbol && slices.Equal(a.Suffix, b.Suffix)
}

// late returns the observation of a word of n symbols 0 with the output 1 for the last one, and otherwise 0.
func late(n int) api.Trace {
	return trace(make([]int, n), append(make([]int, n-1), 1))
}

// P25.1: the errors and their order, for both functions.
func TestFindErrors(t *testing.T) {
	ragged := gate()
	ragged.Out[1] = nil
	known := obs(2, trace([]int{1, 1}, []int{0, 0}), trace([]int{0, 1, 1}, []int{1, 2, 0}))
	long := make([]int, api.MaxWord+1)
	for i, c := range []struct {
		h    api.Hyp
		o    api.Obs
		w    []int
		want api.Errno
	}{
		// The hypothesis, with other wrong arguments.
		{api.Hyp{}, obs(3), []int{5}, api.ErrRange},
		{hyp(api.Mealy{Inputs: 2}), obs(3), []int{5}, api.ErrEmpty},
		{hyp(ragged, nil, []int{0}), obs(2), []int{0}, api.ErrInvalid},
		{hyp(gate(), nil), known, []int{0}, api.ErrInvalid},
		{hyp(gate(), nil, []int{1}), obs(3), []int{5}, api.ErrConflict},
		{hyp(gate(), nil, long), obs(3), []int{5}, api.ErrTooLong},
		{hyp(gate(), []int{1}, []int{0}), obs(3), []int{5}, api.ErrState},
		{hyp(gate(), []int{1}, []int{0}), known, []int{0, 1}, api.ErrState},
		// The numbers of inputs.
		{one(), obs(0), []int{0, 1}, api.ErrConflict},
		{one(), obs(1), []int{2}, api.ErrConflict},
		{one(), obs(3, trace([]int{0, 1}, []int{1, 2})), []int{0, 1}, api.ErrConflict},
		{one(), obs(3), long, api.ErrConflict},
		// The word.
		{one(), known, []int{0, 2}, api.ErrInvalid},
		{one(), known, []int{-1}, api.ErrInvalid},
		{one(), known, []int{math.MaxInt}, api.ErrInvalid},
		{one(), known, long, api.ErrTooLong},
		{one(), known, append([]int{7}, long...), api.ErrTooLong},
		// It is not answered, or only its beginning is.
		{one(), obs(2), []int{0}, api.ErrIncomplete},
		{one(), known, []int{0, 0}, api.ErrIncomplete},
		{one(), known, []int{0, 1, 1, 0}, api.ErrIncomplete},
		{one(), known, long[1:], api.ErrIncomplete},
		// It is no counterexample.
		{one(), obs(2), nil, api.ErrNotFound},
		{one(), known, []int{}, api.ErrNotFound},
		{one(), known, []int{0}, api.ErrNotFound},
		{one(), known, []int{1, 1}, api.ErrNotFound},
		{hyp(gate(), nil, []int{0}), known, []int{0, 1, 1}, api.ErrNotFound},
		{ring(2, 511), obs(1, trace(long[:9], long[:9])), long[:8], api.ErrNotFound},
		{one(), known, []int{0, 1}, api.OK},
		{one(), known, []int{0, 1, 1}, api.OK},
	} {
		for k, find := range finders() {
			s, ask, e := find(c.h, c.o, c.w)
			if e != c.want || e != api.OK && (!same(s, api.Split{}) || len(ask) != 0) {
				t.Errorf("case %d, function %d: %v, %v, %d, not %d", i, k, s, ask, e, c.want)
			}
		}
	}
}

// P25.2: the bisection of words whose positions are known, up to the first one that is not.
func TestFind(t *testing.T) {
	g := hyp(gate(), nil, []int{0})
	// This system turns only after three coins.
	coins := obs(2, trace([]int{1}, []int{0}), trace([]int{0, 1}, []int{1, 0}), trace([]int{0, 0, 1}, []int{1, 1, 0}), trace([]int{0, 0, 0, 1}, []int{1, 1, 1, 2}))
	for i, c := range []struct {
		h    api.Hyp
		o    api.Obs
		w    []int
		want api.Split
		ask  []int
		e    api.Errno
	}{
		{one(), obs(2, trace([]int{0, 1}, []int{1, 2})), []int{0, 1}, api.Split{}, []int{1}, api.OK},
		{one(), obs(2, trace([]int{1}, []int{0}), trace([]int{0, 1}, []int{1, 2})), []int{0, 1}, split(nil, 0, 1), nil, api.OK},
		// The positions 1 and 2 have the access word 0. The first one needs the word itself, and is bad.
		{g, obs(2, trace([]int{0, 0, 1}, []int{1, 1, 0})), []int{0, 0, 1}, api.Split{}, []int{0, 1}, api.OK},
		{g, obs(2, trace([]int{0, 1}, []int{1, 2}), trace([]int{0, 0, 1}, []int{1, 1, 0})), []int{0, 0, 1}, split([]int{0}, 0, 1), nil, api.OK},
		// The system does not do what the hypothesis says about an access word and a symbol.
		{g, coins, []int{0, 1}, api.Split{}, nil, api.ErrConflict},
		{g, coins, []int{0, 0, 1}, api.Split{}, nil, api.ErrConflict},
		{one(), obs(2, trace([]int{0}, []int{7})), []int{0}, api.Split{}, nil, api.ErrConflict},
		{one(), obs(2, trace([]int{1, 1}, []int{0, 0}), trace([]int{0, 1, 1}, []int{7, 0, 0})), []int{0, 1, 1}, api.Split{}, nil, api.ErrConflict},
		// The positions 2 and 1 are good, because two coins are not enough.
		{one(), coins, []int{0, 0, 0, 1}, split(nil, 0, 0, 0, 1), nil, api.OK},
		// All words are prefixes of the trace. Only a word of the same length has the output 1.
		{ring(1, 0), obs(1, late(1)), make([]int, 1), api.Split{}, nil, api.ErrConflict},
		{ring(1, 0), obs(1, late(2)), make([]int, 2), split(nil, 0, 0), nil, api.OK},
		{ring(1, 0), obs(1, late(8)), make([]int, 8), split(nil, 0, make([]int, 7)...), nil, api.OK},
		{ring(3, 0), obs(1, late(5)), make([]int, 5), split([]int{0, 0}, 0, 0, 0), nil, api.OK},
		{ring(8, 0), obs(1, late(8)), make([]int, 8), api.Split{}, nil, api.ErrConflict},
	} {
		s, ask, e := analyze.Find(c.h, c.o, c.w)
		if observe.Valid(c.o) != api.OK || !same(s, c.want) || !slices.Equal(ask, c.ask) || e != c.e {
			t.Errorf("case %d: Find returns %v, %v, %d, not %v, %v, %d", i, s, ask, e, c.want, c.ask, c.e)
		}
	}
}

// P25.2, P25.3: the position that is examined next. In the word 0 0 .. 0 1 each position needs another word; those up to last are bad.
func TestPositions(t *testing.T) {
	h := hyp(api.Mealy{Inputs: 2, Next: [][]int{{0, 0}}, Out: [][]int{{0, 0}}}, nil)
	for n := 1; n <= 20; n++ {
		w := append(make([]int, n-1), 1)
		for last := range n {
			for k, find := range finders() {
				o := obs(2, trace(w, late(n).Out))
				var examined []int
				s, ask, e := find(h, o, w)
				for len(ask) > 0 {
					i := n - len(ask)
					examined = append(examined, i)
					out := make([]int, len(ask))
					if i <= last {
						out[len(out)-1] = 1
					}
					o, _ = observe.Add(o, trace(ask, out))
					s, ask, e = find(h, o, w)
				}
				if want := positions(k, n, last); !slices.Equal(examined, want) {
					t.Fatalf("function %d examines %v of %d positions, not %v", k, examined, n, want)
				}
				if last == n-1 && (e != api.ErrConflict || !same(s, api.Split{})) || last < n-1 && (e != api.OK || !same(s, split(nil, 0, w[last+1:]...))) {
					t.Fatalf("function %d returns %v, %d for the %d first ones of %d", k, s, e, last+1, n)
				}
			}
		}
	}
}

// positions returns the positions that Find (0) or Linear (1) examines in a word of n symbols, if only those up to last are bad.
func positions(k, n, last int) []int {
	var l []int
	if k == 1 {
		for i := 1; i < n && i <= last+1; i++ {
			l = append(l, i)
		}
		return l
	}
	for lo, hi := 0, n; hi-lo > 1; {
		i := (lo + hi) / 2
		l = append(l, i)
		if i <= last {
			lo = i
		} else {
			hi = i
		}
	}
	return l
}

// P25.2, P25.3: words of MaxWord symbols are asked, and longer ones are not, if their position is examined.
func TestTooLong(t *testing.T) {
	// The state 1 has an access word of MaxWord - 1 symbols.
	h := ring(2, api.MaxWord/2-1)
	all := make([]int, api.MaxWord)
	early := func(n int) api.Trace {
		return trace(make([]int, n), append([]int{0, 1}, make([]int, n-2)...))
	}
	for i, c := range []struct {
		o    api.Obs
		n    int
		find finder
		want api.Split
		ask  []int
		e    api.Errno
	}{
		{obs(1, late(2)), 2, analyze.Find, api.Split{}, all, api.OK},
		{obs(1, late(2)), 2, analyze.Linear, api.Split{}, all, api.OK},
		{obs(1, late(3)), 3, analyze.Find, api.Split{}, nil, api.ErrTooLong},
		{obs(1, late(3)), 3, analyze.Linear, api.Split{}, nil, api.ErrTooLong},
		{obs(1, late(4)), 4, analyze.Find, api.Split{}, nil, api.ErrTooLong},
		// The position 2 is bad, so that Find does not examine the position 1.
		{obs(1, early(4)), 4, analyze.Find, api.Split{}, all, api.OK},
		{obs(1, early(4)), 4, analyze.Linear, api.Split{}, nil, api.ErrTooLong},
		{obs(1, early(api.MaxWord)), 4, analyze.Find, split(nil, 0, 0), nil, api.OK},
		{obs(1, early(api.MaxWord)), 4, analyze.Linear, api.Split{}, nil, api.ErrTooLong},
		// The position 1 needs all symbols, and is good.
		{obs(1, early(api.MaxWord)), 2, analyze.Find, split(nil, 0, 0), nil, api.OK},
		{obs(1, early(api.MaxWord)), 2, analyze.Linear, split(nil, 0, 0), nil, api.OK},
		{obs(1, late(api.MaxWord)), api.MaxWord, analyze.Find, api.Split{}, nil, api.ErrTooLong},
		{obs(1, late(api.MaxWord)), api.MaxWord, analyze.Linear, api.Split{}, nil, api.ErrTooLong},
	} {
		s, ask, e := c.find(h, c.o, make([]int, c.n))
		if hypothesis.Valid(h) != api.OK || observe.Valid(c.o) != api.OK || !same(s, c.want) || !slices.Equal(ask, c.ask) || e != c.e {
			t.Errorf("case %d: %v, %d symbols, %d", i, s, len(ask), e)
		}
	}
}

// P25.3: Linear finds the first break, where Find finds another one.
func TestLinear(t *testing.T) {
	h := hyp(api.Mealy{Inputs: 2, Next: [][]int{{0, 0}}, Out: [][]int{{0, 0}}}, nil)
	w := []int{0, 0, 0, 0, 1}
	// The positions 0, 2 and 3 are bad, the others are good.
	o := obs(2, trace([]int{1}, []int{0}), trace([]int{0, 1}, []int{0, 1}), trace([]int{0, 0, 1}, []int{0, 0, 1}), trace([]int{0, 0, 0, 1}, make([]int, 4)), trace(w, late(5).Out))
	if s, ask, e := analyze.Linear(h, o, w); !same(s, split(nil, 0, 0, 0, 0, 1)) || len(ask) != 0 || e != api.OK {
		t.Error("Linear returns", s, ask, e)
	}
	if s, ask, e := analyze.Find(h, o, w); !same(s, split(nil, 0, 1)) || len(ask) != 0 || e != api.OK {
		t.Error("Find returns", s, ask, e)
	}
	// The position 1 is good, so that the others are not needed.
	o.Traces = o.Traces[3:]
	if s, ask, e := analyze.Linear(h, o, w); !same(s, split(nil, 0, 0, 0, 0, 1)) || len(ask) != 0 || e != api.OK {
		t.Error("Linear returns", s, ask, e)
	}
	if s, ask, e := analyze.Find(h, o, w); !same(s, api.Split{}) || !slices.Equal(ask, w[2:]) || e != api.OK {
		t.Error("Find returns", s, ask, e)
	}
	// Only the last position is good, which needs no query; the transition before it is wrong.
	bad := obs(2, trace([]int{1}, []int{1}), trace([]int{0, 1}, []int{0, 1}), trace([]int{0, 0, 1}, []int{0, 0, 1}))
	if s, ask, e := analyze.Linear(h, bad, w[2:]); !same(s, api.Split{}) || len(ask) != 0 || e != api.ErrConflict {
		t.Error("Linear returns", s, ask, e)
	}
}

// P25.4: both answers have to be known, and the last outputs have to differ.
func TestCheck(t *testing.T) {
	g := hyp(gate(), nil, []int{0})
	turns := obs(2, trace([]int{1}, []int{0}), trace([]int{0, 1}, []int{1, 2}))
	coins := obs(2, trace([]int{1}, []int{0}), trace([]int{0, 1}, []int{1, 0}), trace([]int{0, 0, 1}, []int{1, 1, 0}), trace([]int{0, 0, 0, 1}, []int{1, 1, 1, 2}))
	// Behind the last pushes the outputs are equal, before them they differ.
	pushes := obs(2, trace([]int{1, 1, 1}, []int{0, 0, 0}), trace([]int{0, 1, 1, 1}, []int{1, 2, 0, 0}))
	all := make([]int, api.MaxWord)
	for i, c := range []struct {
		h    api.Hyp
		o    api.Obs
		s    api.Split
		want bool
	}{
		{one(), turns, split(nil, 0, 1), true},
		{one(), obs(2), split(nil, 0, 1), false},
		{one(), obs(2, turns.Traces[0]), split(nil, 0, 1), false},
		{one(), obs(2, turns.Traces[1]), split(nil, 0, 1), false},
		{one(), turns, split(nil, 0), false},
		{one(), turns, split(nil, 0, 1, 0), false},
		{one(), turns, split(nil, 1, 1), false},
		{one(), coins, split(nil, 0, 1), false},
		{one(), coins, split([]int{0}, 0, 1), false},
		{one(), coins, split([]int{0, 0}, 0, 1), true},
		{one(), coins, split([]int{0}, 0, 0, 1), true},
		{one(), coins, split(nil, 0, 0, 0), false},
		{one(), coins, split(nil, 0, 0, 0, 1), true},
		{one(), pushes, split(nil, 0, 1), true},
		{one(), pushes, split(nil, 0, 1, 1), true},
		{one(), pushes, split(nil, 0, 1, 1, 1), true},
		{one(), pushes, split([]int{0}, 1, 1), false},
		{one(), pushes, split([]int{0}, 1, 1, 1), false},
		{g, turns, split(nil, 0, 1), false},
		{g, pushes, split(nil, 0, 1, 1, 1), false},
		{g, coins, split([]int{0}, 0, 1), false},
		{g, coins, split([]int{0, 0}, 0, 1), true},
		{g, obs(2, coins.Traces[3]), split([]int{0, 0}, 0, 1), false},
		// A prefix need not be an access word. The split of the word 0 1 leads back to the start.
		{g, obs(2, trace([]int{1}, []int{0}), trace([]int{0, 1, 1}, []int{1, 2, 2})), split([]int{0}, 1, 1), true},
		{g, obs(2, trace([]int{1}, []int{0}), trace([]int{0, 1, 1}, []int{1, 2, 0})), split([]int{0}, 1, 1), false},
		{ring(1, 0), obs(1, late(3)), split(nil, 0, 0, 0), true},
		{ring(1, 0), obs(1, late(api.MaxWord)), split(nil, 0, all[1:]...), true},
		{ring(1, 0), obs(1, late(api.MaxWord)), split(nil, 0, all...), false},
		{ring(1, 0), obs(1, late(api.MaxWord)), split(all[2:], 0, 0), true},
		{ring(1, 0), obs(1, late(api.MaxWord)), split(all[1:], 0), false},
		{ring(1, 0), obs(1, late(api.MaxWord)), split(all[1:], 0, 0), false},
		{ring(1, 0), obs(1, late(api.MaxWord)), split(all, 0), false},
		{ring(1, 0), obs(1, late(api.MaxWord)), split(all, 0, all...), false},
	} {
		ok, e := analyze.Check(c.h, c.o, c.s)
		if observe.Valid(c.o) != api.OK || ok != c.want || e != api.OK {
			t.Errorf("case %d: Check returns %t, %d", i, ok, e)
		}
	}
}

// P25.4: the errors and their order.
func TestCheckErrors(t *testing.T) {
	o := obs(2, trace([]int{1}, []int{0}), trace([]int{0, 1}, []int{1, 2}))
	long := make([]int, api.MaxWord+1)
	for i, c := range []struct {
		h    api.Hyp
		o    api.Obs
		s    api.Split
		want api.Errno
	}{
		{api.Hyp{}, obs(3), split([]int{7}, 7, 7), api.ErrRange},
		{hyp(gate(), nil), obs(3), split([]int{7}, 7, 7), api.ErrInvalid},
		{hyp(gate(), []int{1}, []int{0}), o, split(nil, 0, 1), api.ErrState},
		{hyp(gate(), nil, []int{1}), o, split(nil, 0, 1), api.ErrConflict},
		{one(), obs(3), split([]int{2}, 2, 2), api.ErrConflict},
		{one(), obs(1), split([]int{7}, 7, 7), api.ErrConflict},
		{one(), obs(0), split(long, 0, 1), api.ErrConflict},
		{one(), o, split([]int{2}, 7, 7), api.ErrInvalid},
		{one(), o, split([]int{0, -1}, 7, 7), api.ErrInvalid},
		{one(), o, split(long, 7, 7), api.ErrTooLong},
		{one(), o, split(nil, 2, 7), api.ErrRange},
		{one(), o, split([]int{0, 1}, -1, 7), api.ErrRange},
		{one(), o, split(nil, math.MinInt, long...), api.ErrRange},
		{one(), o, split(nil, math.MaxInt), api.ErrRange},
		{one(), o, split(nil, 0, 2), api.ErrInvalid},
		{one(), o, split([]int{0}, 1, 1, -1), api.ErrInvalid},
		{one(), o, split(nil, 0, long...), api.ErrTooLong},
		{one(), o, split(long[1:], 0, long...), api.ErrTooLong},
		{one(), o, split(nil, 0, 1), api.OK},
	} {
		ok, e := analyze.Check(c.h, c.o, c.s)
		if e != c.want || ok != (e == api.OK) {
			t.Errorf("case %d: Check returns %t, %d, not %d", i, ok, e, c.want)
		}
	}
}

// R1: no hypotheses, observations and words make a function panic.
func TestNotValid(t *testing.T) {
	odd := []api.Trace{{}, trace([]int{0, 1}, nil), trace(nil, []int{1}), trace([]int{-1, 5}, []int{7, 8}), trace([]int{0}, []int{1, 2, 3}), trace(make([]int, api.MaxWord+2), []int{0}), trace([]int{0, 0, 0}, []int{-1, math.MaxInt, 0}), trace([]int{0, 1}, []int{1, 2}), trace([]int{0, 1}, []int{2, 2})}
	ragged := gate()
	ragged.Next[1] = nil
	words := [][]int{nil, {0}, {0, 1}, {0, 1, 1}, {0, 0, 0}, {-1}, {math.MaxInt, 0}, make([]int, api.MaxWord+1)}
	for _, h := range []api.Hyp{{}, one(), hyp(gate()), hyp(gate(), nil, []int{0}), hyp(ragged, nil, nil), hyp(api.Mealy{Inputs: 1}, nil), hyp(api.Mealy{Inputs: math.MaxInt}, nil)} {
		for i := range odd {
			for inputs := range 4 {
				o := obs(inputs, append(slices.Clone(odd[i:]), odd[:i]...)...)
				for _, w := range words {
					for _, find := range finders() {
						find(h, o, w)
					}
					for symbol := range 3 {
						analyze.Check(h, o, split(w, symbol-1, words[i%len(words)]...))
					}
				}
			}
		}
	}
}

// P25.2, P25.3, R5: results are new memory, and arguments do not change.
func TestMemory(t *testing.T) {
	h := hyp(gate(), nil, []int{0, 1, 0, 9}[:3])
	w := []int{0, 0, 1, 8}[:3]
	o := obs(2, trace([]int{0, 0, 1, 8}[:3], []int{1, 1, 0, 8}[:3]))
	for _, find := range finders() {
		known := o
		for _, answer := range []api.Trace{trace([]int{0, 1, 0, 0, 1}, []int{1, 2, 1, 1, 0}), trace([]int{0, 1, 0, 1}, []int{1, 2, 1, 2})} {
			_, ask, _ := find(h, known, w)
			if !slices.Equal(ask, answer.In) {
				t.Fatal("the query is", ask)
			}
			known, _ = observe.Add(known, answer)
			spoil(ask)
		}
		s, ask, e := find(h, known, w)
		if len(s.Prefix) != 3 || len(s.Suffix) != 1 || len(ask) != 0 || e != api.OK {
			t.Fatal("the split is", s, ask, e)
		}
		if ok, _ := analyze.Check(h, known, s); !ok {
			t.Error("Check returns false")
		}
		spoil(s.Prefix)
		spoil(s.Suffix)
		if !slices.Equal(w[:4], []int{0, 0, 1, 8}) || !slices.Equal(h.Access[1][:4], []int{0, 1, 0, 9}) {
			t.Error("the arguments have become", w[:4], h)
		}
		if !slices.Equal(o.Traces[0].In[:4], []int{0, 0, 1, 8}) || !slices.Equal(o.Traces[0].Out[:4], []int{1, 1, 0, 8}) || !mealy.Same(h.M, gate()) {
			t.Error("the arguments have become", o, h)
		}
	}
}

// spoil changes all symbols of a word and its spare capacity.
func spoil(w []int) {
	w = append(w, -5)
	w = w[:cap(w)]
	for i := range w {
		w[i] = -7
	}
}
