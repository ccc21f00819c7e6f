package lstar_test

import (
	"math"
	"slices"
	"testing"

	"learner/api"
	"learner/equiv"
	"learner/hypothesis"
	"learner/lstar"
	"learner/mealy"
	"learner/minimize"
	"learner/observe"
	"learner/table"
)

// P24.3: the example of the document.
func TestLearnGate(t *testing.T) {
	words := list{{1, 0}, {1, 1}, {0, 0, 0}, {0, 0, 1}, {0, 1, 0}, {0, 1, 1}}
	for mode := range 2 {
		h, o, n, e := lstar.Learn(gate(), mode)
		if !mealy.Same(h.M, gate()) || !equal(h.Access, list{nil, {0}}) || !observe.Same(o, told(t, gate(), words)) || n != 1 || e != api.OK {
			t.Errorf("in the mode %d Learn returns %v, %v, %d, %d", mode, h, o, n, e)
		}
	}
}

// P24.3: one input, and one state.
func TestLearnCycle(t *testing.T) {
	for mode := range 2 {
		// The first hypothesis has one state, and the counterexample has four symbols.
		h, o, n, e := lstar.Learn(cycle(4), mode)
		if !mealy.Same(h.M, cycle(4)) || !equal(h.Access, chain(0, 3)) || !observe.Same(o, told(t, cycle(4), chain(8, 8))) || n != 2 || e != api.OK {
			t.Errorf("in the mode %d Learn returns %v, %v, %d, %d", mode, h, o, n, e)
		}
		h, o, n, e = lstar.Learn(api.Mealy{Inputs: 1, Next: [][]int{{0}}, Out: [][]int{{7}}}, mode)
		if !mealy.Same(h.M, api.Mealy{Inputs: 1, Next: [][]int{{0}}, Out: [][]int{{7}}}) || !equal(h.Access, list{nil}) || !observe.Same(o, line(7, 7)) || n != 1 || e != api.OK {
			t.Errorf("in the mode %d Learn returns %v, %v, %d, %d", mode, h, o, n, e)
		}
	}
}

// P24.3: the modes lead to different observations. The counterexample is 0 1 0; in the mode 0, 1 0 becomes a suffix, because the empty word and 0 have equal rows.
func TestLearnModes(t *testing.T) {
	for mode, x := range []api.Table{
		tab(2, list{nil, {0}, {0, 1}, {0, 1, 0}}, list{{0}, {1}, {1, 0}}),
		tab(2, list{nil, {0}, {0, 1}}, list{{0}, {1}, {1, 0}, {0, 1, 0}}),
	} {
		h, o, n, e := lstar.Learn(lock(2, 3), mode)
		if !mealy.Same(h.M, lock(2, 3)) || !equal(h.Access, list{nil, {0}, {0, 1}}) || !observe.Same(o, full(t, lock(2, 3), x)) || n != 2 || e != api.OK {
			t.Errorf("in the mode %d Learn returns %v, %v, %d, %d", mode, h, o, n, e)
		}
	}
}

// literalLearn learns a valid machine, one answer after the other.
func literalLearn(m api.Mealy, mode int) (api.Hyp, api.Obs, int, api.Errno) {
	x, _ := table.New(m.Inputs)
	o := obs(m.Inputs)
	for n := 1; ; {
		y, words, done, e := lstar.Step(x, o)
		if e != api.OK {
			return api.Hyp{}, api.Obs{}, 0, e
		}
		x = y
		var h api.Hyp
		if done {
			if h, e = table.Hypothesis(x, o); e != api.OK {
				return api.Hyp{}, api.Obs{}, 0, e
			}
			w, found, e := equiv.Distinguish(h.M, m)
			if e != api.OK || !found {
				return h, o, n, e
			}
			words = list{w}
		}
		for _, w := range words {
			out, _ := mealy.Run(m, w)
			if o, e = observe.Add(o, api.Trace{In: w, Out: out}); e != api.OK {
				return api.Hyp{}, api.Obs{}, 0, e
			}
		}
		if done {
			n++
			if x, e = lstar.Refine(x, words[0], mode); e != api.OK {
				return api.Hyp{}, api.Obs{}, 0, e
			}
		}
	}
}

// learned checks a result of Learn that has no error.
func learned(t *testing.T, m api.Mealy, h api.Hyp, o api.Obs, n int) {
	t.Helper()
	least, _ := minimize.Min(m)
	trimmed, e := mealy.Trim(h.M)
	if e != api.OK || !mealy.Same(trimmed, least) || len(h.M.Next) != len(least.Next) {
		t.Fatalf("for %v the machine is %v", m, h.M)
	}
	if n < 1 || n > len(least.Next) {
		t.Fatalf("for %v there are %d hypotheses", m, n)
	}
	if hypothesis.Valid(h) != api.OK || observe.Valid(o) != api.OK {
		t.Fatalf("for %v the results are not valid: %v, %v", m, h, o)
	}
	if w, refuted, _ := hypothesis.Refuted(api.Hyp{M: m}, o); refuted {
		t.Fatalf("for %v the observations have another answer for %v", m, w)
	}
	if w, refuted, _ := hypothesis.Refuted(h, o); refuted {
		t.Fatalf("for %v the hypothesis %v does not agree with the observations on %v", m, h, w)
	}
}

// P24.3, P24.4, P24.5: random machines.
func TestLearnDrawn(t *testing.T) {
	rounds := map[int]int{}
	for state := range uint64(800) {
		m, _ := drawn(state*31, 1+int(state%3), 1+int(state%9), 2)
		for mode := range 2 {
			h, o, n, e := lstar.Learn(m, mode)
			want, right, count, failure := literalLearn(m, mode)
			if !mealy.Same(h.M, want.M) || !equal(h.Access, want.Access) || !observe.Same(o, right) || n != count || e != failure || e != api.OK {
				t.Fatalf("in the mode %d Learn of %v returns %v, %v, %d, %d, not %v, %v, %d", mode, m, h, o, n, e, want, right, count)
			}
			learned(t, m, h, o, n)
			rounds[min(n, 3)]++
		}
	}
	if rounds[1] < 100 || rounds[2] < 100 || rounds[3] < 100 {
		t.Error("the numbers of hypotheses are", rounds)
	}
}

// P24.3, P24.4: machines with states that are equivalent or not reachable, and the greatest numbers of states and inputs.
func TestLearnSizes(t *testing.T) {
	double := api.Mealy{Inputs: 2, Start: 3, Next: [][]int{{1, 2}, {1, 0}, {3, 2}, {1, 2}}, Out: [][]int{{1, 0}, {1, 2}, {1, 0}, {1, 0}}}
	random128, _ := drawn(5, 3, api.MaxStates, 3)
	flat := api.Mealy{Inputs: api.MaxInputs, Next: [][]int{make([]int, api.MaxInputs)}, Out: [][]int{slices.Repeat([]int{api.MaxOutput}, api.MaxInputs)}}
	for i, m := range []api.Mealy{double, random128, flat, cycle(api.MaxStates), lock(2, 30), lock(5, 20)} {
		for mode := range 2 {
			h, o, n, e := lstar.Learn(m, mode)
			if e != api.OK {
				t.Fatalf("case %d: in the mode %d Learn returns %d", i, mode, e)
			}
			learned(t, m, h, o, n)
		}
	}
}

// P24.3: the errors of the arguments in their order, and those of the functions that are called.
func TestLearnErrors(t *testing.T) {
	ragged, wide := gate(), gate()
	ragged.Out[1] = nil
	wide.Next[0][0] = 2
	many, _ := drawn(1, api.MaxInputs, 5, 2)
	for i, c := range []struct {
		m    api.Mealy
		mode int
		want api.Errno
	}{
		{api.Mealy{}, 0, api.ErrRange},
		{api.Mealy{Inputs: 2}, 2, api.ErrEmpty},
		{api.Mealy{Inputs: 2, Next: make([][]int, api.MaxStates+1)}, 1, api.ErrLimit},
		{ragged, 0, api.ErrInvalid},
		{ragged, -1, api.ErrInvalid},
		{wide, 1, api.ErrRange},
		{gate(), 2, api.ErrRange},
		{gate(), -1, api.ErrRange},
		{gate(), math.MinInt, api.ErrRange},
		{many, 2, api.ErrRange},
		{many, 0, api.ErrLimit},
		{many, 1, api.ErrLimit},
	} {
		h, o, n, e := lstar.Learn(c.m, c.mode)
		if e != c.want || !mealy.Same(h.M, api.Mealy{}) || len(h.Access) != 0 || !observe.Same(o, api.Obs{}) || n != 0 {
			t.Errorf("case %d: Learn returns %v, %v, %d, %d, not %d", i, h, o, n, e, c.want)
		}
	}
	// After several prefixes there are too many traces, while the table remains within its limits.
	m, _ := drawn(6, 16, 60, 2)
	for mode := range 2 {
		if _, _, _, e := lstar.Learn(m, mode); e != api.ErrLimit {
			t.Errorf("in the mode %d Learn returns %d", mode, e)
		}
	}
}
