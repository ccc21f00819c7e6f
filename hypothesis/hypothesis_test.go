package hypothesis_test

import (
	"math"
	"slices"
	"testing"

	"learner/api"
	"learner/cover"
	"learner/hypothesis"
	"learner/mealy"
	"learner/observe"
	"learner/random"
	"learner/word"
	"learner/wordset"
)

// gate returns the gate of the document.
func gate() api.Mealy {
	return api.Mealy{Inputs: 2, Next: [][]int{{1, 0}, {1, 0}}, Out: [][]int{{1, 0}, {1, 2}}}
}

// one returns the hypothesis with one state of the document.
func one() api.Hyp {
	return hyp(api.Mealy{Inputs: 2, Next: [][]int{{0, 0}}, Out: [][]int{{1, 0}}}, nil)
}

// hyp returns a hypothesis.
func hyp(m api.Mealy, access ...[]int) api.Hyp {
	return api.Hyp{M: m, Access: access}
}

// trace returns a trace.
func trace(in, out []int) api.Trace {
	return api.Trace{In: in, Out: out}
}

// obs returns observations.
func obs(inputs int, traces ...api.Trace) api.Obs {
	return api.Obs{Inputs: inputs, Traces: traces}
}

// drawn returns a random machine whose states are reachable, and the state of the random numbers after it.
func drawn(state uint64, inputs, states int) (api.Mealy, uint64) {
	m := api.Mealy{Inputs: inputs}
	m.Start, state, _ = random.Below(state, states)
	for range states {
		var next, out []int
		next, state, _ = random.Word(state, states, inputs)
		out, state, _ = random.Word(state, 2, inputs)
		m.Next, m.Out = append(m.Next, next), append(m.Out, out)
	}
	m, _ = mealy.Trim(m)
	return m, state
}

// drawnWords returns n random words of at most most symbols.
func drawnWords(state uint64, inputs, n, most int) [][]int {
	var l [][]int
	for range n {
		var length int
		var w []int
		length, state, _ = random.Below(state, most+1)
		w, state, _ = random.Word(state, inputs, length)
		l = append(l, w)
	}
	return l
}

// accessed returns the hypothesis with a machine whose states are reachable, in which the access words of some states are not the first ones.
func accessed(m api.Mealy, state uint64) api.Hyp {
	h := hyp(m, make([][]int, len(m.Next))...)
	states, words, _ := cover.Access(m)
	for i, s := range states {
		h.Access[s] = words[i]
	}
	for _, w := range drawnWords(state, m.Inputs, 5, 6) {
		if _, s, _ := mealy.From(m, m.Start, w); s != m.Start {
			h.Access[s] = w
		}
	}
	return h
}

// P22.1: access words can be any words that reach their states, but that of Start is empty.
func TestValid(t *testing.T) {
	turned := gate()
	turned.Start = 1
	most := api.Mealy{Inputs: api.MaxInputs}
	var long [][]int
	for s := range api.MaxStates {
		most.Next = append(most.Next, slices.Repeat([]int{(s + 1) % api.MaxStates}, api.MaxInputs))
		most.Out = append(most.Out, slices.Repeat([]int{s}, api.MaxInputs))
		// The words of the length 7 * 128 + s reach the state s.
		long = append(long, slices.Repeat([]int{s % api.MaxInputs}, 7*api.MaxStates+s))
	}
	long[0] = nil
	for i, h := range []api.Hyp{
		one(),
		hyp(gate(), nil, []int{0}),
		hyp(gate(), []int{}, []int{0, 1, 0, 0}),
		hyp(gate(), nil, append(make([]int, api.MaxWord-1), 0)),
		hyp(turned, []int{1}, nil),
		hyp(turned, []int{0, 1, 1}, []int{}),
		hyp(most, long...),
	} {
		if e := hypothesis.Valid(h); e != api.OK {
			t.Errorf("case %d: Valid returns %d", i, e)
		}
	}
	for state := range uint64(100) {
		m, next := drawn(state, 1+int(state%3), 1+int(state%7))
		if h := accessed(m, next); hypothesis.Valid(h) != api.OK {
			t.Errorf("Valid of %v returns %d", h, hypothesis.Valid(h))
		}
	}
}

// P22.1: the errors and their order.
func TestValidErrors(t *testing.T) {
	noOutputs, wide := gate(), gate()
	noOutputs.Out = nil
	wide.Out[1][1] = api.MaxOutput + 1
	unreached := gate()
	unreached.Next, unreached.Out = append(unreached.Next, []int{0, 0}), append(unreached.Out, []int{0, 0})
	tooLong := make([]int, api.MaxWord+1)
	for i, c := range []struct {
		h    api.Hyp
		want api.Errno
	}{
		{api.Hyp{}, api.ErrRange},
		{hyp(api.Mealy{Inputs: 2}), api.ErrEmpty},
		{hyp(api.Mealy{Inputs: 2, Next: make([][]int, api.MaxStates+1)}), api.ErrLimit},
		{hyp(noOutputs, nil, []int{0}), api.ErrInvalid},
		{hyp(wide, nil, []int{0}), api.ErrRange},
		{hyp(wide, nil), api.ErrRange},
		{hyp(wide, nil, []int{2}), api.ErrRange},
		{hyp(gate()), api.ErrInvalid},
		{hyp(gate(), nil), api.ErrInvalid},
		{hyp(gate(), []int{1}), api.ErrInvalid},
		{hyp(gate(), tooLong), api.ErrInvalid},
		{hyp(gate(), nil, []int{0}, nil), api.ErrInvalid},
		{hyp(gate(), tooLong, []int{0}), api.ErrTooLong},
		{hyp(gate(), nil, tooLong), api.ErrTooLong},
		{hyp(gate(), []int{2}, []int{0}), api.ErrInvalid},
		{hyp(gate(), nil, []int{0, -1}), api.ErrInvalid},
		{hyp(gate(), nil, []int{math.MaxInt}), api.ErrInvalid},
		{hyp(gate(), nil, nil), api.ErrConflict},
		{hyp(gate(), nil, []int{0, 1}), api.ErrConflict},
		{hyp(gate(), []int{0}, nil), api.ErrConflict},
		{hyp(gate(), []int{0}, []int{2}), api.ErrConflict},
		{hyp(gate(), []int{2}, nil), api.ErrInvalid},
		{hyp(gate(), []int{1}, []int{2}), api.ErrInvalid},
		{hyp(gate(), []int{1}, tooLong), api.ErrTooLong},
		{hyp(gate(), []int{1}, []int{1}), api.ErrConflict},
		{hyp(gate(), []int{1}, []int{0}), api.ErrState},
		{hyp(gate(), []int{0, 1}, []int{0}), api.ErrState},
		{hyp(unreached, nil, []int{0}, []int{0}), api.ErrConflict},
		{hyp(unreached, nil, []int{0}, nil), api.ErrConflict},
	} {
		if e := hypothesis.Valid(c.h); e != c.want {
			t.Errorf("case %d: Valid returns %d, not %d", i, e, c.want)
		}
	}
}

// P22.2: the access word of the state that a word reaches.
func TestState(t *testing.T) {
	turned := gate()
	turned.Start = 1
	for i, c := range []struct {
		h       api.Hyp
		w, want []int
	}{
		{one(), nil, nil},
		{one(), []int{0, 1, 1}, nil},
		{hyp(gate(), nil, []int{0}), nil, nil},
		{hyp(gate(), nil, []int{0}), []int{1, 0, 0}, []int{0}},
		{hyp(gate(), nil, []int{0}), []int{0, 0, 1}, nil},
		{hyp(gate(), nil, []int{1, 0, 0}), []int{0}, []int{1, 0, 0}},
		{hyp(gate(), nil, []int{0}), make([]int, api.MaxWord), []int{0}},
		{hyp(turned, []int{0, 1}, nil), []int{1}, []int{0, 1}},
		{hyp(turned, []int{0, 1}, nil), []int{1, 0}, nil},
	} {
		if w, e := hypothesis.State(c.h, c.w); !slices.Equal(w, c.want) || e != api.OK {
			t.Errorf("case %d: State returns %v, %d", i, w, e)
		}
	}
	for state := range uint64(100) {
		m, next := drawn(state, 1+int(state%3), 1+int(state%7))
		h := accessed(m, next)
		for _, w := range drawnWords(next, m.Inputs, 10, 8) {
			_, s, _ := mealy.From(m, m.Start, w)
			if access, e := hypothesis.State(h, w); !slices.Equal(access, h.Access[s]) || e != api.OK {
				t.Fatalf("State of %v for %v returns %v, %d", w, h, access, e)
			}
		}
	}
}

// P22.2: the errors.
func TestStateErrors(t *testing.T) {
	for i, c := range []struct {
		w    []int
		want api.Errno
	}{
		{[]int{2}, api.ErrInvalid},
		{[]int{0, 0, -1}, api.ErrInvalid},
		{[]int{math.MinInt}, api.ErrInvalid},
		{make([]int, api.MaxWord+1), api.ErrTooLong},
		{slices.Repeat([]int{2}, api.MaxWord+1), api.ErrTooLong},
	} {
		if w, e := hypothesis.State(hyp(gate(), nil, []int{0}), c.w); len(w) != 0 || e != c.want {
			t.Errorf("case %d: State returns %v, %d, not %d", i, w, e, c.want)
		}
	}
}

// P22.3: the first word in shortlex order counts, which can be the beginning of any trace.
func TestRefuted(t *testing.T) {
	g := hyp(gate(), nil, []int{0})
	for i, c := range []struct {
		h    api.Hyp
		o    api.Obs
		want []int
	}{
		{one(), obs(2), nil},
		{g, obs(2), nil},
		{one(), obs(2, trace([]int{0, 1}, []int{1, 2})), []int{0, 1}},
		{g, obs(2, trace([]int{0, 1}, []int{1, 2})), nil},
		{g, obs(2, trace([]int{0, 1}, []int{5, 2})), []int{0}},
		{g, obs(2, trace([]int{0, 1}, []int{5, 7})), []int{0}},
		{one(), obs(2, trace([]int{1, 1}, []int{0, 0}), trace([]int{0, 1, 0, 1}, []int{1, 2, 1, 2})), []int{0, 1}},
		// The prefix of a later trace is shorter, or of the same length and before the other word.
		{g, obs(2, trace([]int{0, 0}, []int{1, 9}), trace([]int{1, 1, 0, 0}, []int{4, 0, 1, 1})), []int{1}},
		{g, obs(2, trace([]int{1, 0}, []int{0, 9}), trace([]int{0, 1, 0}, []int{1, 9, 9})), []int{0, 1}},
		{g, obs(2, trace([]int{0, 1}, []int{1, 9}), trace([]int{1, 0, 0}, []int{0, 9, 1})), []int{0, 1}},
		{g, obs(2, trace([]int{0, 1, 0}, []int{1, 2, 9}), trace([]int{0, 1, 1}, []int{1, 2, 9})), []int{0, 1, 0}},
		{g, obs(2, trace([]int{0, 0, 0}, []int{1, 1, 1}), trace([]int{0, 1, 1}, []int{1, 2, 9}), trace([]int{1, 0, 0, 0, 1, 1}, []int{0, 1, 1, 1, 9, 9})), []int{0, 1, 1}},
		{g, obs(2, trace(make([]int, api.MaxWord), append(slices.Repeat([]int{1}, api.MaxWord-1), 0))), make([]int, api.MaxWord)},
	} {
		valid := hypothesis.Valid(c.h) == api.OK && observe.Valid(c.o) == api.OK
		w, ok, e := hypothesis.Refuted(c.h, c.o)
		if !valid || !slices.Equal(w, c.want) || ok != (c.want != nil) || e != api.OK {
			t.Errorf("case %d: Refuted returns %v, %t, %d", i, w, ok, e)
		}
	}
}

// P22.3: the numbers of inputs have to be equal.
func TestRefutedErrors(t *testing.T) {
	for i, o := range []api.Obs{obs(1), obs(3), obs(0), obs(1, trace([]int{0}, []int{7})), obs(3, trace([]int{2}, []int{7}))} {
		if w, ok, e := hypothesis.Refuted(hyp(gate(), nil, []int{0}), o); len(w) != 0 || ok || e != api.ErrConflict {
			t.Errorf("case %d: Refuted returns %v, %t, %d", i, w, ok, e)
		}
	}
}

// firstRefuted returns the first word that is answered with another output word than that of a machine, by trying all words.
func firstRefuted(m api.Mealy, o api.Obs, most int) ([]int, bool) {
	all, _ := wordset.Upto(o.Inputs, most)
	for _, w := range all {
		answer, known := observe.Answer(o, w)
		if right, _ := mealy.Run(m, w); known && !slices.Equal(answer, right) {
			return w, true
		}
	}
	return nil, false
}

// P22.3, P22.6: hypotheses and observations of other machines.
func TestRefutations(t *testing.T) {
	refuted, confirmed := 0, 0
	for state := range uint64(600) {
		inputs := 1 + int(state%3)
		m, next := drawn(state, inputs, 1+int(state%4))
		system, next := drawn(next, inputs, 1+int(state%5))
		o, _ := observe.Of(system, drawnWords(next, inputs, int(state%9), 5))
		w, ok, e := hypothesis.Refuted(accessed(m, next), o)
		want, found := firstRefuted(m, o, 5)
		if !slices.Equal(w, want) || ok != found || e != api.OK {
			t.Fatalf("Refuted of %v and %v returns %v, %t, %d, not %v, %t", m, o, w, ok, e, want, found)
		}
		if !ok {
			confirmed++
			continue
		}
		refuted++
		answer, _ := observe.Answer(o, w)
		right, _ := mealy.Run(m, w)
		if len(w) == 0 || word.Common(answer, right) != len(w)-1 {
			t.Fatalf("%v is answered with %v, not %v", w, answer, right)
		}
	}
	if refuted < 100 || confirmed < 100 {
		t.Error(refuted, "hypotheses are refuted,", confirmed, "are not")
	}
}

// P22.3: as many long traces as possible, and the greatest machine, in a reasonable time.
func TestRefutedMost(t *testing.T) {
	m := api.Mealy{Inputs: api.MaxInputs}
	for s := range api.MaxStates {
		next, _, _ := random.Word(uint64(s), api.MaxStates, api.MaxInputs)
		m.Next, m.Out = append(m.Next, next), append(m.Out, slices.Repeat([]int{s % 3}, api.MaxInputs))
	}
	o := obs(api.MaxInputs)
	for i := range api.MaxTraces {
		in := append([]int{i / 4096, i / 64 % 64, i % 64}, make([]int, 50)...)
		out, _ := mealy.Run(m, in)
		o.Traces = append(o.Traces, trace(in, out))
	}
	h := hyp(m, make([][]int, api.MaxStates)...)
	if w, ok, e := hypothesis.Refuted(h, o); len(w) != 0 || ok || e != api.OK {
		t.Error("Refuted returns", w, ok, e)
	}
	o.Traces[9000].Out[40]++
	o.Traces[9500].Out[30]++
	if w, ok, e := hypothesis.Refuted(h, o); !slices.Equal(w, o.Traces[9500].In[:31]) || !ok || e != api.OK {
		t.Error("Refuted returns", w, ok, e)
	}
}

// R1: no hypotheses and observations make a function panic.
func TestNotValid(t *testing.T) {
	odd := []api.Trace{{}, trace([]int{0, 1}, nil), trace(nil, []int{1}), trace([]int{-1, 5}, []int{7, 8}), trace([]int{0}, []int{1, 2, 3}), trace(make([]int, api.MaxWord+2), []int{0}), trace([]int{0, 0, 0}, []int{-1, math.MaxInt, 0})}
	ragged := gate()
	ragged.Next[1] = nil
	words := [][]int{nil, {0}, {0, 1}, {0, 1, 1}, {-1}, {math.MaxInt, 0}, make([]int, api.MaxWord+1)}
	for _, h := range []api.Hyp{{}, hyp(gate()), hyp(gate(), nil), hyp(ragged, nil, nil), hyp(api.Mealy{Inputs: 1}, nil), hyp(api.Mealy{Inputs: math.MaxInt}, nil)} {
		hypothesis.Valid(h)
		for _, w := range words {
			hypothesis.State(h, w)
		}
		for i := range odd {
			for inputs := range 4 {
				o := obs(inputs, append(slices.Clone(odd[i:]), odd[:i]...)...)
				hypothesis.Refuted(h, o)
				for _, u := range words {
					hypothesis.Apart(o, u, words[i])
				}
				hypothesis.Lower(o, words)
			}
		}
	}
	many := obs(2, slices.Repeat([]api.Trace{trace([]int{0, 1}, []int{1, 2})}, api.MaxTraces+1)...)
	hypothesis.Refuted(hyp(gate(), nil, []int{0}), many)
	hypothesis.Apart(many, nil, []int{0})
}

// R5: results are new memory, and arguments do not change.
func TestMemory(t *testing.T) {
	h := hyp(gate(), nil, []int{0, 1, 0, 9}[:3])
	w, _ := hypothesis.State(h, []int{0})
	w = append(w, 5)
	clear(w)
	if !slices.Equal(h.Access[1][:4], []int{0, 1, 0, 9}) {
		t.Error("the access word has become", h.Access[1][:4])
	}
	o := obs(2, trace([]int{1, 0}, []int{0, 4}), trace([]int{0, 1, 1, 8}[:3], []int{1, 2, 3, 8}[:3]), trace([]int{1, 1, 0, 1}, []int{0, 0, 1, 2}))
	refuted, _, _ := hypothesis.Refuted(h, o)
	apart, _ := hypothesis.Apart(o, nil, []int{0})
	for _, w := range [][]int{refuted, apart} {
		if len(w) == 0 {
			t.Fatal("there is no word")
		}
		w = append(w, 5)
		for i := range w {
			w[i] = -7
		}
	}
	hypothesis.Lower(o, [][]int{nil, {0}, {1}})
	want := obs(2, trace([]int{1, 0}, []int{0, 4}), trace([]int{0, 1, 1}, []int{1, 2, 3}), trace([]int{1, 1, 0, 1}, []int{0, 0, 1, 2}))
	if !observe.Same(o, want) || o.Traces[1].In[:4][3] != 8 || o.Traces[1].Out[:4][3] != 8 {
		t.Error("the observations have become", o)
	}
}
