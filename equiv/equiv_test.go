package equiv_test

import (
	"math"
	"slices"
	"testing"

	"learner/api"
	"learner/equiv"
	"learner/mealy"
	"learner/minimize"
	"learner/random"
	"learner/word"
)

// gate returns the gate of the document: the inputs coin and push, and the outputs no, ok and turn.
func gate() api.Mealy {
	return api.Mealy{Inputs: 2, Next: [][]int{{1, 0}, {1, 0}}, Out: [][]int{{1, 0}, {1, 2}}}
}

// changed returns the gate after a change.
func changed(change func(m *api.Mealy)) api.Mealy {
	m := gate()
	change(&m)
	return m
}

// ring returns a machine whose only input leads through all states, with an output from each of them.
func ring(outputs ...int) api.Mealy {
	m := api.Mealy{Inputs: 1}
	for s, output := range outputs {
		m.Next = append(m.Next, []int{(s + 1) % len(outputs)})
		m.Out = append(m.Out, []int{output})
	}
	return m
}

// started returns m with another start.
func started(m api.Mealy, s int) api.Mealy {
	m.Start = s
	return m
}

// marked returns n outputs that are 0 but for a 1 with the index i.
func marked(n, i int) []int {
	outputs := make([]int, n)
	outputs[i] = 1
	return outputs
}

// wide returns a machine with all inputs, of which only the last one has another output than 0 in the second state.
func wide() api.Mealy {
	m := api.Mealy{Inputs: api.MaxInputs, Next: rows(2, api.MaxInputs, 0), Out: rows(2, api.MaxInputs, 0)}
	m.Next[0][5], m.Out[1][api.MaxInputs-1] = 1, api.MaxOutput
	return m
}

// rows returns n lists of equal numbers.
func rows(n, inputs, x int) [][]int {
	var l [][]int
	for range n {
		l = append(l, slices.Repeat([]int{x}, inputs))
	}
	return l
}

// drawn returns a random machine. With few outputs, many states are equivalent or hard to separate.
func drawn(state uint64, inputs, states, outputs int) api.Mealy {
	m := api.Mealy{Inputs: inputs}
	m.Start, state, _ = random.Below(state, states)
	for range states {
		var next, out []int
		next, state, _ = random.Word(state, states, inputs)
		out, state, _ = random.Word(state, outputs, inputs)
		m.Next = append(m.Next, next)
		m.Out = append(m.Out, out)
	}
	return m
}

// exchanged returns m with other numbers of its states, and these numbers.
func exchanged(m api.Mealy, state uint64) (api.Mealy, []int) {
	n := len(m.Next)
	number, _, _ := random.Shuffle(state, n)
	x := api.Mealy{Inputs: m.Inputs, Start: number[m.Start], Next: rows(n, m.Inputs, 0), Out: rows(n, m.Inputs, 0)}
	for s := range n {
		for a := range m.Inputs {
			x.Next[number[s]][a], x.Out[number[s]][a] = number[m.Next[s][a]], m.Out[s][a]
		}
	}
	return x, number
}

// samples returns machines with one or two inputs, some of which are equivalent or nearly so.
func samples() []api.Mealy {
	all := []api.Mealy{gate(), started(gate(), 1), ring(0), ring(0, 0), ring(0, 0, 1), ring(0, 0, 0, 1), ring(0, 1, 0, 1)}
	for state := range uint64(24) {
		m := drawn(state, 1+int(state%2), 1+int(state%4), 1+int(state%3))
		other, _ := exchanged(m, state)
		// The last state of this one differs.
		near := api.Mealy{Inputs: m.Inputs, Start: m.Start, Next: m.Next, Out: slices.Clone(m.Out)}
		last := len(m.Out) - 1
		near.Out[last] = slices.Clone(m.Out[last])
		near.Out[last][0]++
		least, _ := minimize.Min(m)
		all = append(all, m, other, near, least)
	}
	return all
}

// pairs returns all pairs of samples that have the same number of inputs.
func pairs() [][2]api.Mealy {
	var all [][2]api.Mealy
	machines := samples()
	for _, a := range machines {
		for _, b := range machines {
			if a.Inputs == b.Inputs {
				all = append(all, [2]api.Mealy{a, b})
			}
		}
	}
	return all
}

// tried returns the first word with different outputs from two states, by trying all words with less symbols than the machines together have states.
func tried(a, b api.Mealy, s, t int) ([]int, bool) {
	for w, ok := []int(nil), true; ok && len(w) < len(a.Next)+len(b.Next); w, ok = word.Next(w, a.Inputs) {
		x, _, _ := mealy.From(a, s, w)
		y, _, _ := mealy.From(b, t, w)
		if !slices.Equal(x, y) {
			return w, true
		}
	}
	return nil, false
}

// P9.1: the first distinguishing words; P9.3: whether machines are equivalent.
func TestDistinguish(t *testing.T) {
	unreachable := changed(func(m *api.Mealy) { m.Next, m.Out = append(m.Next, []int{0, 1}), append(m.Out, []int{7, 7}) })
	merged := wide()
	merged.Next[0][5] = 0
	silent := merged
	silent.Out = rows(2, api.MaxInputs, 0)
	for i, c := range []struct {
		a, b  api.Mealy
		want  []int
		found bool
	}{
		{ring(0, 0), ring(0, 0, 1), []int{0, 0, 0}, true},
		{ring(0, 0), ring(0), nil, false},
		{ring(0), ring(1), []int{0}, true},
		{ring(0, 1), ring(0, 1, 0, 1, 0, 1), nil, false},
		{ring(0, 1), started(ring(1, 0), 1), nil, false},
		{ring(0, 1), started(ring(0, 1), 1), []int{0}, true},
		{ring(0), ring(api.MaxOutput), []int{0}, true},
		{gate(), gate(), nil, false},
		// The gate that stays in the state 1 after push.
		{gate(), changed(func(m *api.Mealy) { m.Next[1][1] = 1 }), []int{0, 1, 1}, true},
		{gate(), started(gate(), 1), []int{1}, true},
		{gate(), changed(func(m *api.Mealy) { m.Out[1][1], m.Out[1][0] = 0, 0 }), []int{0, 0}, true},
		{gate(), changed(func(m *api.Mealy) { m.Out[0][1], m.Out[0][0] = 2, 2 }), []int{0}, true},
		{gate(), unreachable, nil, false},
		{unreachable, started(unreachable, 2), []int{0}, true},
		{wide(), wide(), nil, false},
		{merged, silent, nil, false},
		{wide(), merged, []int{5, api.MaxInputs - 1}, true},
		{started(wide(), 1), wide(), []int{api.MaxInputs - 1}, true},
		// The word 1 0 is as short as 1 1, and comes first; 0 leads nowhere.
		{api.Mealy{Inputs: 2, Next: [][]int{{0, 1}, {1, 0}}, Out: rows(2, 2, 0)}, api.Mealy{Inputs: 2, Next: [][]int{{0, 1}, {1, 0}}, Out: [][]int{{0, 0}, {1, 1}}}, []int{1, 0}, true},
		// The word 1 1 is shorter than 0 0 0.
		{api.Mealy{Inputs: 2, Next: [][]int{{1, 2}, {2, 0}, {0, 0}}, Out: rows(3, 2, 0)}, api.Mealy{Inputs: 2, Next: [][]int{{1, 2}, {2, 0}, {0, 0}}, Out: [][]int{{0, 0}, {0, 0}, {0, 1}}}, []int{1, 1}, true},
	} {
		w, found, e := equiv.Distinguish(c.a, c.b)
		if !slices.Equal(w, c.want) || found != c.found || e != api.OK {
			t.Errorf("case %d: Distinguish returns %v, %t, %d", i, w, found, e)
		}
		if same, e := equiv.Equal(c.a, c.b); same == c.found || e != api.OK {
			t.Errorf("case %d: Equal returns %t, %d", i, same, e)
		}
	}
}

// P9.1, P9.5: the word is the first of all words, its outputs but the last one agree, and it does not depend on the order of the machines.
func TestDistinguishTriesWords(t *testing.T) {
	for _, p := range pairs() {
		a, b := p[0], p[1]
		w, found, e := equiv.Distinguish(a, b)
		want, ok := tried(a, b, a.Start, b.Start)
		if !slices.Equal(w, want) || found != ok || e != api.OK {
			t.Fatalf("Distinguish of %v and %v returns %v, %t, %d, and not %v", a, b, w, found, e, want)
		}
		v, back, e := equiv.Distinguish(b, a)
		if !slices.Equal(v, w) || back != found || e != api.OK {
			t.Errorf("Distinguish of %v and %v returns %v, and %v for the reverse", a, b, w, v)
		}
		if !found {
			continue
		}
		x, _ := mealy.Run(a, w)
		y, _ := mealy.Run(b, w)
		last := len(w) - 1
		if len(w) >= len(a.Next)+len(b.Next) || !slices.Equal(x[:last], y[:last]) || x[last] == y[last] {
			t.Errorf("Distinguish of %v and %v returns %v with the outputs %v and %v", a, b, w, x, y)
		}
	}
}

// P9.5: the longest words that can be needed, for which nearly all pairs of states are reached.
func TestLongestWords(t *testing.T) {
	const n = api.MaxStates
	a, b := ring(marked(n-1, n-2)...), ring(marked(n, n-2)...)
	w, found, e := equiv.Distinguish(a, b)
	if len(w) != 2*n-2 || !found || e != api.OK {
		t.Errorf("Distinguish returns a word of %d symbols, %t, %d", len(w), found, e)
	}
	for k := range 2 * n {
		if up, e := equiv.Upto(a, b, k); up != (k < 2*n-2) || e != api.OK {
			t.Errorf("Upto for %d returns %t, %d", k, up, e)
		}
	}
	w, found, e = equiv.States(b, 0, n-1)
	if len(w) != n-1 || !found || e != api.OK {
		t.Errorf("States returns a word of %d symbols, %t, %d", len(w), found, e)
	}
	// All pairs are reached, because the numbers of states have no common divisor; and all of them are equivalent.
	if w, found, e := equiv.Distinguish(ring(make([]int, n-1)...), ring(make([]int, n)...)); len(w) != 0 || found || e != api.OK {
		t.Errorf("Distinguish returns %v, %t, %d", w, found, e)
	}
}

// P9.2: the first separating words of states, also of those that are not reachable.
func TestStates(t *testing.T) {
	example := ring(0, 0, 1)
	apart := api.Mealy{Inputs: 2, Next: [][]int{{0, 0}, {1, 0}, {1, 2}, {3, 1}}, Out: [][]int{{0, 0}, {0, 1}, {0, 1}, {0, 1}}}
	for i, c := range []struct {
		m     api.Mealy
		s, t  int
		want  []int
		found bool
	}{
		{example, 0, 1, []int{0, 0}, true},
		{example, 0, 2, []int{0}, true},
		{example, 2, 1, []int{0}, true},
		{example, 1, 1, nil, false},
		{ring(0, 0, 1, 0, 0, 1), 1, 4, nil, false},
		{ring(0, 0, 1, 0, 0, 1), 3, 1, []int{0, 0}, true},
		{gate(), 0, 1, []int{1}, true},
		{gate(), 1, 0, []int{1}, true},
		{apart, 0, 1, []int{1}, true},
		{apart, 1, 2, []int{1, 1}, true},
		{apart, 1, 3, []int{1, 1}, true},
		// The word 1 1 1 is as short, but comes later.
		{apart, 2, 3, []int{0, 1, 1}, true},
		{apart, 3, 3, nil, false},
		{wide(), 0, 1, []int{api.MaxInputs - 1}, true},
	} {
		if w, found, e := equiv.States(c.m, c.s, c.t); !slices.Equal(w, c.want) || found != c.found || e != api.OK {
			t.Errorf("case %d: States of %d and %d returns %v, %t, %d", i, c.s, c.t, w, found, e)
		}
	}
}

// P9.2: the word is the first one of all words, and does not depend on the order of the states or on the start.
func TestStatesTriesWords(t *testing.T) {
	for _, m := range samples() {
		for s := range m.Next {
			for r := range m.Next {
				w, found, e := equiv.States(m, s, r)
				if want, ok := tried(m, m, s, r); !slices.Equal(w, want) || found != ok || e != api.OK {
					t.Errorf("States of %v for %d and %d returns %v, %t, %d, and not %v", m, s, r, w, found, e, want)
				}
				v, _, _ := equiv.States(m, r, s)
				u, _, _ := equiv.Distinguish(started(m, s), started(m, r))
				if !slices.Equal(v, w) || !slices.Equal(u, w) {
					t.Errorf("States of %v for %d and %d returns %v, for the reverse %v, and Distinguish %v", m, s, r, w, v, u)
				}
			}
		}
	}
}

// P9.2: the errors and their order.
func TestStatesErrors(t *testing.T) {
	for _, c := range [][2]int{{2, 0}, {0, 2}, {-1, 1}, {1, -1}, {-1, -1}, {2, 2}, {math.MaxInt, 0}, {0, math.MinInt}} {
		if w, found, e := equiv.States(gate(), c[0], c[1]); len(w) != 0 || found || e != api.ErrRange {
			t.Errorf("States for %v returns %v, %t, %d", c, w, found, e)
		}
	}
	for i, m := range invalid() {
		want := mealy.Valid(m)
		for _, s := range []int{0, -1} {
			if w, found, e := equiv.States(m, s, 0); len(w) != 0 || found || e != want || want == api.OK {
				t.Errorf("case %d: States returns %v, %t, %d, not %d", i, w, found, e, want)
			}
		}
	}
}

// P9.3: words of a limited length, also for negative and very great numbers.
func TestUpto(t *testing.T) {
	for i, c := range []struct {
		a, b api.Mealy
		n    int
		want bool
	}{
		{ring(0, 0), ring(0, 0, 1), math.MinInt, true},
		{ring(0, 0), ring(0, 0, 1), -1, true},
		{ring(0, 0), ring(0, 0, 1), 0, true},
		{ring(0, 0), ring(0, 0, 1), 2, true},
		{ring(0, 0), ring(0, 0, 1), 3, false},
		{ring(0, 0), ring(0, 0, 1), 4, false},
		{ring(0, 0), ring(0, 0, 1), math.MaxInt, false},
		{ring(0), ring(1), math.MinInt, true},
		{ring(0), ring(1), -1, true},
		{ring(0), ring(1), 0, true},
		{ring(0), ring(1), 1, false},
		{ring(0, 1), ring(0, 1, 0, 1), math.MinInt, true},
		{ring(0, 1), ring(0, 1, 0, 1), 0, true},
		{ring(0, 1), ring(0, 1, 0, 1), math.MaxInt, true},
		{gate(), started(gate(), 1), 1, false},
	} {
		if up, e := equiv.Upto(c.a, c.b, c.n); up != c.want || e != api.OK {
			t.Errorf("case %d: Upto for %d returns %t, %d", i, c.n, up, e)
		}
	}
}

// P9.3, P9.6: Equal and Upto fit the first distinguishing word, which is the first one of all words.
func TestBounds(t *testing.T) {
	for _, p := range pairs() {
		a, b := p[0], p[1]
		w, found := tried(a, b, a.Start, b.Start)
		if same, e := equiv.Equal(a, b); same == found || e != api.OK {
			t.Errorf("Equal of %v and %v returns %t, %d", a, b, same, e)
		}
		for n := -1; n < 10; n++ {
			if up, e := equiv.Upto(a, b, n); up != (!found || n < len(w)) || e != api.OK {
				t.Errorf("Upto of %v and %v for %d returns %t, %d; the first word is %v", a, b, n, up, e, w)
			}
		}
	}
}

// P9.4: corresponding states.
func TestIso(t *testing.T) {
	unreachable := changed(func(m *api.Mealy) { m.Next, m.Out = append(m.Next, []int{0, 1}), append(m.Out, []int{7, 7}) })
	// These machines have the same output words, and states that are equivalent; the last one does not go back to 0.
	round, hook := ring(0, 0, 0), ring(0, 0, 0)
	hook.Next[2][0] = 1
	far := api.Mealy{Inputs: 1, Next: [][]int{{0}, {0}}, Out: [][]int{{0}, {0}}}
	for i, c := range []struct {
		a, b api.Mealy
		want []int
		ok   bool
	}{
		{ring(0, 0, 1), started(ring(1, 0, 0), 1), []int{1, 2, 0}, true},
		{started(ring(1, 0, 0), 1), ring(0, 0, 1), []int{2, 0, 1}, true},
		{started(ring(0, 1, 2, 3), 2), ring(2, 3, 0, 1), []int{2, 3, 0, 1}, true},
		{ring(5), ring(5), []int{0}, true},
		{ring(5), ring(6), nil, false},
		{gate(), gate(), []int{0, 1}, true},
		{gate(), started(gate(), 1), nil, false},
		{gate(), api.Mealy{Inputs: 2, Start: 1, Next: [][]int{{0, 1}, {0, 1}}, Out: [][]int{{1, 2}, {1, 0}}}, []int{1, 0}, true},
		{gate(), changed(func(m *api.Mealy) { m.Next[1][1] = 1 }), nil, false},
		{gate(), changed(func(m *api.Mealy) { m.Out[1][1] = 1 }), nil, false},
		// Equivalent machines that are not isomorphic.
		{ring(0, 1), ring(0, 1, 0, 1), nil, false},
		{round, hook, nil, false},
		{hook, round, nil, false},
		// States may be equivalent.
		{round, round, []int{0, 1, 2}, true},
		{hook, hook, []int{0, 1, 2}, true},
		// All states must be reachable.
		{far, far, nil, false},
		{far, ring(0, 0), nil, false},
		{ring(0, 0), far, nil, false},
		{ring(0), far, nil, false},
		{far, ring(0), nil, false},
		{unreachable, unreachable, nil, false},
		{gate(), unreachable, nil, false},
		{unreachable, gate(), nil, false},
		{wide(), wide(), []int{0, 1}, true},
	} {
		if l, ok, e := equiv.Iso(c.a, c.b); !slices.Equal(l, c.want) || ok != c.ok || e != api.OK {
			t.Errorf("case %d: Iso returns %v, %t, %d", i, l, ok, e)
		}
	}
}

// corresponds reports whether the states of a and those of b with the numbers of a list correspond.
func corresponds(a, b api.Mealy, states []int) bool {
	if states[a.Start] != b.Start {
		return false
	}
	for s, r := range states {
		for input := range a.Inputs {
			if a.Out[s][input] != b.Out[r][input] || states[a.Next[s][input]] != b.Next[r][input] {
				return false
			}
		}
	}
	return true
}

// P9.4: machines with other numbers of their states, if all of them are reachable.
func TestIsoOfExchangedStates(t *testing.T) {
	big := drawn(1, 3, api.MaxStates, 2)
	big.Start = 7
	for i, m := range append(samples(), big, ring(marked(api.MaxStates, 3)...)) {
		for _, m := range []api.Mealy{m, trimmed(m)} {
			other, number := exchanged(m, uint64(i))
			l, ok, e := equiv.Iso(m, other)
			if all := len(mealy.Reach(m)) == len(m.Next); ok != all || e != api.OK {
				t.Fatalf("Iso of %v and %v returns %v, %t, %d", m, other, l, ok, e)
			}
			if ok && !slices.Equal(l, number) {
				t.Errorf("Iso of %v and %v returns %v, not %v", m, other, l, number)
			}
		}
	}
}

// trimmed returns the machine of the reachable states.
func trimmed(m api.Mealy) api.Mealy {
	x, _ := mealy.Trim(m)
	return x
}

// permutations returns all orders of the numbers below n.
func permutations(n int) [][]int {
	if n == 0 {
		return [][]int{nil}
	}
	var all [][]int
	for _, p := range permutations(n - 1) {
		for i := range n {
			all = append(all, slices.Insert(slices.Clone(p), i, n-1))
		}
	}
	return all
}

// P9.4: Iso finds a correspondence just if one of all permutations is one.
func TestIsoTriesPermutations(t *testing.T) {
	for _, p := range pairs() {
		a, b := p[0], p[1]
		var want []int
		if len(mealy.Reach(a)) == len(a.Next) && len(mealy.Reach(b)) == len(b.Next) && len(a.Next) == len(b.Next) {
			for _, states := range permutations(len(a.Next)) {
				if corresponds(a, b, states) {
					want = states
				}
			}
		}
		if l, ok, e := equiv.Iso(a, b); !slices.Equal(l, want) || ok != (want != nil) || e != api.OK {
			t.Errorf("Iso of %v and %v returns %v, %t, %d, and not %v", a, b, l, ok, e, want)
		}
	}
}

// invalid returns machines that are not valid.
func invalid() []api.Mealy {
	return []api.Mealy{
		{},
		{Inputs: 1},
		{Inputs: api.MaxInputs + 1, Next: rows(1, api.MaxInputs+1, 0), Out: rows(1, api.MaxInputs+1, 0)},
		ring(make([]int, api.MaxStates+1)...),
		started(gate(), -1),
		{Inputs: 2, Next: [][]int{{0, 0}}},
		changed(func(m *api.Mealy) { m.Out[1] = m.Out[1][:1] }),
		changed(func(m *api.Mealy) { m.Next[1][1] = 2 }),
		changed(func(m *api.Mealy) { m.Out[0][1] = api.MaxOutput + 1 }),
	}
}

// refused reports whether all functions of two machines return an error, and nothing else.
func refused(a, b api.Mealy, want api.Errno) bool {
	w, found, e := equiv.Distinguish(a, b)
	same, e2 := equiv.Equal(a, b)
	l, ok, e3 := equiv.Iso(a, b)
	up, e4 := equiv.Upto(a, b, -1)
	return len(w) == 0 && !found && !same && len(l) == 0 && !ok && !up && e == want && e2 == want && e3 == want && e4 == want
}

// P9.1, P9.3, P9.4: the errors for two machines, and their order.
func TestInvalid(t *testing.T) {
	for i, m := range invalid() {
		want := mealy.Valid(m)
		if want == api.OK || !refused(m, gate(), want) || !refused(gate(), m, want) || !refused(m, m, want) {
			t.Errorf("case %d: the error is not %d", i, want)
		}
	}
	// The error of the first machine comes first, and then that of the second one.
	if !refused(api.Mealy{Inputs: 1}, api.Mealy{}, api.ErrEmpty) || !refused(api.Mealy{}, api.Mealy{Inputs: 1}, api.ErrRange) || !refused(ring(0), api.Mealy{Inputs: 2}, api.ErrEmpty) {
		t.Error("the errors come in another order")
	}
	if !refused(ring(0), gate(), api.ErrConflict) || !refused(gate(), ring(0), api.ErrConflict) || !refused(wide(), gate(), api.ErrConflict) {
		t.Error("different numbers of inputs are no conflict")
	}
}

// P9.7: equivalent machines have the same minimal machine, and equivalent states the same class.
func TestMinimalMachines(t *testing.T) {
	for _, p := range pairs() {
		x, _ := minimize.Min(p[0])
		y, _ := minimize.Min(p[1])
		if same, e := equiv.Equal(p[0], p[1]); same != mealy.Same(x, y) || e != api.OK {
			t.Errorf("Equal of %v and %v returns %t, %d, and Min %v and %v", p[0], p[1], same, e, x, y)
		}
	}
	for _, m := range append(samples(), drawn(3, 1, 40, 2), drawn(4, 3, 40, 1)) {
		classes, _ := minimize.Classes(m)
		for s := range m.Next {
			for r := range m.Next {
				if _, found, e := equiv.States(m, s, r); found == (classes[s] == classes[r]) || e != api.OK {
					t.Errorf("States of %v for %d and %d returns %t, %d, and the classes are %v", m, s, r, found, e, classes)
				}
			}
		}
	}
}

// P9.8: isomorphic machines are equivalent, and minimal machines that are equivalent are isomorphic.
func TestIsomorphicMachines(t *testing.T) {
	for _, p := range pairs() {
		a, b := p[0], p[1]
		_, iso, e := equiv.Iso(a, b)
		same, e2 := equiv.Equal(a, b)
		minimal := minimize.Minimal(a) && minimize.Minimal(b)
		if e != api.OK || e2 != api.OK || iso && !same || minimal && same && !iso {
			t.Errorf("Iso of %v and %v returns %t, %d, and Equal %t, %d", a, b, iso, e, same, e2)
		}
	}
}

// R5: the machines do not change, and results are new memory.
func TestMemory(t *testing.T) {
	a, b := gate(), changed(func(m *api.Mealy) { m.Next[1][1] = 1 })
	w, _, _ := equiv.Distinguish(a, b)
	v, _, _ := equiv.States(a, 0, 1)
	l, _, _ := equiv.Iso(a, gate())
	w[0], v[0], l[0] = 7, 7, 7
	if up, e := equiv.Upto(a, b, 2); !up || e != api.OK {
		t.Error("Upto returns", up, e)
	}
	if !mealy.Same(a, gate()) || !mealy.Same(b, changed(func(m *api.Mealy) { m.Next[1][1] = 1 })) {
		t.Error("the machines have become", a, b)
	}
	if again, _, _ := equiv.Distinguish(a, b); !slices.Equal(again, []int{0, 1, 1}) {
		t.Error("Distinguish returns", again)
	}
}
