package mealy_test

import (
	"math"
	"slices"
	"testing"

	"learner/api"
	"learner/mealy"
	"learner/random"
	"learner/word"
)

// gate returns the gate of the document: the inputs coin and push, and the outputs no, ok and turn.
func gate() api.Mealy {
	return api.Mealy{Inputs: 2, Next: [][]int{{1, 0}, {1, 0}}, Out: [][]int{{1, 0}, {1, 2}}}
}

// changed returns the gate after a change.
func changed(change func(m *api.Mealy)) api.Mealy {
	m := gate()
	change(&m)
	return m
}

// counter returns a machine whose only input leads through all states; it returns the number of the state.
func counter(states int) api.Mealy {
	m := api.Mealy{Inputs: 1}
	for s := range states {
		m.Next = append(m.Next, []int{(s + 1) % states})
		m.Out = append(m.Out, []int{s})
	}
	return m
}

// drawn returns a random machine.
func drawn(state uint64, inputs, states int) api.Mealy {
	m := api.Mealy{Inputs: inputs}
	m.Start, state, _ = random.Below(state, states)
	for range states {
		var next, out []int
		next, state, _ = random.Word(state, states, inputs)
		out, state, _ = random.Word(state, 3, inputs)
		m.Next = append(m.Next, next)
		m.Out = append(m.Out, out)
	}
	return m
}

// rows returns n lists of equal numbers.
func rows(n, inputs, x int) [][]int {
	var l [][]int
	for range n {
		l = append(l, slices.Repeat([]int{x}, inputs))
	}
	return l
}

// same reports whether two lists of words are equal.
func same(a, b [][]int) bool {
	return slices.EqualFunc(a, b, slices.Equal[[]int])
}

// invalid are machines with the errors that Valid returns for them.
func invalid() map[string]struct {
	m    api.Mealy
	want api.Errno
} {
	return map[string]struct {
		m    api.Mealy
		want api.Errno
	}{
		"nothing":            {api.Mealy{}, api.ErrRange},
		"no input":           {changed(func(m *api.Mealy) { m.Inputs = 0 }), api.ErrRange},
		"negative inputs":    {changed(func(m *api.Mealy) { m.Inputs = math.MinInt }), api.ErrRange},
		"too many inputs":    {api.Mealy{Inputs: api.MaxInputs + 1, Next: rows(1, api.MaxInputs+1, 0), Out: rows(1, api.MaxInputs+1, 0)}, api.ErrRange},
		"inputs and states":  {api.Mealy{Inputs: -1, Start: 3}, api.ErrRange},
		"no state":           {api.Mealy{Inputs: 1}, api.ErrEmpty},
		"no state but Out":   {api.Mealy{Inputs: 1, Start: -1, Out: rows(2, 1, 0)}, api.ErrEmpty},
		"too many states":    {counter(api.MaxStates + 1), api.ErrLimit},
		"states and Start":   {api.Mealy{Inputs: 1, Start: -1, Next: rows(api.MaxStates+1, 2, 0)}, api.ErrLimit},
		"Start too great":    {changed(func(m *api.Mealy) { m.Start = 2 }), api.ErrRange},
		"Start negative":     {changed(func(m *api.Mealy) { m.Start = -1 }), api.ErrRange},
		"Start and Out":      {changed(func(m *api.Mealy) { m.Start, m.Out = math.MaxInt, nil }), api.ErrRange},
		"no Out":             {changed(func(m *api.Mealy) { m.Out = nil }), api.ErrInvalid},
		"Out too short":      {changed(func(m *api.Mealy) { m.Out = m.Out[:1] }), api.ErrInvalid},
		"Out too long":       {changed(func(m *api.Mealy) { m.Out = append(m.Out, []int{0, 0}) }), api.ErrInvalid},
		"Out and Next":       {changed(func(m *api.Mealy) { m.Out, m.Next[0] = m.Out[:1], []int{2, 2} }), api.ErrInvalid},
		"short Next":         {changed(func(m *api.Mealy) { m.Next[1] = m.Next[1][:1] }), api.ErrInvalid},
		"long Next":          {changed(func(m *api.Mealy) { m.Next[0] = []int{0, 0, 0} }), api.ErrInvalid},
		"short Out":          {changed(func(m *api.Mealy) { m.Out[0] = nil }), api.ErrInvalid},
		"long Out":           {changed(func(m *api.Mealy) { m.Out[1] = []int{0, 0, 0} }), api.ErrInvalid},
		"lists before steps": {changed(func(m *api.Mealy) { m.Next[0][0], m.Out[0] = 2, []int{0} }), api.ErrInvalid},
		"states in order":    {changed(func(m *api.Mealy) { m.Next[0][1], m.Next[1] = 2, nil }), api.ErrRange},
		"outputs in order":   {changed(func(m *api.Mealy) { m.Out[0][1], m.Next[1] = -1, nil }), api.ErrRange},
		"later state":        {changed(func(m *api.Mealy) { m.Next[0], m.Next[1][0] = nil, 2 }), api.ErrInvalid},
		"Next too great":     {changed(func(m *api.Mealy) { m.Next[1][1] = 2 }), api.ErrRange},
		"Next negative":      {changed(func(m *api.Mealy) { m.Next[0][0] = -1 }), api.ErrRange},
		"Next far away":      {changed(func(m *api.Mealy) { m.Next[0][1] = math.MaxInt }), api.ErrRange},
		"output negative":    {changed(func(m *api.Mealy) { m.Out[1][1] = -1 }), api.ErrRange},
		"output too great":   {changed(func(m *api.Mealy) { m.Out[0][0] = api.MaxOutput + 1 }), api.ErrRange},
		"output far away":    {changed(func(m *api.Mealy) { m.Out[0][0] = math.MinInt }), api.ErrRange},
	}
}

// P6.1: machines that are valid, up to the limits.
func TestValid(t *testing.T) {
	for i, m := range []api.Mealy{
		gate(),
		changed(func(m *api.Mealy) { m.Start = 1 }),
		changed(func(m *api.Mealy) { m.Out[1][1] = api.MaxOutput }),
		counter(1),
		counter(api.MaxStates),
		{Inputs: api.MaxInputs, Next: rows(1, api.MaxInputs, 0), Out: rows(1, api.MaxInputs, 5)},
		drawn(1, api.MaxInputs, api.MaxStates),
	} {
		if e := mealy.Valid(m); e != api.OK {
			t.Errorf("case %d: Valid returns %d", i, e)
		}
	}
}

// P6.1: the errors and their order.
func TestValidErrors(t *testing.T) {
	for name, c := range invalid() {
		if e := mealy.Valid(c.m); e != c.want {
			t.Errorf("%s: Valid returns %d, not %d", name, e, c.want)
		}
	}
}

// P6.2 to P6.4, P6.6: the error of Valid comes first. P6.3, P6.5: there is nothing for a machine that is not valid.
func TestInvalidMachines(t *testing.T) {
	for name, c := range invalid() {
		next, out, e := mealy.Step(c.m, -1, -1)
		if next != 0 || out != 0 || e != c.want {
			t.Errorf("%s: Step returns %d, %d, %d", name, next, out, e)
		}
		w, e := mealy.Run(c.m, []int{-1})
		if len(w) != 0 || e != c.want {
			t.Errorf("%s: Run returns %v, %d", name, w, e)
		}
		w, s, e := mealy.From(c.m, -1, []int{-1})
		if len(w) != 0 || s != 0 || e != c.want {
			t.Errorf("%s: From returns %v, %d, %d", name, w, s, e)
		}
		m, e := mealy.Trim(c.m)
		if !mealy.Same(m, api.Mealy{}) || e != c.want {
			t.Errorf("%s: Trim returns %v, %d", name, m, e)
		}
		l, e := mealy.Traces(c.m, make([][]int, api.MaxWords+1))
		if len(l) != 0 || e != c.want {
			t.Errorf("%s: Traces returns %v, %d", name, l, e)
		}
		if reached, outputs := mealy.Reach(c.m), mealy.Outputs(c.m); len(reached) != 0 || len(outputs) != 0 {
			t.Errorf("%s: Reach returns %v, and Outputs %v", name, reached, outputs)
		}
	}
}

// P6.2: single steps.
func TestStep(t *testing.T) {
	m := drawn(7, 5, 9)
	for s := range 9 {
		for a := range 5 {
			if next, out, e := mealy.Step(m, s, a); next != m.Next[s][a] || out != m.Out[s][a] || e != api.OK {
				t.Errorf("Step of %d and %d returns %d, %d, %d", s, a, next, out, e)
			}
		}
	}
	for _, c := range [][2]int{{2, 0}, {-1, 0}, {math.MaxInt, 0}, {0, 2}, {0, -1}, {1, math.MinInt}, {2, 2}} {
		if next, out, e := mealy.Step(gate(), c[0], c[1]); next != 0 || out != 0 || e != api.ErrRange {
			t.Errorf("Step of %v returns %d, %d, %d", c, next, out, e)
		}
	}
}

// P6.2: output words from every state, and the states after them.
func TestFrom(t *testing.T) {
	m := changed(func(m *api.Mealy) { m.Start = 1 })
	for _, c := range []struct {
		s       int
		w, want []int
		end     int
	}{
		{0, nil, nil, 0},
		{1, nil, nil, 1},
		{0, []int{1}, []int{0}, 0},
		{1, []int{1}, []int{2}, 0},
		{0, []int{1, 0, 1}, []int{0, 1, 2}, 0},
		{1, []int{1, 0, 1, 1, 0, 0}, []int{2, 1, 2, 0, 1, 1}, 1},
	} {
		if w, end, e := mealy.From(m, c.s, c.w); !slices.Equal(w, c.want) || end != c.end || e != api.OK {
			t.Errorf("From of %d and %v returns %v, %d, %d", c.s, c.w, w, end, e)
		}
	}
}

// P6.2: output words from Start, also of the longest words.
func TestRun(t *testing.T) {
	for _, c := range []struct {
		start   int
		w, want []int
	}{
		{0, nil, nil},
		{0, []int{1, 0, 1}, []int{0, 1, 2}},
		{1, []int{1, 0, 1}, []int{2, 1, 2}},
		{0, slices.Repeat([]int{0}, api.MaxWord), slices.Repeat([]int{1}, api.MaxWord)},
	} {
		m := changed(func(m *api.Mealy) { m.Start = c.start })
		if w, e := mealy.Run(m, c.w); !slices.Equal(w, c.want) || e != api.OK {
			t.Errorf("Run of %v from %d returns %v, %d", c.w, c.start, w, e)
		}
	}
}

// P6.2: the errors for states and words, and their order.
func TestRunErrors(t *testing.T) {
	long := make([]int, api.MaxWord+1)
	for i, c := range []struct {
		s    int
		w    []int
		want api.Errno
	}{
		{2, nil, api.ErrRange},
		{-1, nil, api.ErrRange},
		{math.MaxInt, []int{2}, api.ErrRange},
		{2, long, api.ErrRange},
		{0, long, api.ErrTooLong},
		{0, append(slices.Clone(long), 2), api.ErrTooLong},
		{0, []int{2}, api.ErrInvalid},
		{1, []int{0, -1}, api.ErrInvalid},
		{1, []int{0, math.MaxInt, 0}, api.ErrInvalid},
	} {
		if w, end, e := mealy.From(gate(), c.s, c.w); len(w) != 0 || end != 0 || e != c.want {
			t.Errorf("case %d: From returns %v, %d, %d", i, w, end, e)
		}
		if c.want == api.ErrRange {
			continue
		}
		if w, e := mealy.Run(gate(), c.w); len(w) != 0 || e != c.want {
			t.Errorf("case %d: Run returns %v, %d", i, w, e)
		}
	}
}

// P6.3: reachable states in the order of their access words.
func TestReach(t *testing.T) {
	unreachable := changed(func(m *api.Mealy) {
		m.Next = append(m.Next, []int{0, 1})
		m.Out = append(m.Out, []int{7, 7})
	})
	started := unreachable
	started.Start = 2
	for i, c := range []struct {
		m    api.Mealy
		want []int
	}{
		{gate(), []int{0, 1}},
		{changed(func(m *api.Mealy) { m.Start = 1 }), []int{1, 0}},
		{changed(func(m *api.Mealy) { m.Next[0][0] = 0 }), []int{0}},
		{unreachable, []int{0, 1}},
		{started, []int{2, 0, 1}},
		{counter(5), []int{0, 1, 2, 3, 4}},
		// The word 0 0 0 reaches 3 too, but the access word of 3 is 1 0, because it is shorter.
		{api.Mealy{Inputs: 2, Next: [][]int{{2, 4}, {3, 0}, {1, 0}, {3, 3}, {3, 4}}, Out: rows(5, 2, 0)}, []int{0, 2, 4, 1, 3}},
	} {
		if l := mealy.Reach(c.m); !slices.Equal(l, c.want) {
			t.Errorf("case %d: Reach returns %v", i, l)
		}
	}
}

// reached returns the states in the order in which the first words in shortlex order reach them. No access word has more symbols than there are other states.
func reached(m api.Mealy) []int {
	var found []int
	for w, ok := []int(nil), true; ok && len(w) < len(m.Next); w, ok = word.Next(w, m.Inputs) {
		if _, s, _ := mealy.From(m, m.Start, w); !slices.Contains(found, s) {
			found = append(found, s)
		}
	}
	return found
}

// P6.3: the same order as by trying all words; P6.4: the states are numbered in it.
func TestReachTriesWords(t *testing.T) {
	for state := range uint64(60) {
		m := drawn(state, 1+int(state%3), 1+int(state%6))
		l := mealy.Reach(m)
		if want := reached(m); !slices.Equal(l, want) {
			t.Errorf("Reach of %v returns %v, not %v", m, l, want)
		}
		trimmed, e := mealy.Trim(m)
		if trimmed.Start != 0 || trimmed.Inputs != m.Inputs || len(trimmed.Next) != len(l) || len(trimmed.Out) != len(l) || e != api.OK {
			t.Fatalf("Trim of %v returns %v, %d", m, trimmed, e)
		}
		for i, s := range l {
			for a, next := range trimmed.Next[i] {
				if l[next] != m.Next[s][a] || trimmed.Out[i][a] != m.Out[s][a] {
					t.Errorf("Trim of %v returns %v", m, trimmed)
				}
			}
		}
	}
}

// P6.4: machines without their unreachable states.
func TestTrim(t *testing.T) {
	three := api.Mealy{Inputs: 2, Start: 2, Next: [][]int{{0, 2}, {1, 0}, {2, 0}}, Out: [][]int{{3, 4}, {5, 6}, {7, 8}}}
	for i, c := range []struct{ m, want api.Mealy }{
		{gate(), gate()},
		{changed(func(m *api.Mealy) { m.Start = 1 }), api.Mealy{Inputs: 2, Next: [][]int{{0, 1}, {0, 1}}, Out: [][]int{{1, 2}, {1, 0}}}},
		{changed(func(m *api.Mealy) { m.Next[0][0] = 0 }), api.Mealy{Inputs: 2, Next: [][]int{{0, 0}}, Out: [][]int{{1, 0}}}},
		{three, api.Mealy{Inputs: 2, Next: [][]int{{0, 1}, {1, 0}}, Out: [][]int{{7, 8}, {3, 4}}}},
		{counter(api.MaxStates), counter(api.MaxStates)},
	} {
		if m, e := mealy.Trim(c.m); !mealy.Same(m, c.want) || e != api.OK {
			t.Errorf("case %d: Trim returns %v, %d", i, m, e)
		}
	}
}

// P6.5: equal fields of any machines.
func TestSame(t *testing.T) {
	for i, c := range []struct {
		a, b api.Mealy
		want bool
	}{
		{gate(), gate(), true},
		{api.Mealy{}, api.Mealy{}, true},
		{api.Mealy{}, api.Mealy{Next: [][]int{}, Out: [][]int{}}, true},
		{api.Mealy{Inputs: -1, Start: 9, Next: [][]int{nil, {7}}}, api.Mealy{Inputs: -1, Start: 9, Next: [][]int{{}, {7}}}, true},
		{api.Mealy{Next: [][]int{nil}}, api.Mealy{}, false},
		{api.Mealy{Out: [][]int{nil}}, api.Mealy{}, false},
		{gate(), changed(func(m *api.Mealy) { m.Inputs = 3 }), false},
		{gate(), changed(func(m *api.Mealy) { m.Start = 1 }), false},
		{gate(), changed(func(m *api.Mealy) { m.Next[1][1] = 1 }), false},
		{gate(), changed(func(m *api.Mealy) { m.Out[0][0] = 0 }), false},
		{gate(), changed(func(m *api.Mealy) { m.Next[1] = m.Next[1][:1] }), false},
		{gate(), changed(func(m *api.Mealy) { m.Out[1] = append(m.Out[1], 0) }), false},
		{gate(), changed(func(m *api.Mealy) { m.Next = m.Next[:1] }), false},
		{gate(), changed(func(m *api.Mealy) { m.Out = append(m.Out, nil) }), false},
		// Isomorphic machines are not the same.
		{gate(), changed(func(m *api.Mealy) {
			m.Start, m.Next, m.Out = 1, [][]int{{0, 1}, {0, 1}}, [][]int{{1, 2}, {1, 0}}
		}), false},
	} {
		if x, y := mealy.Same(c.a, c.b), mealy.Same(c.b, c.a); x != c.want || y != c.want {
			t.Errorf("case %d: Same returns %t, and %t for the reverse", i, x, y)
		}
	}
}

// P6.5: the different outputs in ascending order.
func TestOutputs(t *testing.T) {
	for i, c := range []struct {
		m    api.Mealy
		want []int
	}{
		{gate(), []int{0, 1, 2}},
		{counter(4), []int{0, 1, 2, 3}},
		{changed(func(m *api.Mealy) { m.Out = rows(2, 2, 5) }), []int{5}},
		{changed(func(m *api.Mealy) { m.Out[0][0], m.Out[1][1] = api.MaxOutput, 9 }), []int{0, 1, 9, api.MaxOutput}},
		{changed(func(m *api.Mealy) { m.Next, m.Out = append(m.Next, []int{2, 2}), append(m.Out, []int{12, 3}) }), []int{0, 1, 2, 3, 12}},
	} {
		if l := mealy.Outputs(c.m); !slices.Equal(l, c.want) {
			t.Errorf("case %d: Outputs returns %v", i, l)
		}
	}
}

// P6.6: traces of words in their order, also of words that occur twice.
func TestTraces(t *testing.T) {
	words := [][]int{{0, 1}, nil, {1}, {0, 1}, {1, 0, 1}}
	for start, want := range [][][]int{
		{{1, 2}, nil, {0}, {1, 2}, {0, 1, 2}},
		{{1, 2}, nil, {2}, {1, 2}, {2, 1, 2}},
	} {
		l, e := mealy.Traces(changed(func(m *api.Mealy) { m.Start = start }), words)
		var in, out [][]int
		for _, x := range l {
			in, out = append(in, x.In), append(out, x.Out)
		}
		if !same(in, words) || !same(out, want) || e != api.OK {
			t.Errorf("Traces from %d returns %v, %d", start, l, e)
		}
	}
	if l, e := mealy.Traces(gate(), nil); len(l) != 0 || e != api.OK {
		t.Errorf("Traces of no word returns %v, %d", l, e)
	}
	if l, e := mealy.Traces(gate(), rows(api.MaxWords, 3, 0)); len(l) != api.MaxWords || e != api.OK {
		t.Errorf("Traces of many words returns %d traces, %d", len(l), e)
	}
}

// P6.6: the errors and their order; the first word with an error counts.
func TestTracesErrors(t *testing.T) {
	long := make([]int, api.MaxWord+1)
	for i, c := range []struct {
		words [][]int
		want  api.Errno
	}{
		{make([][]int, api.MaxWords+1), api.ErrLimit},
		{append([][]int{{2}}, make([][]int, api.MaxWords)...), api.ErrLimit},
		{[][]int{long}, api.ErrTooLong},
		{[][]int{{2}}, api.ErrInvalid},
		{[][]int{{0}, {1, -1}}, api.ErrInvalid},
		{[][]int{{0}, {2}, long}, api.ErrInvalid},
		{[][]int{{0}, long, {2}}, api.ErrTooLong},
	} {
		if l, e := mealy.Traces(gate(), c.words); len(l) != 0 || e != c.want {
			t.Errorf("case %d: Traces returns %d traces, %d", i, len(l), e)
		}
	}
}

// P6.7: outputs of prefixes are prefixes, and From continues Run.
func TestWords(t *testing.T) {
	for state := range uint64(40) {
		m := drawn(state, 3, 1+int(state%8))
		w, _, _ := random.Word(state, 3, 12)
		all, e := mealy.Run(m, w)
		if len(all) != len(w) || e != api.OK {
			t.Fatalf("Run returns %v, %d", all, e)
		}
		for n := range len(w) + 1 {
			u, e := mealy.Run(m, w[:n])
			_, s, e2 := mealy.From(m, m.Start, w[:n])
			v, end, e3 := mealy.From(m, s, w[n:])
			_, last, e4 := mealy.From(m, m.Start, w)
			if !slices.Equal(u, all[:n]) || !slices.Equal(v, all[n:]) || end != last || e != api.OK || e2 != api.OK || e3 != api.OK || e4 != api.OK {
				t.Errorf("the word %v cut after %d has the outputs %v and %v, and not %v", w, n, u, v, all)
			}
		}
	}
}

// exchanged returns m with other numbers of its states, and with a state to which no transition leads.
func exchanged(m api.Mealy, state uint64) api.Mealy {
	n := len(m.Next)
	number, _, _ := random.Shuffle(state, n)
	x := api.Mealy{Inputs: m.Inputs, Start: number[m.Start], Next: rows(n+1, m.Inputs, 0), Out: rows(n+1, m.Inputs, 9)}
	for s := range n {
		for a := range m.Inputs {
			x.Next[number[s]][a], x.Out[number[s]][a] = number[m.Next[s][a]], m.Out[s][a]
		}
	}
	return x
}

// P6.8: trimming changes no output word, is repeated without effect, and gives isomorphic machines the same numbers.
func TestTrimmedMachines(t *testing.T) {
	for state := range uint64(40) {
		m := drawn(state, 2, 1+int(state%9))
		trimmed, e := mealy.Trim(m)
		again, e2 := mealy.Trim(trimmed)
		if !mealy.Same(again, trimmed) || e != api.OK || e2 != api.OK {
			t.Errorf("Trim of %v returns %v, and then %v", m, trimmed, again)
		}
		other := exchanged(m, state)
		if x, e := mealy.Trim(other); !mealy.Same(x, trimmed) || e != api.OK {
			t.Errorf("Trim of %v returns %v, and not %v", other, x, trimmed)
		}
		for w := []int(nil); len(w) < 7; w, _ = word.Next(w, 2) {
			a, _ := mealy.Run(m, w)
			b, _ := mealy.Run(trimmed, w)
			c, _ := mealy.Run(other, w)
			if !slices.Equal(a, b) || !slices.Equal(a, c) {
				t.Fatalf("the word %v has the outputs %v, %v and %v", w, a, b, c)
			}
		}
	}
}

// R5: the machine and the words do not change, and results are new memory.
func TestMemory(t *testing.T) {
	m, w := gate(), []int{0, 1, 9}
	words := [][]int{w[:2], w[:1]}
	trimmed, _ := mealy.Trim(m)
	trimmed.Next[0][0], trimmed.Out[1][1] = 7, 7
	trimmed.Next[0] = append(trimmed.Next[0], 7)
	traces, _ := mealy.Traces(m, words)
	traces[0].In[0], traces[0].Out[0] = 7, 7
	traces[1].In = append(traces[1].In, 7)
	outputs, reached := mealy.Outputs(m), mealy.Reach(m)
	outputs[0], reached[0] = 7, 7
	run, _ := mealy.Run(m, w[:2])
	run[0] = 7
	if !mealy.Same(m, gate()) || !slices.Equal(w, []int{0, 1, 9}) || len(words[0]) != 2 || len(words[1]) != 1 {
		t.Error("the arguments have become", m, words)
	}
	if !slices.Equal(traces[1].Out, []int{1}) || !slices.Equal(trimmed.Next[1], []int{1, 0}) || !slices.Equal(trimmed.Out[0], []int{1, 0}) {
		t.Error("the results have become", traces, trimmed)
	}
}
