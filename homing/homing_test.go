package homing_test

import (
	"math"
	"slices"
	"testing"

	"learner/api"
	"learner/equiv"
	"learner/homing"
	"learner/mealy"
	"learner/minimize"
	"learner/random"
	"learner/word"
)

// gate returns the gate of the document: the inputs coin and push, and the outputs no, ok and turn.
func gate() api.Mealy {
	return api.Mealy{Inputs: 2, Next: [][]int{{1, 0}, {1, 0}}, Out: [][]int{{1, 0}, {1, 2}}}
}

// changed returns the gate after a change.
func changed(change func(m *api.Mealy)) api.Mealy {
	m := gate()
	change(&m)
	return m
}

// ring returns a machine whose only input leads through all states, with an output from each of them.
func ring(outputs ...int) api.Mealy {
	m := api.Mealy{Inputs: 1}
	for s, output := range outputs {
		m.Next = append(m.Next, []int{(s + 1) % len(outputs)})
		m.Out = append(m.Out, []int{output})
	}
	return m
}

// marked returns n outputs that are 0 but for a 1 with the index i.
func marked(n, i int) []int {
	outputs := make([]int, n)
	outputs[i] = 1
	return outputs
}

// wheel returns a ring of n states without outputs, with a second input that marks the last state, leads from one state to another, and stays in all others. It needs long homing words, because each separating word singles out one state only.
func wheel(n, from, to int) api.Mealy {
	m := api.Mealy{Inputs: 2}
	for s := range n {
		m.Next = append(m.Next, []int{(s + 1) % n, s})
		m.Out = append(m.Out, []int{0, 0})
	}
	m.Next[from][1], m.Out[n-1][1] = to, 1
	return m
}

// merging returns a machine whose states are equivalent, and are the same one after the input.
func merging() api.Mealy {
	return api.Mealy{Inputs: 1, Next: [][]int{{0}, {0}}, Out: [][]int{{0}, {0}}}
}

// rows returns n lists of equal numbers.
func rows(n, inputs, x int) [][]int {
	var l [][]int
	for range n {
		l = append(l, slices.Repeat([]int{x}, inputs))
	}
	return l
}

// drawn returns a random machine. With few outputs, many states are equivalent or hard to separate.
func drawn(state uint64, inputs, states, outputs int) api.Mealy {
	m := api.Mealy{Inputs: inputs}
	m.Start, state, _ = random.Below(state, states)
	for range states {
		var next, out []int
		next, state, _ = random.Word(state, states, inputs)
		out, state, _ = random.Word(state, outputs, inputs)
		m.Next = append(m.Next, next)
		m.Out = append(m.Out, out)
	}
	return m
}

// minimals returns small minimal machines, whose states have any order.
func minimals() []api.Mealy {
	all := []api.Mealy{gate(), ring(5), ring(0, 0, 1), ring(0, 1, 0, 0), wheel(7, 0, 0)}
	for state := range uint64(3000) {
		m := drawn(state, 1+int(state%3), 1+int(state%11), 2+int(state%2))
		if minimize.Minimal(m) {
			all = append(all, m)
		}
	}
	return all
}

// samples returns small machines, some of which have equivalent or unreachable states.
func samples() []api.Mealy {
	all := []api.Mealy{gate(), ring(5), ring(0, 0, 1), ring(0, 0, 0), merging()}
	for state := range uint64(60) {
		all = append(all, drawn(state, 1+int(state%2), 1+int(state%5), 1+int(state%3)))
	}
	return all
}

// run returns the output word of a word of any length from a state, and the state after it.
func run(m api.Mealy, s int, w []int) ([]int, int) {
	var outs []int
	for _, input := range w {
		outs = append(outs, m.Out[s][input])
		s = m.Next[s][input]
	}
	return outs, s
}

// group is the states to which a word leads from those that have an output word for it.
type group struct {
	outs   []int
	states []int
}

// grouped returns the groups of a word in the dictionary order of their output words, with ascending current states.
func grouped(m api.Mealy, w []int) []group {
	var found []group
	for s := range m.Next {
		outs, end := run(m, s, w)
		i := slices.IndexFunc(found, func(g group) bool { return slices.Equal(g.outs, outs) })
		if i < 0 {
			i = len(found)
			found = append(found, group{outs: outs})
		}
		found[i].states = append(found[i].states, end)
	}
	for i, g := range found {
		slices.Sort(g.states)
		found[i].states = slices.Compact(g.states)
	}
	slices.SortFunc(found, func(a, b group) int { return word.Lex(a.outs, b.outs) })
	return found
}

// open returns the number of the first group with several current states, or -1.
func open(found []group) int {
	return slices.IndexFunc(found, func(g group) bool { return len(g.states) > 1 })
}

// wanted returns the word that results from the first groups, of any length, and whether the order of the groups mattered: whether another one would have been the first in the order of the states.
func wanted(m api.Mealy) ([]int, bool) {
	var w []int
	mattered := false
	for {
		found := grouped(m, w)
		i := open(found)
		if i < 0 {
			return w, mattered
		}
		s, t := found[i].states[0], found[i].states[1]
		for _, g := range found[i:] {
			mattered = mattered || len(g.states) > 1 && g.states[0] < s
		}
		next, _, _ := equiv.States(m, s, t)
		w = slices.Concat(w, next)
	}
}

// P13.1: examples.
func TestWord(t *testing.T) {
	for i, c := range []struct {
		m    api.Mealy
		want []int
	}{
		{gate(), []int{1}},
		{changed(func(m *api.Mealy) { m.Start = 1 }), []int{1}},
		{ring(5), nil},
		{ring(0, 0, 1), []int{0, 0}},
		{ring(0, 1), []int{0}},
		// After 0 the first group is in the states 1 and 3, which 0 0 separates. After 0 0 0 only 1 and 4 have the same outputs.
		{ring(0, 1, 0, 1, 1), []int{0, 0, 0, 0}},
		// After 1 the group of the states 1 and 2 is known, though they are not told apart.
		{api.Mealy{Inputs: 2, Next: [][]int{{1, 0}, {2, 0}, {0, 0}}, Out: [][]int{{0, 1}, {0, 0}, {1, 0}}}, []int{1}},
		// After 0 the group of the output 0 is in the states 2 and 3, and that of 1 in 0 and 1: the former is the first one, and adds 1. After 0 1 the latter is in 0 and 4.
		{api.Mealy{Inputs: 2, Next: [][]int{{2, 0}, {0, 4}, {3, 4}, {3, 3}, {1, 4}}, Out: [][]int{{0, 0}, {1, 0}, {0, 0}, {0, 1}, {1, 1}}}, []int{0, 1, 0}},
		{ring(marked(api.MaxStates, api.MaxStates-1)...), make([]int, api.MaxStates-1)},
		{ring(marked(api.MaxStates, 0)...), slices.Repeat([]int{0}, api.MaxStates-1)},
	} {
		if w, e := homing.Word(c.m); !slices.Equal(w, c.want) || e != api.OK {
			t.Errorf("case %d: Word returns %v, %d", i, w, e)
		}
	}
}

// P13.1, P13.4: the word is the one that results from the first groups, and it is a homing word.
func TestWordOfGroups(t *testing.T) {
	ordered, long := 0, 0
	for _, m := range minimals() {
		want, mattered := wanted(m)
		w, e := homing.Word(m)
		if !slices.Equal(w, want) || e != api.OK {
			t.Fatalf("Word of %v returns %v, %d, and not %v", m, w, e, want)
		}
		if ok, e := homing.Resolves(m, w); !ok || e != api.OK {
			t.Errorf("Word of %v returns %v, which is no homing word", m, w)
		}
		if mattered {
			ordered++
		}
		if len(w) > 3 {
			long++
		}
	}
	if ordered < 20 || long < 20 {
		t.Errorf("the order of the groups matters for %d machines, and %d words are long", ordered, long)
	}
}

// P13.1: words up to the limit, and those that would be longer.
func TestLongWords(t *testing.T) {
	for _, c := range []struct {
		n, from, to int
		length      int
	}{
		{36, 5, 1, 1023}, {36, 29, 26, 1024}, {36, 27, 25, 1025}, {35, 31, 32, 1026}, {37, 30, 23, 1024}, {37, 26, 2, 1025}, {60, 0, 0, -1}, {128, 5, 5, -1},
	} {
		m := wheel(c.n, c.from, c.to)
		var want []int
		if c.length > 0 {
			want, _ = wanted(m)
			if len(want) != c.length {
				t.Fatalf("the word of %v has %d symbols", c, len(want))
			}
		}
		w, e := homing.Word(m)
		if c.length > 0 && c.length <= api.MaxWord {
			if !slices.Equal(w, want) || e != api.OK {
				t.Errorf("Word of %v returns %v, %d", c, w, e)
			}
		} else if len(w) != 0 || e != api.ErrTooLong {
			t.Errorf("Word of %v returns %v, %d", c, w, e)
		}
	}
}

// P13.2: examples.
func TestResolves(t *testing.T) {
	for i, c := range []struct {
		m    api.Mealy
		w    []int
		want bool
	}{
		{gate(), nil, false},
		{gate(), []int{1}, true},
		// The outputs are equal, but both states are the same one after coin.
		{gate(), []int{0}, true},
		{ring(5), nil, true},
		{ring(0, 0, 1), []int{0}, false},
		{ring(0, 0, 1), []int{0, 0}, true},
		{ring(0, 0, 0), make([]int, api.MaxWord), false},
		{ring(marked(api.MaxStates, 0)...), make([]int, api.MaxStates-2), false},
		{ring(marked(api.MaxStates, 0)...), make([]int, api.MaxWord), true},
		{merging(), nil, false},
		{merging(), []int{0}, true},
		// Unreachable states count.
		{api.Mealy{Inputs: 1, Next: [][]int{{0}, {1}}, Out: [][]int{{0}, {0}}}, []int{0, 0}, false},
		{api.Mealy{Inputs: 1, Next: [][]int{{0}, {1}}, Out: [][]int{{0}, {1}}}, []int{0}, true},
	} {
		if got, e := homing.Resolves(c.m, c.w); got != c.want || e != api.OK {
			t.Errorf("case %d: Resolves returns %t, %d", i, got, e)
		}
	}
}

// words uses all words of at most n symbols.
func words(m api.Mealy, n int, use func(w []int)) {
	for w, ok := []int(nil), true; ok && len(w) <= n; w, ok = word.Next(w, m.Inputs) {
		use(w)
	}
}

// P13.2, P13.4: words of any machines are homing words if no group has several current states, and then so are the longer words.
func TestResolvesTriesWords(t *testing.T) {
	answers := map[bool]int{}
	for _, m := range samples() {
		words(m, 5, func(w []int) {
			got, e := homing.Resolves(m, w)
			if want := open(grouped(m, w)) < 0; got != want || e != api.OK {
				t.Fatalf("Resolves of %v with %v returns %t, %d", m, w, got, e)
			}
			for input := range m.Inputs {
				if longer, _ := homing.Resolves(m, append(slices.Clone(w), input)); got && !longer {
					t.Errorf("%v is a homing word of %v, but not with %d", w, m, input)
				}
			}
			answers[got]++
		})
	}
	if answers[true] < 100 || answers[false] < 100 {
		t.Error("the words have the answers", answers)
	}
}

// checkTrace checks Possible and Final for one trace.
func checkTrace(t *testing.T, m api.Mealy, w, outs, want []int) {
	states, e := homing.Possible(m, w, outs)
	if !slices.Equal(states, want) || e != api.OK {
		t.Errorf("Possible of %v with %v and %v returns %v, %d, and not %v", m, w, outs, states, e, want)
	}
	final, only := 0, len(want) == 1
	if only {
		final = want[0]
	}
	if s, ok, e := homing.Final(m, w, outs); s != final || ok != only || e != api.OK {
		t.Errorf("Final of %v with %v and %v returns %d, %t, %d", m, w, outs, s, ok, e)
	}
}

// P13.3: examples.
func TestPossible(t *testing.T) {
	three := ring(0, 0, 1)
	for _, c := range []struct {
		m             api.Mealy
		w, outs, want []int
	}{
		{three, nil, nil, []int{0, 1, 2}},
		{three, []int{0}, []int{0}, []int{1, 2}},
		{three, []int{0}, []int{1}, []int{0}},
		{three, []int{0, 0}, []int{0, 1}, []int{0}},
		{three, []int{0, 0}, []int{1, 0}, []int{1}},
		{three, []int{0, 0}, []int{1, 1}, nil},
		{three, []int{0, 0, 0}, []int{1, 1, 0}, nil},
		{three, []int{0}, []int{2}, nil},
		{three, []int{0}, []int{-1}, nil},
		{three, []int{0, 0}, []int{math.MinInt, 0}, nil},
		{three, []int{0, 0}, []int{0, math.MaxInt}, nil},
		{gate(), []int{0}, []int{1}, []int{1}},
		{gate(), []int{1}, []int{0}, []int{0}},
		{gate(), []int{1, 0}, []int{2, 1}, []int{1}},
		{ring(5), nil, nil, []int{0}},
		{ring(5), []int{0}, []int{4}, nil},
		{merging(), []int{0}, []int{0}, []int{0}},
		// The current states are not in the order of the initial ones.
		{ring(0, 0, 0), []int{0}, []int{0}, []int{0, 1, 2}},
		{api.Mealy{Inputs: 1, Next: [][]int{{3}, {1}, {3}, {0}}, Out: [][]int{{1}, {1}, {1}, {1}}}, []int{0}, []int{1}, []int{0, 1, 3}},
		{ring(marked(api.MaxStates, 9)...), make([]int, api.MaxWord), slices.Repeat(marked(api.MaxStates, 0), 8), []int{9}},
	} {
		checkTrace(t, c.m, c.w, c.outs, c.want)
	}
}

// P13.3, P13.5: all traces of small machines, and output words that no state has.
func TestPossibleTriesTraces(t *testing.T) {
	for _, m := range samples() {
		words(m, 4, func(w []int) {
			found := grouped(m, w)
			for _, g := range found {
				checkTrace(t, m, w, g.outs, g.states)
			}
			for i := range w {
				for _, g := range found {
					outs := slices.Clone(g.outs)
					outs[i]++
					var want []int
					for _, other := range found {
						if slices.Equal(other.outs, outs) {
							want = other.states
						}
					}
					checkTrace(t, m, w, outs, want)
				}
			}
		})
	}
}

// P13.5: after a homing word the state is known from the outputs.
func TestKnownStates(t *testing.T) {
	for _, m := range minimals() {
		w, _ := homing.Word(m)
		for s := range m.Next {
			outs, end, _ := mealy.From(m, s, w)
			if final, ok, e := homing.Final(m, w, outs); final != end || !ok || e != api.OK {
				t.Errorf("Final of %v with %v and %v returns %d, %t, %d, and not %d", m, w, outs, final, ok, e, end)
			}
		}
	}
}

// P13.6: the state after a trace is possible, and the possible states of a longer trace are those to which it leads from the ones before.
func TestTraces(t *testing.T) {
	for _, m := range samples() {
		words(m, 4, func(w []int) {
			for s := range m.Next {
				outs, end, _ := mealy.From(m, s, w)
				states, e := homing.Possible(m, w, outs)
				if !slices.Contains(states, end) || e != api.OK {
					t.Errorf("Possible of %v with %v and %v returns %v, %d without %d", m, w, outs, states, e, end)
				}
				for input := range m.Inputs {
					continued(t, m, w, outs, states, input)
				}
			}
		})
	}
}

// continued checks the possible states after one more input, for each output that it can have.
func continued(t *testing.T, m api.Mealy, w, outs, before []int, input int) {
	for output := range 4 {
		var want []int
		for _, s := range before {
			if m.Out[s][input] == output {
				want = append(want, m.Next[s][input])
			}
		}
		slices.Sort(want)
		want = slices.Compact(want)
		states, e := homing.Possible(m, append(slices.Clone(w), input), append(slices.Clone(outs), output))
		if !slices.Equal(states, want) || e != api.OK {
			t.Errorf("Possible of %v returns %v, %d after %v, and not %v", m, states, e, before, want)
		}
	}
}

// refused reports whether the functions that take a word return an error, and nothing else.
func refused(m api.Mealy, w, outs []int, want api.Errno) bool {
	states, e := homing.Possible(m, w, outs)
	s, ok, e2 := homing.Final(m, w, outs)
	return len(states) == 0 && s == 0 && !ok && e == want && e2 == want
}

// P13.1 to P13.3: the errors of machines come first.
func TestInvalid(t *testing.T) {
	for i, m := range []api.Mealy{
		{},
		{Inputs: 1},
		{Inputs: api.MaxInputs + 1, Next: rows(1, api.MaxInputs+1, 0), Out: rows(1, api.MaxInputs+1, 0)},
		ring(make([]int, api.MaxStates+1)...),
		changed(func(m *api.Mealy) { m.Start = 2 }),
		{Inputs: 2, Next: [][]int{{0, 0}}},
		changed(func(m *api.Mealy) { m.Out[1] = m.Out[1][:1] }),
		changed(func(m *api.Mealy) { m.Next[1][1] = 2 }),
		changed(func(m *api.Mealy) { m.Out[0][1] = api.MaxOutput + 1 }),
	} {
		want := mealy.Valid(m)
		if want == api.OK {
			t.Fatalf("case %d is valid", i)
		}
		w, e := homing.Word(m)
		got, e2 := homing.Resolves(m, []int{99})
		if len(w) != 0 || got || e != want || e2 != want || !refused(m, []int{99}, nil, want) || !refused(m, nil, nil, want) {
			t.Errorf("case %d: the error is not %d", i, want)
		}
	}
}

// P13.1: only minimal machines have a word; P13.2, P13.3: the other functions take all machines.
func TestNotMinimal(t *testing.T) {
	unreachable := changed(func(m *api.Mealy) { m.Next, m.Out = append(m.Next, []int{0, 1}), append(m.Out, []int{7, 7}) })
	for i, m := range []api.Mealy{ring(0, 0), ring(0, 1, 0, 1), merging(), unreachable, changed(func(m *api.Mealy) { m.Out[1][1] = 0 })} {
		if w, e := homing.Word(m); len(w) != 0 || e != api.ErrInvalid {
			t.Errorf("case %d: Word returns %v, %d", i, w, e)
		}
	}
	if ok, e := homing.Resolves(unreachable, []int{1}); !ok || e != api.OK {
		t.Errorf("Resolves returns %t, %d", ok, e)
	}
	checkTrace(t, unreachable, []int{1, 0}, []int{7, 1}, []int{1})
}

// P13.2, P13.3: the errors of words, and their order.
func TestWordErrors(t *testing.T) {
	long := make([]int, api.MaxWord+1)
	for i, c := range []struct {
		w    []int
		want api.Errno
	}{
		{[]int{2}, api.ErrInvalid},
		{[]int{1, 0, -1}, api.ErrInvalid},
		{[]int{math.MaxInt, 0}, api.ErrInvalid},
		{[]int{0, math.MinInt}, api.ErrInvalid},
		{long, api.ErrTooLong},
		{append(slices.Clone(long), 2), api.ErrTooLong},
	} {
		got, e := homing.Resolves(gate(), c.w)
		if got || e != c.want || !refused(gate(), c.w, nil, c.want) || !refused(gate(), c.w, make([]int, len(c.w)), c.want) {
			t.Errorf("case %d: the error is not %d", i, c.want)
		}
	}
}

// P13.3: the error of words of different lengths, also if no state has the outputs.
func TestLengths(t *testing.T) {
	for _, c := range [][2][]int{{nil, {0}}, {{0}, nil}, {{0, 1}, {1}}, {{1}, {0, 0}}, {{1}, {9, 9}}, {{1, 1}, {9}}, {{0}, make([]int, api.MaxWord+1)}} {
		if !refused(gate(), c[0], c[1], api.ErrInvalid) {
			t.Errorf("%v and %v are accepted", c[0], c[1])
		}
	}
}

// R5: arguments do not change, and results are new memory.
func TestMemory(t *testing.T) {
	m, trace := ring(0, 0, 1), []int{0, 0, 9}
	w, _ := homing.Word(m)
	w[0] = 7
	states, _ := homing.Possible(m, trace[:0], trace[:0])
	states[0] = 7
	states, _ = homing.Possible(m, trace[:1], trace[:1])
	states[0] = 7
	homing.Resolves(m, trace[:2])
	homing.Final(m, trace[:2], trace[:2])
	if !mealy.Same(m, ring(0, 0, 1)) || !slices.Equal(trace, []int{0, 0, 9}) {
		t.Error("the arguments have become", m, trace)
	}
	if w, e := homing.Word(m); !slices.Equal(w, []int{0, 0}) || e != api.OK {
		t.Errorf("Word returns %v, %d", w, e)
	}
	checkTrace(t, m, nil, nil, []int{0, 1, 2})
}
