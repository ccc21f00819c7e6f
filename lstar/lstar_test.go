package lstar_test

import (
	"math"
	"slices"
	"testing"

	"learner/api"
	"learner/lstar"
	"learner/mealy"
	"learner/observe"
	"learner/random"
	"learner/table"
	"learner/word"
	"learner/wordset"
)

// list is a list of words.
type list = [][]int

// tab returns a table.
func tab(inputs int, prefixes, suffixes [][]int) api.Table {
	return api.Table{Inputs: inputs, Prefixes: prefixes, Suffixes: suffixes}
}

// same reports whether two tables have equal fields.
func same(a, b api.Table) bool {
	return a.Inputs == b.Inputs && equal(a.Prefixes, b.Prefixes) && equal(a.Suffixes, b.Suffixes)
}

// equal reports whether two lists have equal words.
func equal(a, b [][]int) bool {
	return slices.EqualFunc(a, b, slices.Equal[[]int])
}

// cloned returns a list in new memory.
func cloned(l [][]int) [][]int {
	var words [][]int
	for _, w := range l {
		words = append(words, slices.Clone(w))
	}
	return words
}

// singles returns the words of one symbol.
func singles(inputs int) [][]int {
	var l [][]int
	for a := range inputs {
		l = append(l, []int{a})
	}
	return l
}

// first returns the first n words in shortlex order, beginning with w.
func first(inputs, n int, w []int) [][]int {
	var l [][]int
	for range n {
		l = append(l, w)
		w, _ = word.Next(w, inputs)
	}
	return l
}

// chain returns the words of n to m zeros.
func chain(n, m int) [][]int {
	var l [][]int
	for i := n; i <= m; i++ {
		l = append(l, make([]int, i))
	}
	return l
}

// gate returns the gate of the document.
func gate() api.Mealy {
	return api.Mealy{Inputs: 2, Next: [][]int{{1, 0}, {1, 0}}, Out: [][]int{{1, 0}, {1, 2}}}
}

// cycle returns the machine with one input that returns 1 at every n-th step, and otherwise 0.
func cycle(n int) api.Mealy {
	m := api.Mealy{Inputs: 1}
	for s := range n {
		m.Next, m.Out = append(m.Next, []int{(s + 1) % n}), append(m.Out, []int{(s + 1) / n})
	}
	return m
}

// lock returns the machine that returns 1 after n inputs in the order 0, 1, .. of all inputs, and begins again with each other input.
func lock(inputs, n int) api.Mealy {
	m := api.Mealy{Inputs: inputs}
	for s := range n {
		next, out := make([]int, inputs), make([]int, inputs)
		next[s%inputs], out[s%inputs] = (s+1)%n, (s+1)/n
		m.Next, m.Out = append(m.Next, next), append(m.Out, out)
	}
	return m
}

// obs returns observations.
func obs(inputs int, traces ...api.Trace) api.Obs {
	return api.Obs{Inputs: inputs, Traces: traces}
}

// line returns a single trace for one input.
func line(outputs ...int) api.Obs {
	return obs(1, api.Trace{In: make([]int, len(outputs)), Out: outputs})
}

// told returns the observations of a machine for words.
func told(t *testing.T, m api.Mealy, words [][]int) api.Obs {
	t.Helper()
	o, e := observe.Of(m, words)
	if e != api.OK {
		t.Fatal("Of returns", e)
	}
	return o
}

// full returns the observations of a machine for all cells of a table.
func full(t *testing.T, m api.Mealy, x api.Table) api.Obs {
	t.Helper()
	l, e := table.Needed(x, obs(m.Inputs))
	if e != api.OK {
		t.Fatal("Needed returns", e)
	}
	return told(t, m, l)
}

// drawn returns a random machine, and the state after it.
func drawn(state uint64, inputs, states, outputs int) (api.Mealy, uint64) {
	m := api.Mealy{Inputs: inputs}
	m.Start, state, _ = random.Below(state, states)
	for range states {
		var next, out []int
		next, state, _ = random.Word(state, states, inputs)
		out, state, _ = random.Word(state, outputs, inputs)
		m.Next, m.Out = append(m.Next, next), append(m.Out, out)
	}
	return m, state
}

// drawnWords returns n random words of least to most symbols, and the state after them.
func drawnWords(state uint64, inputs, n, least, most int) ([][]int, uint64) {
	var l [][]int
	for range n {
		var length int
		var w []int
		length, state, _ = random.Below(state, most-least+1)
		w, state, _ = random.Word(state, inputs, least+length)
		l = append(l, w)
	}
	return l, state
}

// drawnTable returns a random table, and the state after it.
func drawnTable(state uint64, inputs int) (api.Table, uint64) {
	prefixes, state := drawnWords(state, inputs, int(state%4), 0, 4)
	suffixes, state := drawnWords(state, inputs, int(state%3), 1, 3)
	return tab(inputs, wordset.Union(list{nil}, wordset.Prefixes(prefixes)), wordset.Union(singles(inputs), suffixes)), state
}

// literalStep does what Step has to do with a table without errors.
func literalStep(x api.Table, o api.Obs) (api.Table, [][]int, bool, api.Errno) {
	if l, _ := table.Needed(x, o); len(l) > 0 {
		return x, l, false, api.OK
	}
	if w, open, _ := table.Unclosed(x, o); open {
		y, e := table.Prefix(x, w)
		return y, nil, false, e
	}
	if w, wrong, _ := table.Inconsistent(x, o); wrong {
		y, e := table.Suffix(x, w)
		return y, nil, false, e
	}
	return x, nil, true, api.OK
}

// P24.1: the example of the document.
func TestStepGate(t *testing.T) {
	start := tab(2, list{nil}, singles(2))
	grown := tab(2, list{nil, {0}}, singles(2))
	needed := list{{0, 0}, {0, 1}, {1, 0}, {1, 1}}
	more := list{{0, 0, 0}, {0, 0, 1}, {0, 1, 0}, {0, 1, 1}}
	for i, c := range []struct {
		x     api.Table
		known list
		want  api.Table
		words list
		done  bool
	}{
		{start, nil, start, needed, false},
		{start, needed[:3], start, needed[3:], false},
		{start, needed, grown, nil, false},
		{grown, needed, grown, more, false},
		{grown, append(slices.Clone(needed), more...), grown, nil, true},
	} {
		y, l, done, e := lstar.Step(c.x, told(t, gate(), c.known))
		if !same(y, c.want) || !equal(l, c.words) || done != c.done || e != api.OK {
			t.Errorf("case %d: Step returns %v, %v, %t, %d", i, y, l, done, e)
		}
	}
}

// P24.1: a table that is neither closed nor consistent is closed first, and one that is not complete is completed before.
func TestStepOrder(t *testing.T) {
	x := tab(1, chain(0, 1), chain(1, 1))
	both := line(0, 0, 5)
	for i, c := range []struct {
		x     api.Table
		o     api.Obs
		want  api.Table
		words list
		done  bool
	}{
		{x, line(0, 0), x, chain(3, 3), false},
		{x, both, tab(1, chain(0, 2), chain(1, 1)), nil, false},
		{tab(1, chain(0, 2), chain(1, 1)), both, tab(1, chain(0, 2), chain(1, 1)), chain(4, 4), false},
		{tab(1, chain(0, 2), chain(1, 1)), line(0, 0, 5, 0), tab(1, chain(0, 2), chain(1, 2)), nil, false},
		{tab(1, chain(0, 2), chain(1, 1)), line(0, 0, 5, 6), tab(1, chain(0, 3), chain(1, 1)), nil, false},
		{tab(1, chain(0, 2), chain(1, 2)), line(0, 0, 5, 0, 0), tab(1, chain(0, 2), chain(1, 2)), nil, true},
	} {
		y, l, done, e := lstar.Step(c.x, c.o)
		if !same(y, c.want) || !equal(l, c.words) || done != c.done || e != api.OK {
			t.Errorf("case %d: Step returns %v, %v, %t, %d", i, y, l, done, e)
		}
	}
}

// P24.1, P24.6: random tables; words remain, and after the last repair there is a hypothesis.
func TestStepDrawn(t *testing.T) {
	count := map[string]int{}
	for state := range uint64(3000) {
		inputs := 1 + int(state%3)
		m, next := drawn(state*31, inputs, 1+int(state%5), 2)
		x, next := drawnTable(next, inputs)
		words, _ := drawnWords(next, inputs, int(next%12), 0, 7)
		if state%3 > 0 {
			l, _ := table.Needed(x, obs(inputs))
			words = append(words, l...)
		}
		o := told(t, m, words)
		y, l, done, e := lstar.Step(x, o)
		want, asked, finished, failure := literalStep(x, o)
		if !same(y, want) || !equal(l, asked) || done != finished || e != failure || e != api.OK {
			t.Fatalf("Step of %v and %v returns %v, %v, %t, %d, not %v, %v, %t", x, o, y, l, done, e, want, asked, finished)
		}
		if !equal(wordset.Union(y.Prefixes, x.Prefixes), y.Prefixes) || !equal(wordset.Union(y.Suffixes, x.Suffixes), y.Suffixes) {
			t.Fatalf("Step of %v and %v returns %v", x, o, y)
		}
		switch {
		case len(l) > 0:
			count["needed"]++
		case done:
			count["done"]++
			if h, e := table.Hypothesis(x, o); e != api.OK {
				t.Fatalf("Hypothesis of %v and %v returns %v, %d", x, o, h, e)
			}
		case len(y.Prefixes) > len(x.Prefixes):
			count["prefix"]++
		default:
			count["suffix"]++
		}
	}
	for _, name := range []string{"needed", "prefix", "suffix", "done"} {
		if count[name] < 50 {
			t.Errorf("%s: only %d cases", name, count[name])
		}
	}
}

// P24.6: the only error of a hypothesis after the last repair.
func TestStepStates(t *testing.T) {
	for n, want := range map[int]api.Errno{3: api.OK, api.MaxStates: api.OK, api.MaxStates + 1: api.ErrLimit} {
		outputs := make([]int, 2*n)
		outputs[n-1], outputs[2*n-1] = 1, 1
		x, o := tab(1, chain(0, n-1), chain(1, n)), line(outputs...)
		y, l, done, e := lstar.Step(x, o)
		if !same(y, x) || len(l) != 0 || !done || e != api.OK {
			t.Errorf("with %d rows Step returns %v, %v, %t, %d", n, y, l, done, e)
		}
		if _, e := table.Hypothesis(x, o); e != want {
			t.Errorf("with %d rows Hypothesis returns %d", n, e)
		}
	}
}

// P24.1: the errors of the table and the observations, and those of the repairs.
func TestStepErrors(t *testing.T) {
	x, _ := table.New(2)
	// The input 0 leads through 100 states, of which those that are far from the last one have equal rows.
	steps := api.Mealy{Inputs: 2}
	for s := range 100 {
		steps.Next, steps.Out = append(steps.Next, []int{(s + 1) % 100, s}), append(steps.Out, []int{(s + 1) / 100, 0})
	}
	inner, _ := wordset.Product(list{{1}}, chain(0, 25))
	most := tab(2, chain(0, 990), wordset.Union(chain(1, 27), inner))
	wide := tab(2, chain(0, 990), wordset.Union(chain(1, 23), singles(2)))
	for i, c := range []struct {
		x    api.Table
		o    api.Obs
		want api.Errno
	}{
		{api.Table{}, obs(0), api.ErrRange},
		{tab(2, nil, x.Suffixes), obs(1), api.ErrEmpty},
		{tab(2, list{nil, {1}, {0}}, x.Suffixes), obs(2), api.ErrState},
		{tab(2, list{nil}, list{{0}}), obs(2), api.ErrInvalid},
		{x, obs(1), api.ErrConflict},
		{x, obs(3), api.ErrConflict},
		// The table is not closed, and the word would be too long, or there would be too many cells.
		{tab(1, list{nil}, list{{0}, make([]int, api.MaxWord-1)}), line(slices.Concat(make([]int, 1), slices.Repeat([]int{1}, api.MaxWord-1))...), api.ErrTooLong},
		{tab(1, chain(0, 199), chain(1, 400)), line(append(make([]int, 599), 1)...), api.ErrLimit},
		// It is closed, but not consistent.
		{tab(1, chain(0, api.MaxWord-2), chain(1, 1)), told(t, cycle(3), chain(api.MaxWord, api.MaxWord)), api.ErrTooLong},
		{most, full(t, steps, most), api.ErrLimit},
		{wide, full(t, steps, wide), api.OK},
	} {
		before := tab(c.x.Inputs, cloned(c.x.Prefixes), cloned(c.x.Suffixes))
		y, l, done, e := lstar.Step(c.x, c.o)
		if e != c.want || len(l) != 0 || done || e != api.OK && !same(y, before) {
			t.Errorf("case %d: Step returns %v, %v, %t, %d, not %d", i, y, l, done, e, c.want)
		}
	}
	if w, wrong, e := table.Inconsistent(most, full(t, steps, most)); !slices.Equal(w, make([]int, 28)) || !wrong || e != api.OK {
		t.Error("Inconsistent returns", w, wrong, e)
	}
}

// P24.2: the examples, words that are there already, and the empty word.
func TestRefine(t *testing.T) {
	x, _ := table.New(2)
	grown := tab(2, list{nil, {1}, {1, 0}}, list{{0}, {1}, {1, 1}})
	for i, c := range []struct {
		x        api.Table
		w        []int
		prefixes list
		suffixes list
	}{
		{x, []int{0, 1}, list{nil, {0}, {0, 1}}, list{{0}, {1}, {0, 1}}},
		{x, nil, list{nil}, x.Suffixes},
		{x, []int{1}, list{nil, {1}}, x.Suffixes},
		{x, []int{1, 0, 0}, list{nil, {1}, {1, 0}, {1, 0, 0}}, list{{0}, {1}, {0, 0}, {1, 0, 0}}},
		{grown, nil, grown.Prefixes, grown.Suffixes},
		{grown, []int{1, 0}, grown.Prefixes, list{{0}, {1}, {1, 0}, {1, 1}}},
		{grown, []int{1, 1}, list{nil, {1}, {1, 0}, {1, 1}}, grown.Suffixes},
		{grown, []int{0, 1, 1}, list{nil, {0}, {1}, {0, 1}, {1, 0}, {0, 1, 1}}, list{{0}, {1}, {1, 1}, {0, 1, 1}}},
	} {
		if y, e := lstar.Refine(c.x, c.w, 0); !same(y, tab(2, c.prefixes, c.x.Suffixes)) || e != api.OK {
			t.Errorf("case %d: Refine by prefixes returns %v, %d", i, y, e)
		}
		if y, e := lstar.Refine(c.x, c.w, 1); !same(y, tab(2, c.x.Prefixes, c.suffixes)) || e != api.OK {
			t.Errorf("case %d: Refine by suffixes returns %v, %d", i, y, e)
		}
	}
}

// P24.2, P24.6: random tables and words.
func TestRefineDrawn(t *testing.T) {
	for state := range uint64(1000) {
		x, next := drawnTable(state*77, 1+int(state%3))
		words, _ := drawnWords(next, x.Inputs, 3, 0, 6)
		for _, w := range words {
			y, e := lstar.Refine(x, w, 0)
			if !same(y, tab(x.Inputs, wordset.Union(x.Prefixes, wordset.Prefixes(list{w})), x.Suffixes)) || e != api.OK {
				t.Fatalf("Refine of %v by the prefixes of %v returns %v, %d", x, w, y, e)
			}
			y, e = lstar.Refine(x, w, 1)
			l := append(wordset.Union(x.Suffixes, wordset.Suffixes(list{w})), nil)
			if !same(y, tab(x.Inputs, x.Prefixes, slices.DeleteFunc(l, func(v []int) bool { return len(v) == 0 }))) || e != api.OK {
				t.Fatalf("Refine of %v by the suffixes of %v returns %v, %d", x, w, y, e)
			}
		}
	}
}

// P24.2: the errors in their order; the table remains as it is.
func TestRefineErrors(t *testing.T) {
	x, _ := table.New(2)
	long := make([]int, api.MaxWord+1)
	cells := tab(1, chain(0, 199), chain(1, 400))
	for i, c := range []struct {
		x    api.Table
		w    []int
		mode int
		want api.Errno
	}{
		{api.Table{}, []int{2}, 2, api.ErrRange},
		{tab(2, nil, nil), []int{2}, 2, api.ErrEmpty},
		{tab(2, list{nil, {1}, {0}}, x.Suffixes), []int{2}, 0, api.ErrState},
		{tab(2, list{nil}, list{{0}, {1}, {1}}), nil, 1, api.ErrState},
		{x, []int{2}, 2, api.ErrInvalid},
		{x, []int{0, -1}, 0, api.ErrInvalid},
		{x, []int{0, -1}, 1, api.ErrInvalid},
		{x, long, 0, api.ErrTooLong},
		{x, long, 1, api.ErrTooLong},
		{x, long, 7, api.ErrTooLong},
		{x, []int{0}, 2, api.ErrRange},
		{x, []int{0}, -1, api.ErrRange},
		{x, nil, math.MaxInt, api.ErrRange},
		{x, long[1:], 2, api.ErrRange},
		{cells, make([]int, 900), -5, api.ErrRange},
		{x, long[1:], 0, api.ErrTooLong},
		{x, long[1:], 1, api.ErrTooLong},
		{x, long[2:], 0, api.ErrTooLong},
		{x, long[2:], 1, api.OK},
		{x, long[3:], 0, api.OK},
		{tab(1, chain(0, 20), chain(1, 5)), make([]int, api.MaxWord-21), 1, api.OK},
		{tab(1, chain(0, 20), chain(1, 5)), make([]int, api.MaxWord-20), 1, api.ErrTooLong},
		{tab(1, chain(0, 5), chain(1, 20)), make([]int, api.MaxWord-21), 0, api.OK},
		{tab(1, chain(0, 5), chain(1, 20)), make([]int, api.MaxWord-20), 0, api.ErrTooLong},
		{cells, make([]int, 199), 0, api.OK},
		{cells, make([]int, 200), 0, api.ErrLimit},
		{cells, make([]int, 400), 1, api.OK},
		{cells, make([]int, 401), 1, api.ErrLimit},
		// Too many cells count before words that are too long, though only some of the words would be too many.
		{cells, make([]int, api.MaxWord), 0, api.ErrLimit},
		{cells, make([]int, api.MaxWord), 1, api.ErrLimit},
		{tab(2, list{nil}, first(2, api.MaxWords, []int{0})), make([]int, 20), 1, api.ErrLimit},
		{tab(2, first(2, api.MaxWords, nil), singles(2)), make([]int, 20), 0, api.ErrLimit},
		{tab(2, first(2, api.MaxWords, nil), singles(2)), make([]int, 4), 1, api.OK},
		{tab(2, first(2, api.MaxWords, nil), singles(2)), make([]int, 5), 1, api.ErrLimit},
	} {
		before := tab(c.x.Inputs, cloned(c.x.Prefixes), cloned(c.x.Suffixes))
		y, e := lstar.Refine(c.x, c.w, c.mode)
		if e != c.want || e != api.OK && !same(y, before) || e == api.OK && table.Valid(y) != api.OK || !same(c.x, before) {
			t.Errorf("case %d: Refine returns a table with %d and %d words, %d, not %d", i, len(y.Prefixes), len(y.Suffixes), e, c.want)
		}
	}
}

// R1: no tables, observations and words make a function panic.
func TestNotValid(t *testing.T) {
	odd := []api.Trace{{}, {In: []int{0, 1}}, {Out: []int{1}}, {In: []int{-1, 5}, Out: []int{7, 8}}, {In: []int{0}, Out: []int{1, 2, 3}}, {In: make([]int, api.MaxWord+2), Out: []int{0}}, {In: []int{0, 0, 0}, Out: []int{-1, math.MaxInt, 0}}}
	for _, w := range [][]int{{0, 0, 0}, {0, 0, 1}, {0, 1, 0}, {0, 1, 1}, {1, 0}, {1, 1}} {
		odd = append(odd, api.Trace{In: w, Out: w}, api.Trace{In: w, Out: make([]int, len(w))})
	}
	for inputs := -1; inputs < 4; inputs++ {
		for _, p := range [][][]int{nil, {nil}, {nil, {0}}, {{0}}, {{5}, nil}} {
			for _, s := range [][][]int{nil, {nil}, {{0}}, {{0}, {1}}, {{0}, {1}, {0, 1}}} {
				x := tab(inputs, p, s)
				for i := range odd {
					lstar.Step(x, obs(inputs, append(slices.Clone(odd[i:]), odd[:i]...)...))
				}
				for _, w := range [][]int{nil, {0}, {-1}, make([]int, api.MaxWord+1)} {
					lstar.Refine(x, w, 0)
					lstar.Refine(x, w, 1)
				}
			}
		}
	}
	ragged := gate()
	ragged.Next[1] = nil
	for _, m := range []api.Mealy{{}, ragged, {Inputs: 2, Next: [][]int{{5, 5}}, Out: [][]int{{0, 0}}}, {Inputs: math.MaxInt}} {
		lstar.Learn(m, 0)
	}
}

// spoil changes all numbers of a list and its spare capacity.
func spoil(l [][]int) {
	for i, w := range l {
		w = append(w, -5)
		for k := range w {
			w[k] = -7
		}
		l[i] = append(w, -9)
	}
	clear(append(l, nil, nil))
}

// P24.1, P24.2, P24.3, R5: results are new memory, and arguments do not change.
func TestMemory(t *testing.T) {
	x := tab(2, list{nil, []int{0, 8}[:1]}, list{[]int{0, 8}[:1], []int{1, 8}[:1], []int{1, 1, 8}[:2]})
	w := []int{1, 0, 1, 9}[:3]
	for mode := range 2 {
		y, e := lstar.Refine(x, w, mode)
		if e != api.OK {
			t.Fatal(e)
		}
		suffixes := cloned(y.Suffixes)
		spoil(y.Prefixes)
		if !equal(y.Suffixes, suffixes) {
			t.Error("the lists of a result share memory")
		}
		spoil(y.Suffixes)
	}
	start := tab(2, x.Prefixes[:1], x.Suffixes[:2])
	o := full(t, gate(), start)
	before, _ := observe.Merge(o, obs(2))
	y, _, _, _ := lstar.Step(start, o)
	spoil(y.Prefixes)
	spoil(y.Suffixes)
	_, l, _, _ := lstar.Step(start, obs(2))
	spoil(l)
	if !observe.Same(o, before) || !equal(x.Prefixes, list{nil, {0}}) || !equal(x.Suffixes, list{{0}, {1}, {1, 1}}) || x.Prefixes[1][:2][1] != 8 || x.Suffixes[2][:3][2] != 8 || !slices.Equal(w[:4], []int{1, 0, 1, 9}) {
		t.Error("the arguments have become", x, o, w)
	}
	m := gate()
	h, known, _, _ := lstar.Learn(m, 0)
	for _, l := range [][][]int{h.Access, h.M.Next, h.M.Out} {
		spoil(l)
	}
	want, right, _, _ := lstar.Learn(m, 0)
	if !mealy.Same(m, gate()) || !mealy.Same(want.M, gate()) || !observe.Same(known, right) {
		t.Error("the machine has become", m)
	}
}
