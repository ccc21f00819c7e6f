package table_test

import (
	"math"
	"slices"
	"testing"

	"learner/api"
	"learner/hypothesis"
	"learner/mealy"
	"learner/minimize"
	"learner/observe"
	"learner/random"
	"learner/table"
	"learner/word"
	"learner/wordset"
)

// gate returns the gate of the document.
func gate() api.Mealy {
	return api.Mealy{Inputs: 2, Next: [][]int{{1, 0}, {1, 0}}, Out: [][]int{{1, 0}, {1, 2}}}
}

// trace returns a trace.
func trace(in, out []int) api.Trace {
	return api.Trace{In: in, Out: out}
}

// obs returns observations.
func obs(inputs int, traces ...api.Trace) api.Obs {
	return api.Obs{Inputs: inputs, Traces: traces}
}

// told returns the observations of a machine for words.
func told(t *testing.T, m api.Mealy, words [][]int) api.Obs {
	t.Helper()
	o, e := observe.Of(m, words)
	if e != api.OK {
		t.Fatal("Of returns", e)
	}
	return o
}

// full returns the observations of a machine for all cells of a table.
func full(t *testing.T, m api.Mealy, x api.Table) api.Obs {
	t.Helper()
	return told(t, m, cells(x))
}

// bases returns the prefixes and extensions of a table, with repetitions.
func bases(x api.Table) [][]int {
	return append(slices.Clone(x.Prefixes), extensions(x)...)
}

// extensions returns the extensions of a table, sorted.
func extensions(x api.Table) [][]int {
	var l [][]int
	for _, p := range x.Prefixes {
		for a := range x.Inputs {
			l = append(l, word.Join(p, []int{a}))
		}
	}
	return wordset.Sorted(l)
}

// cells returns the cells of a table, with repetitions.
func cells(x api.Table) [][]int {
	var l [][]int
	for _, w := range bases(x) {
		for _, suffix := range x.Suffixes {
			l = append(l, word.Join(w, suffix))
		}
	}
	return l
}

// literalRow returns the row of a word.
func literalRow(x api.Table, o api.Obs, w []int) ([][]int, bool) {
	var l [][]int
	for _, suffix := range x.Suffixes {
		answer, ok := observe.Answer(o, word.Join(w, suffix))
		if !ok {
			return nil, false
		}
		l = append(l, answer[len(w):])
	}
	return l, true
}

// rows returns the row of a word of a complete table.
func rows(x api.Table, o api.Obs, w []int) [][]int {
	l, _ := literalRow(x, o, w)
	return l
}

// literalNeeded returns the cells that are needed.
func literalNeeded(x api.Table, o api.Obs) [][]int {
	var open, l [][]int
	for _, w := range cells(x) {
		if _, ok := observe.Answer(o, w); !ok {
			open = append(open, w)
		}
	}
	for _, w := range open {
		if !slices.ContainsFunc(open, func(v []int) bool { return len(v) > len(w) && word.HasPrefix(v, w) }) {
			l = append(l, w)
		}
	}
	return wordset.Sorted(l)
}

// literalUnclosed returns the first extension of a complete table with a new row.
func literalUnclosed(x api.Table, o api.Obs) ([]int, bool) {
	for _, w := range extensions(x) {
		if !slices.ContainsFunc(x.Prefixes, func(p []int) bool { return equal(rows(x, o, p), rows(x, o, w)) }) {
			return w, true
		}
	}
	return nil, false
}

// literalInconsistent returns the first word that separates equal rows of a complete table.
func literalInconsistent(x api.Table, o api.Obs) ([]int, bool) {
	for i, p := range x.Prefixes {
		for _, q := range x.Prefixes[i+1:] {
			if !equal(rows(x, o, p), rows(x, o, q)) {
				continue
			}
			for a := range x.Inputs {
				r, s := rows(x, o, word.Join(p, []int{a})), rows(x, o, word.Join(q, []int{a}))
				for k, suffix := range x.Suffixes {
					if !slices.Equal(r[k], s[k]) {
						return word.Join([]int{a}, suffix), true
					}
				}
			}
		}
	}
	return nil, false
}

// literalHypothesis returns the hypothesis of a complete, closed and consistent table.
func literalHypothesis(x api.Table, o api.Obs) api.Hyp {
	h := api.Hyp{M: api.Mealy{Inputs: x.Inputs}}
	state := func(w []int) int {
		return slices.IndexFunc(h.Access, func(p []int) bool { return equal(rows(x, o, p), rows(x, o, w)) })
	}
	for _, p := range x.Prefixes {
		if state(p) < 0 {
			h.Access = append(h.Access, p)
		}
	}
	for _, p := range h.Access {
		var next, out []int
		for a := range x.Inputs {
			next = append(next, state(word.Join(p, []int{a})))
			i := slices.IndexFunc(x.Suffixes, func(e []int) bool { return slices.Equal(e, []int{a}) })
			out = append(out, rows(x, o, p)[i][0])
		}
		h.M.Next, h.M.Out = append(h.M.Next, next), append(h.M.Out, out)
	}
	return h
}

// drawn returns a random machine, and the state after it.
func drawn(state uint64, inputs, states, outputs int) (api.Mealy, uint64) {
	m := api.Mealy{Inputs: inputs}
	m.Start, state, _ = random.Below(state, states)
	for range states {
		var next, out []int
		next, state, _ = random.Word(state, states, inputs)
		out, state, _ = random.Word(state, outputs, inputs)
		m.Next, m.Out = append(m.Next, next), append(m.Out, out)
	}
	return m, state
}

// setting is a table with observations of a machine.
type setting struct {
	m api.Mealy
	x api.Table
	o api.Obs
}

// drawnSetting returns a random setting, in which the table is complete or not.
func drawnSetting(t *testing.T, state uint64, complete bool) setting {
	t.Helper()
	inputs := 1 + int(state%3)
	m, next := drawn(state*31, inputs, 1+int(state%5), 2)
	x, next := drawnTable(next, inputs)
	words, _ := drawnWords(next, inputs, int(next%12), 0, 7)
	if complete {
		words = append(words, cells(x)...)
	}
	return setting{m, x, told(t, m, words)}
}

// P23.3: the examples, cells that others contain, and those that are answered.
func TestNeeded(t *testing.T) {
	x, _ := table.New(2)
	all := list{{0, 0}, {0, 1}, {1, 0}, {1, 1}}
	more := tab(2, list{nil, {0}}, x.Suffixes)
	for i, c := range []struct {
		x    api.Table
		o    api.Obs
		want [][]int
	}{
		{x, obs(2), all},
		{x, told(t, gate(), list{{0}, {1}}), all},
		{x, told(t, gate(), list{{0, 1}}), list{{0, 0}, {1, 0}, {1, 1}}},
		{x, told(t, gate(), list{{1, 1, 1}, {0, 0, 0, 0}}), list{{0, 1}, {1, 0}}},
		{x, told(t, gate(), all), nil},
		{more, told(t, gate(), all), list{{0, 0, 0}, {0, 0, 1}, {0, 1, 0}, {0, 1, 1}}},
		{more, obs(2), list{{1, 0}, {1, 1}, {0, 0, 0}, {0, 0, 1}, {0, 1, 0}, {0, 1, 1}}},
		{tab(1, list{nil}, list{{0}, {0, 0, 0}}), obs(1), list{{0, 0, 0, 0}}},
		{tab(1, list{nil}, list{{0}, {0, 0, 0}}), obs(1, trace([]int{0, 0, 0}, []int{5, 6, 7})), list{{0, 0, 0, 0}}},
		{tab(1, list{nil}, list{{0}, {0, 0, 0}}), obs(1, trace([]int{0, 0, 0, 0}, []int{5, 6, 7, 8})), nil},
		{tab(1, list{nil, {0}}, list{{0}}), obs(1), list{{0, 0, 0}}},
		{tab(2, list{nil}, list{{0}, {1}, {1, 1}}), obs(2), list{{0, 0}, {1, 0}, {0, 1, 1}, {1, 1, 1}}},
		{tab(2, list{nil}, list{{0}, {1}, {1, 1}}), obs(2, trace([]int{0, 1, 0}, []int{0, 0, 0})), list{{0, 0}, {1, 0}, {0, 1, 1}, {1, 1, 1}}},
	} {
		if l, e := table.Needed(c.x, c.o); !equal(l, c.want) || e != api.OK {
			t.Errorf("case %d: Needed returns %v, %d", i, l, e)
		}
	}
}

// P23.3: random tables and observations.
func TestNeededDrawn(t *testing.T) {
	none, some := 0, 0
	for state := range uint64(1500) {
		s := drawnSetting(t, state, state%4 == 0)
		want := literalNeeded(s.x, s.o)
		if l, e := table.Needed(s.x, s.o); !equal(l, want) || e != api.OK {
			t.Fatalf("Needed of %v and %v returns %v, %d, not %v", s.x, s.o, l, e, want)
		}
		if len(want) == 0 {
			none++
		} else {
			some++
		}
	}
	if none < 300 || some < 300 {
		t.Error(none, "tables are complete,", some, "are not")
	}
}

// P23.4: the rows of the example, of other words, and those that are not known.
func TestRow(t *testing.T) {
	x, _ := table.New(2)
	o := told(t, gate(), list{{0, 0}, {0, 1}, {1, 0}, {1, 1}})
	longer := tab(2, list{nil}, list{{0}, {1}, {1, 1}})
	more := told(t, gate(), list{{0, 0}, {0, 1, 1}, {1}})
	broken := tab(2, list{nil, nil}, x.Suffixes)
	for i, c := range []struct {
		x    api.Table
		o    api.Obs
		w    []int
		want [][]int
	}{
		{x, o, nil, list{{1}, {0}}},
		{x, o, []int{0}, list{{1}, {2}}},
		{x, o, []int{1}, list{{1}, {0}}},
		{x, o, []int{0, 0}, nil},
		{x, told(t, gate(), list{{0, 1, 0, 0}, {0, 1, 0, 1}}), []int{0, 1, 0}, list{{1}, {2}}},
		{x, told(t, gate(), list{{0, 1, 0, 0}, {0, 1, 0, 1}}), []int{0, 1}, nil},
		{longer, more, []int{0}, list{{1}, {2}, {2, 0}}},
		{longer, more, nil, nil},
		{x, obs(2), nil, nil},
		{x, o, []int{2}, nil},
		{x, o, []int{0, -1}, nil},
		{x, o, []int{math.MaxInt}, nil},
		{x, o, make([]int, api.MaxWord+5), nil},
		{broken, o, nil, nil},
		{tab(2, nil, x.Suffixes), o, nil, nil},
		{api.Table{}, api.Obs{}, nil, nil},
		{x, obs(1, trace([]int{0, 0}, []int{1, 1})), nil, nil},
		{x, obs(3, o.Traces...), nil, nil},
		{tab(1, list{nil}, list{{0}}), obs(1, trace(make([]int, api.MaxWord), append(make([]int, api.MaxWord-1), 7))), make([]int, api.MaxWord-1), list{{7}}},
		{tab(1, list{nil}, list{{0}}), obs(1, trace(make([]int, api.MaxWord), append(make([]int, api.MaxWord-1), 7))), make([]int, api.MaxWord), nil},
	} {
		if r, ok := table.Row(c.x, c.o, c.w); !equal(r, c.want) || ok != (c.want != nil) {
			t.Errorf("case %d: Row returns %v, %t", i, r, ok)
		}
	}
	for state := range uint64(500) {
		s := drawnSetting(t, state, state%2 == 0)
		words, _ := drawnWords(state, s.x.Inputs, 5, 0, 5)
		for _, w := range append(bases(s.x), words...) {
			want, known := literalRow(s.x, s.o, w)
			if r, ok := table.Row(s.x, s.o, w); !equal(r, want) || ok != known {
				t.Fatalf("Row of %v in %v and %v returns %v, %t", w, s.x, s.o, r, ok)
			}
		}
	}
}

// P23.5, P23.6, P23.8: the example of the document.
func TestGate(t *testing.T) {
	x, _ := table.New(2)
	o := full(t, gate(), x)
	if w, open, e := table.Unclosed(x, o); !slices.Equal(w, []int{0}) || !open || e != api.OK {
		t.Error("Unclosed returns", w, open, e)
	}
	if w, wrong, e := table.Inconsistent(x, o); len(w) != 0 || wrong || e != api.OK {
		t.Error("Inconsistent returns", w, wrong, e)
	}
	x = tab(2, list{nil, {0}}, x.Suffixes)
	o = full(t, gate(), x)
	if w, open, e := table.Unclosed(x, o); len(w) != 0 || open || e != api.OK {
		t.Error("Unclosed returns", w, open, e)
	}
	if w, wrong, e := table.Inconsistent(x, o); len(w) != 0 || wrong || e != api.OK {
		t.Error("Inconsistent returns", w, wrong, e)
	}
	h, e := table.Hypothesis(x, o)
	if !mealy.Same(h.M, gate()) || !equal(h.Access, list{nil, {0}}) || e != api.OK {
		t.Error("Hypothesis returns", h, e)
	}
}

// line returns a single trace for one input.
func line(outputs ...int) api.Obs {
	return obs(1, trace(make([]int, len(outputs)), outputs))
}

// P23.5: the first extension in shortlex order counts, and rows are equal as lists.
func TestUnclosed(t *testing.T) {
	for i, c := range []struct {
		x    api.Table
		o    api.Obs
		want []int
	}{
		{tab(1, list{nil}, list{{0}}), line(4, 4), nil},
		{tab(1, list{nil}, list{{0}}), line(4, 5), []int{0}},
		{tab(1, list{nil, {0}}, list{{0}}), line(4, 5, 4), nil},
		{tab(1, list{nil, {0}}, list{{0}}), line(4, 5, 6), []int{0, 0}},
		// Outputs with the same digits.
		{tab(1, list{nil, {0}}, list{{0}, {0, 0}}), line(1, 11, 1, 11), nil},
		{tab(1, list{nil}, list{{0}, {0, 0}}), line(11, 1, 11), []int{0}},
		{tab(1, list{nil}, list{{0}, {0, 0, 0}}), line(1, 12, 1, 21), []int{0}},
		{tab(1, list{nil}, list{{0}, {0, 0}}), line(api.MaxOutput, api.MaxOutput, api.MaxOutput), nil},
		{tab(1, list{nil}, list{{0}, {0, 0}}), line(api.MaxOutput, api.MaxOutput, api.MaxOutput-1), []int{0}},
		{tab(1, list{nil}, list{{0}}), line(256, 0), []int{0}},
		{tab(2, list{nil}, singles(2)), obs(2, trace([]int{0, 0}, []int{1, 11}), trace([]int{0, 1}, []int{1, 1}),
			trace([]int{1, 0}, []int{11, 1}), trace([]int{1, 1}, []int{11, 11})), []int{0}},
		{tab(2, list{nil}, singles(2)), obs(2, trace([]int{0, 0}, []int{5, 501}), trace([]int{0, 1}, []int{5, 1}),
			trace([]int{1, 0}, []int{101, 5}), trace([]int{1, 1}, []int{101, 101})), []int{0}},
		// The extensions 1 and 0 1 have new rows.
		{tab(2, list{nil, {0}}, singles(2)), obs(2, trace([]int{1, 0}, []int{0, 3}), trace([]int{1, 1}, []int{0, 3}),
			trace([]int{0, 0, 0}, []int{0, 0, 0}), trace([]int{0, 0, 1}, []int{0, 0, 0}), trace([]int{0, 1, 0}, []int{0, 0, 5}), trace([]int{0, 1, 1}, []int{0, 0, 5})), []int{1}},
	} {
		if w, open, e := table.Unclosed(c.x, c.o); !slices.Equal(w, c.want) || open != (c.want != nil) || e != api.OK {
			t.Errorf("case %d: Unclosed returns %v, %t, %d", i, w, open, e)
		}
	}
}

// marked returns the answers to all words of n symbols, in which the output after a word is 1 if it is one of the marked ones, and otherwise 0.
func marked(inputs, n int, marks [][]int) api.Obs {
	o := obs(inputs)
	all, _ := wordset.Upto(inputs, n)
	for _, w := range all {
		if len(w) < n {
			continue
		}
		out := make([]int, n)
		for i := range out {
			if wordset.Has(marks, w[:i+1]) {
				out[i] = 1
			}
		}
		o.Traces = append(o.Traces, trace(w, out))
	}
	return o
}

// P23.6: the pairs, inputs and suffixes in their order.
func TestInconsistent(t *testing.T) {
	three := tab(2, list{nil, {0}, {1}}, singles(2))
	four := tab(2, list{nil, {0}, {1}, {0, 0}}, singles(2))
	for i, c := range []struct {
		x    api.Table
		o    api.Obs
		want []int
	}{
		{tab(1, list{nil}, list{{0}}), line(0, 1), nil},
		{tab(1, list{nil, {0}}, list{{0}}), line(0, 0, 1), []int{0, 0}},
		{tab(1, list{nil, {0}}, list{{0}}), line(0, 1, 1), nil},
		{tab(1, list{nil, {0}}, list{{0}}), line(0, 0, 0), nil},
		{tab(1, list{nil, {0}, {0, 0}}, list{{0}}), line(0, 1, 0, 2), []int{0, 0}},
		{tab(1, list{nil, {0}}, list{{0}, {0, 0}, {0, 0, 0}}), line(0, 0, 0, 0, 1), []int{0, 0, 0, 0}},
		{tab(1, list{nil, {0}}, list{{0}, {0, 0, 0}}), line(0, 0, 0, 0, 0), nil},
		{three, marked(2, 3, nil), nil},
		{three, marked(2, 3, list{{0, 0, 1}}), []int{0, 1}},
		{three, marked(2, 3, list{{0, 0, 0}, {0, 0, 1}}), []int{0, 0}},
		{three, marked(2, 3, list{{0, 1, 0}}), []int{1, 0}},
		{three, marked(2, 3, list{{1, 1, 1}}), []int{1, 1}},
		// The input counts before the suffix.
		{three, marked(2, 3, list{{0, 1, 0}, {0, 0, 1}}), []int{0, 1}},
		// The second prefix counts before the input.
		{three, marked(2, 3, list{{1, 0, 0}, {0, 1, 1}}), []int{1, 1}},
		// The first prefix counts before the second one: the empty word and 0 0 have equal rows, and 0 and 1 have others.
		{four, marked(2, 4, list{{0, 0}, {1, 0}, {0, 0, 0, 0}, {1, 0, 0}}), []int{1, 0}},
		{four, marked(2, 4, list{{0, 0}, {1, 0}, {0, 0, 0, 0}, {0, 0, 1, 0}, {1, 0, 0}}), []int{0, 0}},
		{four, marked(2, 4, list{{0, 0}, {1, 0}, {0, 0, 0, 0}, {0, 0, 1, 0}}), nil},
		// The empty word and 0 have different rows.
		{tab(2, list{nil, {0}}, singles(2)), marked(2, 3, list{{0}, {0, 1, 0}}), nil},
	} {
		if w, wrong, e := table.Inconsistent(c.x, c.o); !slices.Equal(w, c.want) || wrong != (c.want != nil) || e != api.OK {
			t.Errorf("case %d: Inconsistent returns %v, %t, %d", i, w, wrong, e)
		}
	}
}

// P23.5, P23.6, P23.8: random tables, by the definitions.
func TestCompleteDrawn(t *testing.T) {
	count := map[[2]bool]int{}
	for state := range uint64(3000) {
		s := drawnSetting(t, state, true)
		w, open, e := table.Unclosed(s.x, s.o)
		if want, found := literalUnclosed(s.x, s.o); !slices.Equal(w, want) || open != found || e != api.OK {
			t.Fatalf("Unclosed of %v and %v returns %v, %t, %d, not %v, %t", s.x, s.o, w, open, e, want, found)
		}
		w, wrong, e := table.Inconsistent(s.x, s.o)
		if want, found := literalInconsistent(s.x, s.o); !slices.Equal(w, want) || wrong != found || e != api.OK {
			t.Fatalf("Inconsistent of %v and %v returns %v, %t, %d, not %v, %t", s.x, s.o, w, wrong, e, want, found)
		}
		h, e := table.Hypothesis(s.x, s.o)
		want, failure := api.Hyp{}, api.ErrState
		if !open && !wrong {
			want, failure = literalHypothesis(s.x, s.o), api.OK
		}
		if !mealy.Same(h.M, want.M) || !equal(h.Access, want.Access) || e != failure {
			t.Fatalf("Hypothesis of %v and %v returns %v, %d, not %v", s.x, s.o, h, e, want)
		}
		count[[2]bool{open, wrong}]++
	}
	for _, c := range [][2]bool{{false, false}, {false, true}, {true, false}, {true, true}} {
		if count[c] < 50 {
			t.Errorf("%d tables have open %t, wrong %t", count[c], c[0], c[1])
		}
	}
}

// P23.3, P23.5, P23.6, P23.8: the errors in their order.
func TestRowsErrors(t *testing.T) {
	x, _ := table.New(2)
	o := full(t, gate(), x)
	for i, c := range []struct {
		x                api.Table
		o                api.Obs
		needed, complete api.Errno
		hypothesis       api.Errno
	}{
		{api.Table{}, obs(2), api.ErrRange, api.ErrRange, api.ErrRange},
		{tab(2, nil, nil), obs(1), api.ErrEmpty, api.ErrEmpty, api.ErrEmpty},
		{tab(2, list{nil, {1}, {0}}, x.Suffixes), o, api.ErrState, api.ErrState, api.ErrState},
		{tab(2, list{nil}, list{{0}, {1}, {0}}), obs(3), api.ErrState, api.ErrState, api.ErrState},
		{tab(2, list{nil}, list{{0}}), o, api.ErrInvalid, api.ErrInvalid, api.ErrInvalid},
		{tab(1, chain(0, 200), chain(1, 400)), obs(2), api.ErrLimit, api.ErrLimit, api.ErrLimit},
		{tab(1, list{nil}, list{{0}, make([]int, api.MaxWord)}), obs(2), api.ErrTooLong, api.ErrTooLong, api.ErrTooLong},
		{x, obs(1), api.ErrConflict, api.ErrConflict, api.ErrConflict},
		{x, obs(3, o.Traces...), api.ErrConflict, api.ErrConflict, api.ErrConflict},
		{x, obs(0), api.ErrConflict, api.ErrConflict, api.ErrConflict},
		{x, obs(2), api.OK, api.ErrIncomplete, api.ErrIncomplete},
		{x, obs(2, o.Traces[1:]...), api.OK, api.ErrIncomplete, api.ErrIncomplete},
		{x, obs(2, o.Traces[:3]...), api.OK, api.ErrIncomplete, api.ErrIncomplete},
		{tab(2, list{nil, {0}}, x.Suffixes), o, api.OK, api.ErrIncomplete, api.ErrIncomplete},
		{tab(2, list{nil, {1}}, x.Suffixes), o, api.OK, api.ErrIncomplete, api.ErrIncomplete},
		{tab(2, list{nil}, list{{0}, {1}, {1, 1}}), o, api.OK, api.ErrIncomplete, api.ErrIncomplete},
		{x, o, api.OK, api.OK, api.ErrState},
		{tab(1, list{nil, {0}}, list{{0}}), line(0, 0, 1), api.OK, api.OK, api.ErrState},
		{tab(1, list{nil, {0}, {0, 0}}, list{{0}}), line(0, 1, 0, 0), api.OK, api.OK, api.ErrState},
	} {
		if l, e := table.Needed(c.x, c.o); e != c.needed || e != api.OK && len(l) != 0 {
			t.Errorf("case %d: Needed returns %v, %d, not %d", i, l, e, c.needed)
		}
		if w, ok, e := table.Unclosed(c.x, c.o); e != c.complete || e != api.OK && (ok || len(w) != 0) {
			t.Errorf("case %d: Unclosed returns %v, %t, %d, not %d", i, w, ok, e, c.complete)
		}
		if w, ok, e := table.Inconsistent(c.x, c.o); e != c.complete || e != api.OK && (ok || len(w) != 0) {
			t.Errorf("case %d: Inconsistent returns %v, %t, %d, not %d", i, w, ok, e, c.complete)
		}
		h, e := table.Hypothesis(c.x, c.o)
		if e != c.hypothesis || e != api.OK && (!mealy.Same(h.M, api.Mealy{}) || len(h.Access) != 0) {
			t.Errorf("case %d: Hypothesis returns %v, %d, not %d", i, h, e, c.hypothesis)
		}
	}
}

// counter returns the observations of n symbols, of which every k-th one has the output 1, for one input.
func counter(n, k int) api.Obs {
	outputs := make([]int, n)
	for i := range outputs {
		if i%k == k-1 {
			outputs[i] = 1
		}
	}
	return line(outputs...)
}

// P23.8: the greatest number of states.
func TestHypothesisLimit(t *testing.T) {
	for i, c := range []struct {
		prefixes, period int
		want             api.Errno
	}{
		{api.MaxStates, api.MaxStates, api.OK},
		{api.MaxStates + 10, api.MaxStates, api.OK},
		{api.MaxStates - 1, api.MaxStates, api.ErrState},
		{api.MaxStates + 1, api.MaxStates + 1, api.ErrLimit},
		{api.MaxStates + 5, api.MaxStates + 2, api.ErrLimit},
		{api.MaxStates + 1, api.MaxStates + 2, api.ErrState},
	} {
		x := tab(1, chain(0, c.prefixes-1), chain(1, c.period))
		h, e := table.Hypothesis(x, counter(c.prefixes+c.period, c.period))
		if e != c.want || e == api.OK && len(h.M.Next) != c.period || e != api.OK && len(h.Access)+len(h.M.Next) != 0 {
			t.Errorf("case %d: Hypothesis returns %v, %d", i, h, e)
		}
	}
}

// closedUnder reports whether the suffixes of a table are suffix-closed.
func closedUnder(x api.Table) bool {
	return len(wordset.Suffixes(x.Suffixes)) == len(x.Suffixes)+1
}

// P23.9: hypotheses are valid, and each prefix reaches its row; with suffix-closed suffixes they agree and are minimal.
func TestHypotheses(t *testing.T) {
	closed, others := 0, 0
	for state := range uint64(3000) {
		s := drawnSetting(t, state, true)
		h, e := table.Hypothesis(s.x, s.o)
		if e != api.OK {
			continue
		}
		if hypothesis.Valid(h) != api.OK {
			t.Fatalf("the hypothesis %v of %v and %v is not valid", h, s.x, s.o)
		}
		for _, p := range s.x.Prefixes {
			access, _ := hypothesis.State(h, p)
			if !equal(rows(s.x, s.o, access), rows(s.x, s.o, p)) {
				t.Fatalf("in %v the prefix %v of %v reaches %v", h, p, s.x, access)
			}
		}
		if !closedUnder(s.x) {
			others++
			continue
		}
		closed++
		if !minimize.Minimal(h.M) {
			t.Fatalf("the hypothesis %v of %v and %v is not minimal", h, s.x, s.o)
		}
		for _, w := range cells(s.x) {
			answer, _ := observe.Answer(s.o, w)
			if out, e := mealy.Run(h.M, w); !slices.Equal(out, answer) || e != api.OK {
				t.Fatalf("%v has the output word %v for %v, not %v", h, out, w, answer)
			}
		}
	}
	if closed < 100 || others < 100 {
		t.Error(closed, "tables are suffix-closed,", others, "are not")
	}
}

// P23.10: repairs add exactly the word, which is new, and separate what was equal.
func TestRepairs(t *testing.T) {
	prefixes, suffixes := 0, 0
	for state := range uint64(2000) {
		s := drawnSetting(t, state, true)
		if w, open, _ := table.Unclosed(s.x, s.o); open {
			prefixes++
			y, e := table.Prefix(s.x, w)
			if e != api.OK || wordset.Has(s.x.Prefixes, w) || len(y.Prefixes) != len(s.x.Prefixes)+1 || !wordset.Has(y.Prefixes, w) || !equal(y.Suffixes, s.x.Suffixes) {
				t.Fatalf("Prefix of %v by %v returns %v, %d", s.x, w, y, e)
			}
		}
		w, wrong, _ := table.Inconsistent(s.x, s.o)
		if !wrong {
			continue
		}
		suffixes++
		y, e := table.Suffix(s.x, w)
		if e != api.OK || wordset.Has(s.x.Suffixes, w) || len(y.Suffixes) != len(s.x.Suffixes)+1 || closedUnder(s.x) && !closedUnder(y) {
			t.Fatalf("Suffix of %v by %v returns %v, %d", s.x, w, y, e)
		}
		if o := full(t, s.m, y); !separated(s.x, y, s.o, o) {
			t.Fatalf("after %v was added to %v, equal rows remain equal", w, s.x)
		}
	}
	if prefixes < 100 || suffixes < 100 {
		t.Error(prefixes, "tables are not closed,", suffixes, "are not consistent")
	}
}

// separated reports whether two prefixes with equal rows in x have different ones in y.
func separated(x, y api.Table, before, after api.Obs) bool {
	for _, p := range x.Prefixes {
		for _, q := range x.Prefixes {
			if equal(rows(x, before, p), rows(x, before, q)) && !equal(rows(y, after, p), rows(y, after, q)) {
				return true
			}
		}
	}
	return false
}

// P23.3, P23.5, P23.6, P23.8: tables and observations of the greatest sizes, in a reasonable time.
func TestRowsMost(t *testing.T) {
	m, _ := drawn(3, 2, 100, 1000)
	m, _ = minimize.Min(m)
	x := tab(2, first(2, 2048, nil), first(2, 6, []int{0}))
	l, e := table.Needed(x, obs(2))
	if len(l) > api.MaxTraces || len(l) < api.MaxTraces/2 || e != api.OK {
		t.Fatal("Needed returns", len(l), e)
	}
	o := told(t, m, l)
	if l, e := table.Needed(x, o); len(l) != 0 || e != api.OK {
		t.Error("Needed returns", len(l), e)
	}
	if w, open, e := table.Unclosed(x, o); len(w) != 0 || open || e != api.OK {
		t.Error("Unclosed returns", w, open, e)
	}
	if w, wrong, e := table.Inconsistent(x, o); len(w) != 0 || wrong || e != api.OK {
		t.Error("Inconsistent returns", w, wrong, e)
	}
	if h, e := table.Hypothesis(x, o); len(h.Access) != len(m.Next) || e != api.OK {
		t.Error("Hypothesis returns", h, e)
	}
	// The cells of this table are all words of at most 401 zeros, of which many have long rows.
	x = tab(1, chain(0, 199), chain(1, 400))
	if l, e := table.Needed(x, obs(1)); !equal(l, chain(600, 600)) || e != api.OK {
		t.Error("Needed returns", l, e)
	}
	if w, open, e := table.Unclosed(x, counter(600, 600)); !slices.Equal(w, make([]int, 200)) || !open || e != api.OK {
		t.Error("Unclosed returns", w, open, e)
	}
}

// R1: no tables and observations make a function panic.
func TestNotValid(t *testing.T) {
	odd := []api.Trace{{}, trace([]int{0, 1}, nil), trace(nil, []int{1}), trace([]int{-1, 5}, []int{7, 8}), trace([]int{0}, []int{1, 2, 3}), trace(make([]int, api.MaxWord+2), []int{0}), trace([]int{0, 0, 0}, []int{-1, math.MaxInt, 0}), trace([]int{0, 0, 0}, []int{-1, math.MinInt, 0})}
	for inputs := range 3 {
		for _, w := range [][]int{{0, 0, 0}, {0, 0, 1}, {0, 1, 0}, {0, 1, 1}, {1, 0}, {1, 1}} {
			odd = append(odd, trace(w, w), trace(w, make([]int, len(w))))
		}
		var tables []api.Table
		for _, p := range [][][]int{nil, {nil}, {nil, {0}}, {{0}}, {{5}, nil}, {nil, {0}, {-1}}, {nil, make([]int, api.MaxWord+1)}} {
			for _, s := range [][][]int{nil, {nil}, {{0}}, {{0}, {1}}, {{0}, {1}, {0, 1}}, {{1}, {0}}} {
				tables = append(tables, tab(inputs, p, s), tab(-inputs, p, s))
			}
		}
		for _, x := range tables {
			table.Valid(x)
			for i := range odd {
				o := obs(inputs, append(slices.Clone(odd[i:]), odd[:i]...)...)
				table.Needed(x, o)
				table.Unclosed(x, o)
				table.Inconsistent(x, o)
				table.Hypothesis(x, o)
				for _, w := range [][]int{nil, {0}, {-1}, make([]int, api.MaxWord+1)} {
					table.Row(x, o, w)
					table.Prefix(x, w)
					table.Suffix(x, w)
				}
			}
		}
	}
}

// P23.3 to P23.8, R5: results are new memory, and arguments do not change.
func TestRowsMemory(t *testing.T) {
	x := tab(2, list{nil, []int{0, 8}[:1]}, list{[]int{0, 8}[:1], []int{1, 8}[:1], []int{1, 1, 8}[:2]})
	o := full(t, gate(), x)
	before := obs(2)
	for _, tr := range o.Traces {
		before.Traces = append(before.Traces, trace(slices.Clone(tr.In), slices.Clone(tr.Out)))
	}
	r, _ := table.Row(x, o, nil)
	spoil(r)
	h, e := table.Hypothesis(x, o)
	if e != api.OK {
		t.Fatal(e)
	}
	for _, l := range []*[][]int{&h.Access, &h.M.Next, &h.M.Out} {
		spoil(*l)
		*l = nil
		again, _ := table.Hypothesis(x, o)
		if again.M.Inputs != 2 || !mealy.Same(again.M, gate()) || !equal(again.Access, list{nil, {0}}) {
			t.Error("the hypothesis has become", again)
		}
	}
	l, _ := table.Needed(x, obs(2))
	spoil(l)
	start := tab(2, list{nil}, x.Suffixes)
	w, _, _ := table.Unclosed(start, o)
	spoil(list{w})
	same := full(t, gate(), tab(2, list{nil, {0}, {1}}, x.Suffixes))
	table.Inconsistent(tab(2, list{nil, {0}, {1}}, x.Suffixes), same)
	v, wrong, e := table.Inconsistent(tab(1, list{nil, {0}}, list{{0}}), line(0, 0, 1))
	if !wrong || e != api.OK {
		t.Error("Inconsistent returns", v, wrong, e)
	}
	spoil(list{v})
	if !observe.Same(o, before) {
		t.Error("the observations have become", o)
	}
	if !equal(x.Prefixes, list{nil, {0}}) || !equal(x.Suffixes, list{{0}, {1}, {1, 1}}) || x.Prefixes[1][:2][1] != 8 || x.Suffixes[2][:3][2] != 8 {
		t.Error("the table has become", x)
	}
}
