package observe_test

import (
	"math"
	"slices"
	"testing"

	"learner/api"
	"learner/mealy"
	"learner/observe"
	"learner/random"
	"learner/word"
)

// list is a list of numbers, often a word.
type list = []int

// gate returns the gate of the document.
func gate() api.Mealy {
	return api.Mealy{Inputs: 2, Next: [][]int{{1, 0}, {1, 0}}, Out: [][]int{{1, 0}, {1, 2}}}
}

// trace returns a trace.
func trace(in, out []int) api.Trace {
	return api.Trace{In: in, Out: out}
}

// obs returns observations that need not be valid.
func obs(inputs int, traces ...api.Trace) api.Obs {
	return api.Obs{Inputs: inputs, Traces: traces}
}

// added returns the observations that contain several traces.
func added(t *testing.T, o api.Obs, traces ...api.Trace) api.Obs {
	t.Helper()
	for _, x := range traces {
		next, e := observe.Add(o, x)
		if e != api.OK {
			t.Fatalf("Add of %v to %v returns %d", x, o, e)
		}
		o = next
	}
	return o
}

// equal reports whether two observations have equal fields.
func equal(a, b api.Obs) bool {
	return a.Inputs == b.Inputs && slices.EqualFunc(a.Traces, b.Traces, func(t, u api.Trace) bool {
		return slices.Equal(t.In, u.In) && slices.Equal(t.Out, u.Out)
	})
}

// words uses all words of at most n symbols.
func words(inputs, n int, use func(w []int)) {
	for w, ok := []int(nil), true; ok && len(w) <= n; w, ok = word.Next(w, inputs) {
		use(w)
	}
}

// cut returns a prefix of a trace.
func cut(t api.Trace, n int) api.Trace {
	return trace(t.In[:n], t.Out[:n])
}

// contains reports whether one of the traces of l has the prefix t.
func contains(l []api.Trace, t api.Trace) bool {
	return len(t.In) == 0 || slices.ContainsFunc(l, func(x api.Trace) bool {
		return word.HasPrefix(x.In, t.In) && word.HasPrefix(x.Out, t.Out)
	})
}

// contradict reports whether two traces contradict each other.
func contradict(t, u api.Trace) bool {
	return word.Common(t.Out, u.Out) < word.Common(t.In, u.In)
}

// maximal returns the observations that contain the traces of l, which do not contradict each other.
func maximal(inputs int, l []api.Trace) api.Obs {
	o := obs(inputs)
	for i, t := range l {
		longer := func(x api.Trace) bool { return len(x.In) > len(t.In) && word.HasPrefix(x.In, t.In) }
		if len(t.In) > 0 && !slices.ContainsFunc(l, longer) && !contains(l[:i], t) {
			o.Traces = append(o.Traces, t)
		}
	}
	slices.SortFunc(o.Traces, func(t, u api.Trace) int { return word.Compare(t.In, u.In) })
	return o
}

// drawn returns a random machine.
func drawn(state uint64, inputs, states, outputs int) api.Mealy {
	m := api.Mealy{Inputs: inputs}
	for range states {
		var next, out []int
		next, state, _ = random.Word(state, states, inputs)
		out, state, _ = random.Word(state, outputs, inputs)
		m.Next = append(m.Next, next)
		m.Out = append(m.Out, out)
	}
	return m
}

// drawnWords returns n random words of at most most symbols.
func drawnWords(state uint64, inputs, n, most int) [][]int {
	var l [][]int
	for range n {
		var length int
		var w []int
		length, state, _ = random.Below(state, most+1)
		w, state, _ = random.Word(state, inputs, length)
		l = append(l, w)
	}
	return l
}

// noisy returns the traces of a random machine for random words, in which some outputs are other ones.
func noisy(state uint64, inputs, n, most int) []api.Trace {
	m := drawn(state, inputs, 3, 2)
	l, _ := mealy.Traces(m, drawnWords(state, inputs, n, most))
	for _, t := range l {
		for i := range t.Out {
			var x int
			x, state, _ = random.Below(state, 25)
			if x == 0 {
				t.Out[i] = 2
			}
		}
	}
	return l
}

// P16.1: the numbers of inputs.
func TestNew(t *testing.T) {
	for inputs, want := range map[int]api.Errno{
		1: api.OK, 2: api.OK, api.MaxInputs: api.OK,
		0: api.ErrRange, -1: api.ErrRange, api.MaxInputs + 1: api.ErrRange, math.MaxInt: api.ErrRange, math.MinInt: api.ErrRange,
	} {
		o, e := observe.New(inputs)
		if e != want || e == api.OK && !equal(o, obs(inputs)) || e != api.OK && !equal(o, api.Obs{}) {
			t.Errorf("New of %d returns %v, %d", inputs, o, e)
		}
		if e := observe.Valid(obs(inputs)); e != want {
			t.Errorf("Valid of no traces with %d inputs returns %d", inputs, e)
		}
	}
}

// P16.2: the errors of the fields and of each trace, in their order.
func TestValid(t *testing.T) {
	long := make(list, api.MaxWord+1)
	ok := trace(list{0}, list{1})
	for i, c := range []struct {
		o    api.Obs
		want api.Errno
	}{
		{obs(2), api.OK},
		{obs(2, ok), api.OK},
		{obs(2, ok, trace(list{1}, list{0})), api.OK},
		{obs(2, trace(list{1}, list{0}), trace(list{0, 1}, list{1, 2})), api.OK},
		{obs(2, trace(list{0, 0}, list{1, 5}), trace(list{0, 1}, list{1, 6})), api.OK},
		{obs(2, trace(list{0, 0}, list{1, 5}), trace(list{0, 1, 1}, list{1, 6, 7})), api.OK},
		{obs(2, trace(long[:api.MaxWord], long[:api.MaxWord])), api.OK},
		{obs(2, trace(list{1}, list{api.MaxOutput})), api.OK},
		{api.Obs{}, api.ErrRange},
		{obs(0, make([]api.Trace, api.MaxTraces+1)...), api.ErrRange},
		{obs(2, make([]api.Trace, api.MaxTraces+1)...), api.ErrLimit},
		{obs(2, make([]api.Trace, api.MaxTraces)...), api.ErrEmpty},
		{obs(2, trace(list{2}, nil)), api.ErrInvalid},
		{obs(2, trace(list{-1}, list{-1})), api.ErrInvalid},
		{obs(2, trace(long, nil)), api.ErrTooLong},
		{obs(2, trace(nil, nil)), api.ErrEmpty},
		{obs(2, trace(nil, list{-1})), api.ErrEmpty},
		{obs(2, ok, trace(nil, list{1})), api.ErrEmpty},
		{obs(2, trace(list{0, 1}, list{1})), api.ErrInvalid},
		{obs(2, trace(list{0, 1}, list{1, 1, -1})), api.ErrInvalid},
		{obs(2, trace(list{0}, nil)), api.ErrInvalid},
		{obs(2, trace(list{0}, list{-1})), api.ErrRange},
		{obs(2, trace(list{0, 0}, list{1, api.MaxOutput + 1})), api.ErrRange},
		{obs(2, ok, trace(list{0}, list{-1})), api.ErrRange},
		{obs(2, ok, trace(list{0}, list{1, 1})), api.ErrInvalid},
		{obs(2, ok, trace(list{0}, list{2})), api.ErrState},
		{obs(2, ok, ok), api.ErrState},
		{obs(2, trace(list{1}, list{1}), ok), api.ErrState},
		{obs(2, trace(list{0, 0}, list{1, 1}), ok), api.ErrState},
		{obs(2, trace(list{0, 0}, list{1, 1}), trace(list{1}, list{1})), api.ErrState},
		{obs(2, trace(list{1}, list{1}), ok, trace(list{2}, nil)), api.ErrState},
		{obs(2, ok, trace(list{0, 1}, list{1, 1}), trace(list{1}, list{1})), api.ErrState},
		{obs(2, ok, trace(list{0, 1}, list{2, 1}), trace(list{0, 2}, list{1, 1})), api.ErrInvalid},
	} {
		if e := observe.Valid(c.o); e != c.want {
			t.Errorf("case %d: Valid returns %d, not %d", i, e, c.want)
		}
	}
}

// P16.2: the first trace that does not fit to a later one.
func TestValidTogether(t *testing.T) {
	for i, c := range []struct {
		want   api.Errno
		traces []api.Trace
	}{
		{api.ErrExists, []api.Trace{trace(list{0}, list{1}), trace(list{0, 1}, list{1, 2})}},
		{api.ErrExists, []api.Trace{trace(list{0}, list{1}), trace(list{0, 1}, list{2, 2})}},
		{api.ErrExists, []api.Trace{trace(list{1}, list{0}), trace(list{0, 1}, list{1, 2}), trace(list{1, 0, 0, 0}, list{0, 0, 0, 0})}},
		{api.ErrNondet, []api.Trace{trace(list{0, 0}, list{1, 2}), trace(list{0, 1}, list{2, 2})}},
		{api.ErrNondet, []api.Trace{trace(list{0, 0}, list{1, 2}), trace(list{0, 1}, list{1, 2}), trace(list{0, 2, 2}, list{2, 2, 2})}},
		{api.ErrNondet, []api.Trace{trace(list{1, 0}, list{1, 2}), trace(list{0, 0, 0}, list{1, 2, 0}), trace(list{0, 0, 1, 1}, list{1, 1, 0, 0})}},
		// The first trace with an error counts, and for one trace ErrExists.
		{api.ErrExists, []api.Trace{trace(list{0}, list{1}), trace(list{1, 0}, list{0, 0}), trace(list{1, 1}, list{1, 1}), trace(list{0, 0, 0}, list{1, 1, 1})}},
		{api.ErrNondet, []api.Trace{trace(list{0, 0}, list{1, 1}), trace(list{1, 0}, list{0, 0}), trace(list{0, 1, 0}, list{0, 0, 0}), trace(list{1, 0, 0}, list{0, 0, 0})}},
		{api.ErrNondet, []api.Trace{trace(list{1, 1}, list{0, 0}), trace(list{0, 0, 0}, list{0, 0, 0}), trace(list{1, 0, 0}, list{1, 1, 1}), trace(list{0, 0, 0, 0}, list{0, 0, 0, 0})}},
		{api.ErrExists, []api.Trace{trace(list{0, 0}, list{1, 1}), trace(list{0, 1}, list{0, 0}), trace(list{0, 0, 1}, list{1, 1, 0})}},
		{api.ErrNondet, []api.Trace{trace(list{0, 0}, list{1, 1}), trace(list{0, 1}, list{0, 0}), trace(list{0, 1, 1}, list{0, 0, 0})}},
	} {
		if e := observe.Valid(obs(3, c.traces...)); e != c.want {
			t.Errorf("case %d: Valid returns %d, not %d", i, e, c.want)
		}
	}
}

// together returns the error of proper traces that are sorted, by comparing all pairs.
func together(l []api.Trace) api.Errno {
	for i, t := range l {
		if slices.ContainsFunc(l[i+1:], func(u api.Trace) bool { return word.HasPrefix(u.In, t.In) }) {
			return api.ErrExists
		}
		if slices.ContainsFunc(l[i+1:], func(u api.Trace) bool { return contradict(t, u) }) {
			return api.ErrNondet
		}
	}
	return api.OK
}

// P16.2: many lists of traces, of which some have contradictions, prefixes, or both.
func TestValidPairs(t *testing.T) {
	count := map[api.Errno]int{}
	for state := range uint64(3000) {
		l := noisy(state, 2+int(state%2), 2+int(state%9), 4+int(state%4))
		l = slices.DeleteFunc(l, func(x api.Trace) bool { return len(x.In) < 3 })
		slices.SortStableFunc(l, func(t, u api.Trace) int { return word.Compare(t.In, u.In) })
		l = slices.CompactFunc(l, func(t, u api.Trace) bool { return slices.Equal(t.In, u.In) })
		want := together(l)
		count[want]++
		if e := observe.Valid(obs(3, l...)); e != want {
			t.Fatalf("Valid of %v returns %d, not %d", l, e, want)
		}
	}
	if len(count) != 3 || count[api.OK] < 100 || count[api.ErrExists] < 100 || count[api.ErrNondet] < 100 {
		t.Error("the lists have the errors", count)
	}
}

// P16.3: the empty word, prefixes, and lists that are not words.
func TestAnswer(t *testing.T) {
	o := obs(2, trace(list{1}, list{0}), trace(list{0, 1}, list{1, 2}), trace(list{0, 0, 0, 1}, list{1, 1, 1, 2}))
	for _, c := range []struct {
		w, answer list
		known     int
	}{
		{nil, nil, 0},
		{list{0}, list{1}, 1},
		{list{1}, list{0}, 1},
		{list{0, 1}, list{1, 2}, 2},
		{list{0, 0}, list{1, 1}, 2},
		{list{0, 0, 0}, list{1, 1, 1}, 3},
		{list{0, 0, 0, 1}, list{1, 1, 1, 2}, 4},
		{list{1, 0}, nil, 1},
		{list{1, 1, 1, 1, 1}, nil, 1},
		{list{0, 1, 0}, nil, 2},
		{list{0, 0, 1}, nil, 2},
		{list{0, 0, 0, 0}, nil, 3},
		{list{0, 0, 0, 1, 0}, nil, 4},
		{list{2}, nil, 0},
		{list{-1}, nil, 0},
		{list{0, math.MaxInt}, nil, 1},
		{list{0, 0, math.MinInt}, nil, 2},
		{append(list{0, 1}, make(list, api.MaxWord)...), nil, 2},
	} {
		w, ok := observe.Answer(o, c.w)
		if ok != (c.known == len(c.w)) || !slices.Equal(w, c.answer) {
			t.Errorf("Answer of %v returns %v, %t", c.w, w, ok)
		}
		if n := observe.Known(o, c.w); n != c.known {
			t.Errorf("Known of %v returns %d", c.w, n)
		}
	}
	empty := obs(2)
	if w, ok := observe.Answer(empty, nil); len(w) != 0 || !ok || observe.Known(empty, nil) != 0 {
		t.Error("the empty word is not answered")
	}
	if w, ok := observe.Answer(empty, list{0}); len(w) != 0 || ok || observe.Known(empty, list{0}) != 0 {
		t.Error("there is an answer without traces")
	}
}

// P16.4: the shortest prefix with another output, and traces that are not proper.
func TestClash(t *testing.T) {
	o := obs(2, trace(list{1}, list{0}), trace(list{0, 1}, list{1, 2}), trace(list{0, 0, 0, 1}, list{1, 1, 1, 2}))
	for _, c := range []struct {
		t    api.Trace
		want api.Clash
	}{
		{trace(list{1}, list{3}), api.Clash{Word: list{1}, First: 0, Second: 3}},
		{trace(list{1, 1}, list{3, 3}), api.Clash{Word: list{1}, First: 0, Second: 3}},
		{trace(list{0, 1}, list{1, 0}), api.Clash{Word: list{0, 1}, First: 2, Second: 0}},
		{trace(list{0, 1}, list{0, 0}), api.Clash{Word: list{0}, First: 1, Second: 0}},
		{trace(list{0, 0, 0, 0}, list{1, 1, 2, 2}), api.Clash{Word: list{0, 0, 0}, First: 1, Second: 2}},
		{trace(list{0, 0, 0, 1}, list{1, 1, 1, 0}), api.Clash{Word: list{0, 0, 0, 1}, First: 2, Second: 0}},
		{trace(list{0, 1, 1, 1}, list{2, 0, 0, 0}), api.Clash{Word: list{0}, First: 1, Second: 2}},
	} {
		if got, ok := observe.Clash(o, c.t); !ok || !slices.Equal(got.Word, c.want.Word) || got.First != c.want.First || got.Second != c.want.Second {
			t.Errorf("Clash of %v returns %v, %t", c.t, got, ok)
		}
	}
	long := make(list, api.MaxWord+1)
	for _, x := range []api.Trace{
		{},
		trace(list{1}, list{0}),
		trace(list{1, 1}, list{0, 9}),
		trace(list{0, 0, 1}, list{1, 1, 0}),
		trace(list{0, 0, 0, 1, 1}, list{1, 1, 1, 2, 3}),
		// These are not proper.
		trace(list{1}, list{-1}),
		trace(list{1}, list{api.MaxOutput + 1}),
		trace(list{1}, list{3, 3}),
		trace(list{1}, nil),
		trace(nil, list{3}),
		trace(list{1, 2}, list{3, 3}),
		trace(list{0, -1}, list{0, 0}),
		trace(long, long),
	} {
		if got, ok := observe.Clash(o, x); ok || len(got.Word) != 0 || got.First != 0 || got.Second != 0 {
			t.Errorf("Clash of %v returns %v, %t", x, got, ok)
		}
	}
}

// P16.5: single traces.
func TestAdd(t *testing.T) {
	o := obs(2)
	for _, c := range []struct {
		t    api.Trace
		want []api.Trace
	}{
		{trace(nil, nil), nil},
		{trace(list{0}, list{1}), []api.Trace{trace(list{0}, list{1})}},
		{trace(list{0, 1}, list{1, 2}), []api.Trace{trace(list{0, 1}, list{1, 2})}},
		{trace(list{0}, list{1}), []api.Trace{trace(list{0, 1}, list{1, 2})}},
		{trace(nil, nil), []api.Trace{trace(list{0, 1}, list{1, 2})}},
		{trace(list{1}, list{0}), []api.Trace{trace(list{1}, list{0}), trace(list{0, 1}, list{1, 2})}},
		{trace(list{0, 0, 1}, list{1, 0, api.MaxOutput}), []api.Trace{trace(list{1}, list{0}), trace(list{0, 1}, list{1, 2}), trace(list{0, 0, 1}, list{1, 0, api.MaxOutput})}},
		{trace(list{1, 1}, list{0, 0}), []api.Trace{trace(list{0, 1}, list{1, 2}), trace(list{1, 1}, list{0, 0}), trace(list{0, 0, 1}, list{1, 0, api.MaxOutput})}},
	} {
		o = added(t, o, c.t)
		if !equal(o, obs(2, c.want...)) {
			t.Fatalf("after adding %v there are %v", c.t, o)
		}
	}
	long := make(list, api.MaxWord)
	if o = added(t, o, trace(long, append(list{1}, long[1:]...))); len(o.Traces) != 4 || len(o.Traces[3].In) != api.MaxWord {
		t.Error("the longest word is not added")
	}
}

// P16.5: the errors, in their order, which leave the observations as they are.
func TestAddErrors(t *testing.T) {
	o := obs(2, trace(list{1}, list{0}), trace(list{0, 1}, list{1, 2}))
	long := make(list, api.MaxWord+1)
	for i, c := range []struct {
		t    api.Trace
		want api.Errno
	}{
		{trace(long, nil), api.ErrTooLong},
		{trace(append(long, 2), nil), api.ErrTooLong},
		{trace(list{2}, nil), api.ErrInvalid},
		{trace(list{-1}, list{-1}), api.ErrInvalid},
		{trace(list{1, 0}, list{-1}), api.ErrInvalid},
		{trace(list{1}, nil), api.ErrInvalid},
		{trace(nil, list{0}), api.ErrInvalid},
		{trace(list{1}, list{1, 1}), api.ErrInvalid},
		{trace(list{1}, list{-1}), api.ErrRange},
		{trace(list{1, 1}, list{1, api.MaxOutput + 1}), api.ErrRange},
		{trace(list{1}, list{1}), api.ErrNondet},
		{trace(list{0}, list{2}), api.ErrNondet},
		{trace(list{0, 1}, list{1, 1}), api.ErrNondet},
		{trace(list{0, 1, 1, 1}, list{1, 0, 1, 1}), api.ErrNondet},
		{trace(list{0, 0}, list{0, 0}), api.ErrNondet},
	} {
		if x, e := observe.Add(o, c.t); e != c.want || !equal(x, o) {
			t.Errorf("case %d: Add returns %v, %d, not %d", i, x, e, c.want)
		}
	}
}

// full returns observations with MaxTraces traces, each of three symbols.
func full() api.Obs {
	o := obs(api.MaxInputs)
	for w, ok := (list{0, 0, 0}), true; ok && len(o.Traces) < api.MaxTraces; w, ok = word.Next(w, o.Inputs) {
		o.Traces = append(o.Traces, trace(w, list{w[0], 0, w[2]}))
	}
	return o
}

// P16.2, P16.5: the greatest number of traces.
func TestAddLimit(t *testing.T) {
	o := full()
	if e := observe.Valid(o); e != api.OK {
		t.Fatal("Valid returns", e)
	}
	first := o.Traces[0]
	longer := trace(append(slices.Clone(first.In), 5), append(slices.Clone(first.Out), 5))
	for i, c := range []struct {
		t    api.Trace
		want api.Errno
	}{
		{trace(list{63}, list{63}), api.ErrLimit},
		{trace(list{0, 0, 0, 5, 5}, list{0, 0, 0, 0, 0}), api.OK},
		{trace(list{63, 0, 0, 5, 5}, list{0, 0, 0, 0, 0}), api.ErrLimit},
		{longer, api.OK},
		{first, api.OK},
		{cut(first, 1), api.OK},
		{trace(list{1}, list{0}), api.ErrNondet},
		{trace(list{63}, list{-1}), api.ErrRange},
	} {
		x, e := observe.Add(o, c.t)
		if e != c.want || len(x.Traces) != api.MaxTraces || e != api.OK && !equal(x, o) {
			t.Errorf("case %d: Add returns %d traces, %d", i, len(x.Traces), e)
		}
		if w, ok := observe.Answer(x, c.t.In); e == api.OK && (!ok || !slices.Equal(w, c.t.Out)) {
			t.Errorf("case %d: the answer is %v, %t", i, w, ok)
		}
	}
	o.Traces = o.Traces[:api.MaxTraces-1]
	if x, e := observe.Add(o, trace(list{63}, list{63})); e != api.OK || len(x.Traces) != api.MaxTraces {
		t.Errorf("the last trace is not added: %d", e)
	}
}

// check checks that o contains the traces of l and nothing else, for all words of at most most symbols.
func check(t *testing.T, o api.Obs, l []api.Trace, most int) {
	t.Helper()
	if !equal(o, maximal(o.Inputs, l)) || observe.Valid(o) != api.OK {
		t.Fatalf("the observations of %v are %v", l, o)
	}
	words(o.Inputs, most, func(w []int) {
		var best api.Trace
		for _, x := range l {
			if n := word.Common(x.In, w); n > len(best.In) {
				best = cut(x, n)
			}
		}
		got, ok := observe.Answer(o, w)
		if n := observe.Known(o, w); n != len(best.In) || ok != (n == len(w)) || ok && !slices.Equal(got, best.Out) || !ok && len(got) != 0 {
			t.Fatalf("the answer of %v for %v is %v, %t, %d", o, w, got, ok, n)
		}
	})
}

// P16.3 to P16.5, P16.9: random traces, some of which contradict others.
func TestAddMany(t *testing.T) {
	refused := 0
	for state := range uint64(300) {
		inputs := 1 + int(state%3)
		o := obs(inputs)
		var l []api.Trace
		for _, x := range noisy(state, inputs, 12, 5) {
			other := slices.IndexFunc(l, func(y api.Trace) bool { return contradict(x, y) })
			clash, ok := observe.Clash(o, x)
			next, e := observe.Add(o, x)
			if ok != (other >= 0) || ok != (e == api.ErrNondet) || !ok && e != api.OK {
				t.Fatalf("Add of %v to %v returns %d, and Clash %t", x, o, e, ok)
			}
			if ok {
				refused++
				checkClash(t, l, x, clash)
				if !equal(next, o) {
					t.Fatalf("an error changes %v", o)
				}
				continue
			}
			l, o = append(l, x), next
			check(t, o, l, 0)
		}
		check(t, o, l, 5)
	}
	if refused < 50 {
		t.Errorf("only %d traces are refused", refused)
	}
}

// checkClash checks that c is the first contradiction between t and the traces of l.
func checkClash(t *testing.T, l []api.Trace, x api.Trace, c api.Clash) {
	t.Helper()
	n := len(c.Word)
	if n == 0 || !word.HasPrefix(x.In, c.Word) || c.Second != x.Out[n-1] || c.First == c.Second {
		t.Fatalf("the clash of %v is %v", x, c)
	}
	known := trace(c.Word, append(slices.Clone(x.Out[:n-1]), c.First))
	if !contains(l, known) {
		t.Fatalf("the clash of %v is %v, but %v is not contained", x, c, known)
	}
}

// P16.6: the traces of both, and the errors.
func TestMerge(t *testing.T) {
	a := obs(2, trace(list{1}, list{0}), trace(list{0, 1}, list{1, 2}))
	b := obs(2, trace(list{0}, list{1}), trace(list{1, 0}, list{0, 7}))
	if x, e := observe.Merge(a, b); e != api.OK || !equal(x, obs(2, trace(list{0, 1}, list{1, 2}), trace(list{1, 0}, list{0, 7}))) {
		t.Errorf("Merge returns %v, %d", x, e)
	}
	for i, c := range []struct {
		a, b api.Obs
		want api.Errno
	}{
		{a, obs(2), api.OK},
		{obs(2), obs(2), api.OK},
		{a, a, api.OK},
		{a, obs(3), api.ErrConflict},
		{a, obs(1, trace(list{0}, list{3})), api.ErrConflict},
		{a, obs(2, trace(list{0, 0}, list{1, 1}), trace(list{1, 0}, list{1, 7})), api.ErrNondet},
		{a, obs(2, trace(list{0}, list{3})), api.ErrNondet},
	} {
		if x, e := observe.Merge(c.a, c.b); e != c.want || !equal(x, c.a) {
			t.Errorf("case %d: Merge returns %v, %d, not %d", i, x, e, c.want)
		}
	}
	if x, e := observe.Merge(obs(2), a); e != api.OK || !equal(x, a) {
		t.Errorf("Merge returns %v, %d", x, e)
	}
}

// P16.6: the first error counts, in the order of the traces of b.
func TestMergeLimit(t *testing.T) {
	a := full()
	more, nondet := trace(list{63}, list{0}), trace(list{0, 1, 1, 1}, list{9, 0, 0, 0})
	for i, c := range []struct {
		traces []api.Trace
		want   api.Errno
	}{
		{[]api.Trace{more}, api.ErrLimit},
		{[]api.Trace{more, nondet}, api.ErrLimit},
		{[]api.Trace{nondet, trace(list{63, 0, 0, 0}, list{0, 0, 0, 0})}, api.ErrNondet},
		{[]api.Trace{trace(list{0}, list{0}), trace(list{1}, list{1})}, api.OK},
	} {
		if x, e := observe.Merge(a, obs(a.Inputs, c.traces...)); e != c.want || !equal(x, a) {
			t.Errorf("case %d: Merge returns %d traces, %d, not %d", i, len(x.Traces), e, c.want)
		}
	}
	if x, e := observe.Merge(a, a); e != api.OK || !equal(x, a) {
		t.Errorf("Merge returns %d traces, %d", len(x.Traces), e)
	}
}

// P16.6, P16.9: random observations.
func TestMergeMany(t *testing.T) {
	for state := range uint64(200) {
		l := noisy(state, 2, 16, 5)
		var parts [2]api.Obs
		var kept [2][]api.Trace
		for i := range parts {
			parts[i] = obs(2)
			for _, x := range l[8*i : 8*i+8] {
				if _, ok := observe.Clash(parts[i], x); !ok {
					parts[i], kept[i] = added(t, parts[i], x), append(kept[i], x)
				}
			}
		}
		differ := slices.ContainsFunc(kept[0], func(x api.Trace) bool {
			return slices.ContainsFunc(kept[1], func(y api.Trace) bool { return contradict(x, y) })
		})
		a, e := observe.Merge(parts[0], parts[1])
		b, f := observe.Merge(parts[1], parts[0])
		if differ {
			if e != api.ErrNondet || f != e || !equal(a, parts[0]) || !equal(b, parts[1]) {
				t.Fatalf("Merge of %v returns %v, %d and %v, %d", parts, a, e, b, f)
			}
			continue
		}
		if e != api.OK || f != e || !equal(a, b) {
			t.Fatalf("Merge of %v returns %v, %d and %v, %d", parts, a, e, b, f)
		}
		check(t, a, slices.Concat(kept[0], kept[1]), 4)
	}
}

// P16.7: the observations of a machine, and the errors.
func TestOf(t *testing.T) {
	o, e := observe.Of(gate(), [][]int{{1, 1}, nil, {0, 1}, {0}, {0, 1}})
	if e != api.OK || !equal(o, obs(2, trace(list{0, 1}, list{1, 2}), trace(list{1, 1}, list{0, 0}))) {
		t.Errorf("Of returns %v, %d", o, e)
	}
	for _, l := range [][][]int{nil, {nil}, {nil, nil}} {
		if o, e := observe.Of(gate(), l); e != api.OK || !equal(o, obs(2)) {
			t.Errorf("Of returns %v, %d", o, e)
		}
	}
	bad := gate()
	bad.Out[1][1] = -1
	long := make(list, api.MaxWord+1)
	for i, c := range []struct {
		m    api.Mealy
		l    [][]int
		want api.Errno
	}{
		{api.Mealy{}, nil, api.ErrRange},
		{bad, [][]int{{2}}, api.ErrRange},
		{bad, make([][]int, api.MaxWords+1), api.ErrRange},
		{gate(), make([][]int, api.MaxWords+1), api.ErrLimit},
		{gate(), append([][]int{{2}}, make([][]int, api.MaxWords)...), api.ErrLimit},
		{gate(), make([][]int, api.MaxWords), api.OK},
		{gate(), [][]int{{0}, long, {2}}, api.ErrTooLong},
		{gate(), [][]int{{0}, {0, 2}, long}, api.ErrInvalid},
		{gate(), [][]int{{-1}}, api.ErrInvalid},
	} {
		if o, e := observe.Of(c.m, c.l); e != c.want || e != api.OK && !equal(o, api.Obs{}) {
			t.Errorf("case %d: Of returns %v, %d, not %d", i, o, e, c.want)
		}
	}
}

// P16.7, P16.10: the answers are the output words of the machine.
func TestOfMachines(t *testing.T) {
	for state := range uint64(100) {
		inputs := 1 + int(state%3)
		m := drawn(state, inputs, 1+int(state%5), 3)
		l := drawnWords(state, inputs, int(state%12), 6)
		o, e := observe.Of(m, l)
		traces, _ := mealy.Traces(m, l)
		if e != api.OK || o.Inputs != inputs {
			t.Fatalf("Of returns %v, %d", o, e)
		}
		check(t, o, traces, 5)
		for _, w := range l {
			want, _ := mealy.Run(m, w)
			if got, ok := observe.Answer(o, w); !ok || !slices.Equal(got, want) {
				t.Fatalf("the answer for %v is %v, %t", w, got, ok)
			}
		}
	}
}

// P16.7: as many words as possible, all of which remain.
func TestOfMost(t *testing.T) {
	m := drawn(1, api.MaxInputs, 20, 5)
	var l [][]int
	for _, x := range full().Traces {
		l = append(l, x.In)
	}
	slices.Reverse(l)
	o, e := observe.Of(m, l)
	if e != api.OK || len(o.Traces) != api.MaxWords || observe.Valid(o) != api.OK {
		t.Fatalf("Of returns %d traces, %d", len(o.Traces), e)
	}
	for _, w := range l {
		want, _ := mealy.Run(m, w)
		if got, ok := observe.Answer(o, w); !ok || !slices.Equal(got, want) {
			t.Fatalf("the answer for %v is %v, %t", w, got, ok)
		}
	}
}

// P16.8: equal and different fields, also of observations that are not valid.
func TestSame(t *testing.T) {
	different := []api.Obs{
		{},
		obs(2),
		obs(-2),
		obs(2, trace(list{0}, list{1})),
		obs(3, trace(list{0}, list{1})),
		obs(2, trace(list{1}, list{1})),
		obs(2, trace(list{0}, list{0})),
		obs(2, trace(list{0}, nil)),
		obs(2, trace(nil, list{1})),
		obs(2, trace(list{0, 1}, list{1})),
		obs(2, trace(list{0}, list{1}), trace(nil, nil)),
		obs(2, trace(list{0}, list{1}), trace(list{0}, list{1})),
		obs(2, trace(list{0}, list{1}), trace(list{-5}, list{math.MaxInt})),
		obs(2, trace(list{-5}, list{math.MaxInt}), trace(list{0}, list{1})),
	}
	for i, a := range different {
		for j, b := range different {
			if observe.Same(a, b) != (i == j) {
				t.Errorf("Same of %v and %v returns %t", a, b, i != j)
			}
		}
	}
	if !observe.Same(obs(1, trace(nil, list{})), obs(1, trace(list{}, nil))) || !observe.Same(obs(1), obs(1, []api.Trace{}...)) {
		t.Error("empty lists are different")
	}
}

// P16.9: the order of the traces does not matter, and those that were contained remain.
func TestOrder(t *testing.T) {
	for state := range uint64(100) {
		m := drawn(state, 2, 4, 3)
		l, _ := mealy.Traces(m, drawnWords(state, 2, 10, 6))
		o := added(t, obs(2), l...)
		for seed := range uint64(5) {
			order, _, _ := random.Shuffle(seed, len(l))
			x := obs(2)
			for k, i := range order {
				x = added(t, x, l[i])
				for _, j := range order[:k+1] {
					if got, ok := observe.Answer(x, l[j].In); !ok || !slices.Equal(got, l[j].Out) {
						t.Fatalf("%v does not contain %v", x, l[j])
					}
				}
			}
			if !equal(x, o) {
				t.Fatalf("in another order there are %v, and not %v", x, o)
			}
		}
		for _, x := range l {
			for n := range len(x.In) + 1 {
				if !equal(added(t, o, cut(x, n)), o) {
					t.Fatalf("adding a prefix of %v changes %v", x, o)
				}
			}
		}
	}
}

// The examples of the chapter.
func TestExamples(t *testing.T) {
	o, _ := observe.New(2)
	o = added(t, o, trace(list{0, 1}, list{1, 2}), trace(list{0}, list{1}))
	if len(o.Traces) != 1 || observe.Known(o, list{0, 0}) != 1 {
		t.Error("there are", o)
	}
	if _, e := observe.Add(o, trace(list{0, 1}, list{1, 0})); e != api.ErrNondet {
		t.Error("the error is", e)
	}
	if c, ok := observe.Clash(o, trace(list{0, 1}, list{1, 0})); !ok || !slices.Equal(c.Word, list{0, 1}) || c.First != 2 || c.Second != 0 {
		t.Error("the clash is", c, ok)
	}
	o = added(t, o, trace(list{1}, list{0}))
	if !equal(o, obs(2, trace(list{1}, list{0}), trace(list{0, 1}, list{1, 2}))) {
		t.Error("there are", o)
	}
}

// alike returns n traces of the greatest length with long common prefixes, at the end of which an output differs if nondet is true.
func alike(n int, nondet bool) api.Obs {
	o := obs(2)
	for i := range n {
		x := trace(make(list, api.MaxWord), make(list, api.MaxWord))
		for bit := range 12 {
			x.In[api.MaxWord-1-bit] = i >> bit & 1
		}
		if nondet && i >= n/2 {
			x.Out[api.MaxWord/2] = 1
		}
		o.Traces = append(o.Traces, x)
	}
	return o
}

// P16.2: long words are compared in a reasonable time.
func TestValidLong(t *testing.T) {
	for nondet, want := range map[bool]api.Errno{false: api.OK, true: api.ErrNondet} {
		if e := observe.Valid(alike(2500, nondet)); e != want {
			t.Errorf("Valid returns %d, not %d", e, want)
		}
	}
}

// R1: no observations make a function panic.
func TestNotValid(t *testing.T) {
	long := make(list, api.MaxWord+2)
	odd := []api.Trace{{}, trace(list{0, 1}, nil), trace(nil, list{1}), trace(list{-1, 5}, list{math.MinInt}), trace(list{0}, list{1, 2, 3}), trace(long, long[:3]), trace(list{1, 1, 1}, list{0, 0, 0}), trace(list{0}, list{2})}
	for state := range uint64(200) {
		order, _, _ := random.Shuffle(state, len(odd))
		o := obs(int(state%4) - 1)
		for _, i := range order[:1+state%8] {
			o.Traces = append(o.Traces, odd[i])
		}
		before := obs(o.Inputs, slices.Clone(o.Traces)...)
		for _, x := range odd {
			observe.Valid(o)
			observe.Answer(o, x.In)
			observe.Known(o, x.In)
			observe.Clash(o, x)
			if y, e := observe.Add(o, x); e != api.OK && !equal(y, o) {
				t.Errorf("Add changes %v together with the error %d", o, e)
			}
			observe.Merge(o, obs(o.Inputs, x))
			observe.Merge(obs(o.Inputs, x), o)
		}
		if !observe.Same(o, before) {
			t.Errorf("%v has become %v", before, o)
		}
	}
}

// overwrite changes all words of observations and the memory behind them.
func overwrite(o api.Obs) {
	for i := range o.Traces {
		x := &o.Traces[i]
		for j := range x.In {
			x.In[j] = 90
		}
		for j := range x.Out {
			x.Out[j] = 91
		}
		x.In, x.Out = append(x.In, 92), append(x.Out, 93)
	}
}

// overwritten reports whether the words of observations have the numbers that overwrite writes.
func overwritten(o api.Obs) bool {
	all := func(w []int, x, last int) bool {
		n := len(w) - 1
		return w[n] == last && !slices.ContainsFunc(w[:n], func(y int) bool { return y != x })
	}
	return !slices.ContainsFunc(o.Traces, func(x api.Trace) bool { return !all(x.In, 90, 92) || !all(x.Out, 91, 93) })
}

// R5: arguments do not change, and no two lists of a result share memory, nor does one with an argument.
func TestMemory(t *testing.T) {
	store := []api.Trace{trace(list{1}, list{0}), trace(list{0, 1, 9}[:2], list{1, 2, 9}[:2]), trace(list{8}, list{8})}
	o := api.Obs{Inputs: 2, Traces: store[:2]}
	x := trace(list{1, 1, 9}[:2], list{0, 0, 9}[:2])
	wordList := [][]int{{0, 1, 1}, {1, 1}}
	results := func() []api.Obs {
		sum, _ := observe.Add(o, x)
		contained, _ := observe.Add(o, trace(o.Traces[1].In, o.Traces[1].Out))
		merged, _ := observe.Merge(obs(2, x), o)
		of, _ := observe.Of(gate(), wordList)
		return []api.Obs{sum, contained, merged, of}
	}
	before := results()
	for i, r := range results() {
		overwrite(r)
		if !overwritten(r) {
			t.Errorf("the lists of the result %d share memory: %v", i, r)
		}
	}
	w, _ := observe.Answer(o, list{0, 1})
	w[0], w[1] = 7, 7
	c, _ := observe.Clash(o, trace(x.In, list{5, 5}))
	c.Word[0] = 7
	if !slices.EqualFunc(before, results(), equal) {
		t.Error("the results have changed")
	}
	if !equal(o, obs(2, trace(list{1}, list{0}), trace(list{0, 1}, list{1, 2}))) || store[2].In[0] != 8 {
		t.Error("the observations have become", o, store)
	}
	if !slices.Equal(o.Traces[1].In[:3], list{0, 1, 9}) || !slices.Equal(x.In[:3], list{1, 1, 9}) || !slices.Equal(x.Out[:3], list{0, 0, 9}) {
		t.Error("the memory behind the words has changed", o, x)
	}
	if !slices.Equal(wordList[0], list{0, 1, 1}) || !slices.Equal(wordList[1], list{1, 1}) {
		t.Error("the words have become", wordList)
	}
}
