package analyze_test

import (
	"slices"
	"testing"

	"learner/analyze"
	"learner/api"
	"learner/cover"
	"learner/hypothesis"
	"learner/mealy"
	"learner/observe"
	"learner/random"
	"learner/word"
)

// drawn returns a random machine whose states are reachable, and the state of the random numbers after it.
func drawn(state uint64, inputs, states int) (api.Mealy, uint64) {
	m := api.Mealy{Inputs: inputs}
	m.Start, state, _ = random.Below(state, states)
	for range states {
		var next, out []int
		next, state, _ = random.Word(state, states, inputs)
		out, state, _ = random.Word(state, 2, inputs)
		m.Next, m.Out = append(m.Next, next), append(m.Out, out)
	}
	m, _ = mealy.Trim(m)
	return m, state
}

// drawnWord returns a random word of at most most symbols, and the state of the random numbers after it.
func drawnWord(state uint64, inputs, most int) ([]int, uint64) {
	length, state, _ := random.Below(state, most+1)
	w, state, _ := random.Word(state, inputs, length)
	return w, state
}

// position is what the definitions say about a position of a word.
type position struct {
	access, rest []int
	known, bad   bool
	outputs      []int // what is observed for the rest, if it is known
}

// at returns what the definitions say about the position i of w.
func at(h api.Hyp, o api.Obs, w []int, i int) position {
	_, s, _ := mealy.From(h.M, h.M.Start, w[:i])
	p := position{access: h.Access[s], rest: w[i:]}
	answer, known := observe.Answer(o, slices.Concat(p.access, p.rest))
	if !known {
		return p
	}
	p.known, p.outputs = true, answer[len(answer)-len(p.rest):]
	right, _, _ := mealy.From(h.M, s, p.rest)
	p.bad = !slices.Equal(p.outputs, right)
	return p
}

// bisected is Find for a counterexample, as it is described.
func bisected(h api.Hyp, o api.Obs, w []int) (api.Split, []int, api.Errno) {
	lo, hi := 0, len(w)
	for hi-lo > 1 {
		i := (lo + hi) / 2
		p := at(h, o, w, i)
		if len(p.access)+len(p.rest) > api.MaxWord {
			return api.Split{}, nil, api.ErrTooLong
		}
		if !p.known {
			return api.Split{}, slices.Concat(p.access, p.rest), api.OK
		}
		if p.bad {
			lo = i
		} else {
			hi = i
		}
	}
	return broken(h, o, w, lo)
}

// inOrder is Linear for a counterexample, as it is described.
func inOrder(h api.Hyp, o api.Obs, w []int) (api.Split, []int, api.Errno) {
	for i := 1; i < len(w); i++ {
		p := at(h, o, w, i)
		if len(p.access)+len(p.rest) > api.MaxWord {
			return api.Split{}, nil, api.ErrTooLong
		}
		if !p.known {
			return api.Split{}, slices.Concat(p.access, p.rest), api.OK
		}
		if !p.bad {
			return broken(h, o, w, i-1)
		}
	}
	return broken(h, o, w, len(w)-1)
}

// broken returns the split of a break, or the error that the hypothesis contradicts an observed transition.
func broken(h api.Hyp, o api.Obs, w []int, i int) (api.Split, []int, api.Errno) {
	p := at(h, o, w, i)
	_, s, _ := mealy.From(h.M, h.M.Start, w[:i])
	if p.outputs[0] != h.M.Out[s][w[i]] {
		return api.Split{}, nil, api.ErrConflict
	}
	return split(p.access, w[i], w[i+1:]...), nil, api.OK
}

// counterexample returns a word for which two machines have different outputs, and the state of the random numbers after it; nil if none is found.
func counterexample(state uint64, a, b api.Mealy, most int) ([]int, uint64) {
	for range 20 {
		var w []int
		w, state = drawnWord(state, a.Inputs, most)
		first, _ := mealy.Run(a, w)
		if second, _ := mealy.Run(b, w); !slices.Equal(first, second) {
			return w, state
		}
	}
	return nil, state
}

// proposed returns a hypothesis about m with at most n states, in which all words of an access word and a symbol have the outputs of m. The access words are prefix-closed at first; then some become other words, if they are as good. Transitions that are left lead to random states.
func proposed(state uint64, m api.Mealy, n int) (api.Hyp, uint64) {
	h := hyp(api.Mealy{Inputs: m.Inputs}, nil)
	for i := 0; i < len(h.Access); i++ {
		_, s, _ := mealy.From(m, m.Start, h.Access[i])
		h.M.Out = append(h.M.Out, m.Out[s])
		h.M.Next = append(h.M.Next, nil)
		for a := range m.Inputs {
			var next int
			next, state, _ = random.Below(state, n)
			if next >= len(h.Access) {
				next = len(h.Access)
				h.Access = append(h.Access, slices.Concat(h.Access[i], []int{a}))
			}
			h.M.Next[i] = append(h.M.Next[i], next)
		}
	}
	for range 6 {
		var w []int
		w, state = drawnWord(state, m.Inputs, 7)
		if _, s, _ := mealy.From(h.M, 0, w); s != 0 && right(h.M, m, w) {
			h.Access[s] = w
		}
	}
	return h, state
}

// right reports whether two machines have the same outputs for a word followed by each input.
func right(a, b api.Mealy, w []int) bool {
	for input := range a.Inputs {
		long := slices.Concat(w, []int{input})
		first, _ := mealy.Run(a, long)
		if second, _ := mealy.Run(b, long); !slices.Equal(first, second) {
			return false
		}
	}
	return true
}

// halvings returns how often n must be halved, rounded up, to become 1.
func halvings(n int) int {
	count := 0
	for ; n > 1; n = (n + 1) / 2 {
		count++
	}
	return count
}

// P25.2, P25.3, P25.4, P25.5: random hypotheses, which can contradict transitions, compared with the descriptions after each query.
func TestRandom(t *testing.T) {
	queries, splits, conflicts, different := 0, 0, 0, 0
	literal := []finder{bisected, inOrder}
	for state := range uint64(1500) {
		inputs := 1 + int(state%3)
		m, next := drawn(state, inputs, 1+int(state%13))
		h, next := proposed(next, m, 1+int(state%5))
		if state%2 == 0 {
			var s, a int
			s, next, _ = random.Below(next, len(h.Access))
			a, next, _ = random.Below(next, inputs)
			h.M.Out = slices.Clone(h.M.Out)
			h.M.Out[s] = slices.Clone(h.M.Out[s])
			h.M.Out[s][a] = 1 - h.M.Out[s][a]
		}
		w, next := counterexample(next, h.M, m, 30)
		if w == nil {
			continue
		}
		var found [2]api.Split
		for k, find := range finders() {
			seen, _ := drawnWord(next, inputs, 9)
			o, _ := observe.Of(m, [][]int{w, seen, w[1:]})
			for asked := 0; ; asked++ {
				s, ask, e := find(h, o, w)
				split, query, want := literal[k](h, o, w)
				if !same(s, split) || !slices.Equal(ask, query) || e != want {
					t.Fatalf("function %d for %v, %v and %v returns %v, %v, %d, not %v, %v, %d", k, h, o, w, s, ask, e, split, query, want)
				}
				if e != api.OK {
					conflicts++
					break
				}
				if len(query) == 0 {
					splits++
					found[k] = s
					if ok, e := analyze.Check(h, o, s); !ok || e != api.OK || len(s.Suffix) == 0 {
						t.Fatalf("Check of %v for %v and %v returns %t, %d", s, h, o, ok, e)
					}
					break
				}
				queries++
				if _, known := observe.Answer(o, ask); known || asked > len(w) {
					t.Fatalf("the query %v is answered by %v", ask, o)
				}
				o, _ = observe.Add(o, answered(m, ask))
			}
		}
		if !same(found[0], found[1]) {
			different++
		}
	}
	if queries < 500 || splits < 500 || conflicts < 200 || different < 50 {
		t.Error(queries, "queries,", splits, "splits,", conflicts, "conflicts,", different, "counterexamples with different splits")
	}
}

// answered returns the trace of a machine for a word.
func answered(m api.Mealy, w []int) api.Trace {
	out, _ := mealy.Run(m, w)
	return trace(w, out)
}

// P25.6: the number of queries, and no contradictions if the outputs of all transitions are right.
func TestQueries(t *testing.T) {
	analysed, most := 0, 0
	for state := range uint64(1200) {
		inputs := 2 + int(state%2)
		m, next := drawn(state, inputs, 2+int(state%9))
		h, next := proposed(next, m, 1+int(state%4))
		length := 1 + int(state%40)
		if state%50 == 0 {
			length = 1000
		}
		w, _ := counterexample(next, h.M, m, length)
		if w == nil {
			continue
		}
		if e := hypothesis.Valid(h); e != api.OK {
			t.Fatal("the hypothesis is not valid:", h, e)
		}
		for _, access := range h.Access {
			if !right(h.M, m, access) {
				t.Fatal("an output is wrong:", h, m)
			}
		}
		analysed++
		o, _ := observe.Of(m, [][]int{w})
		asked := 0
		s, ask, e := analyze.Find(h, o, w)
		for ; len(ask) > 0; asked++ {
			o, _ = observe.Add(o, answered(m, ask))
			s, ask, e = analyze.Find(h, o, w)
		}
		if e != api.OK || len(s.Suffix) == 0 || asked > halvings(len(w)) {
			t.Fatalf("Find of %v and %v for %v returns %v, %d after %d queries", h, m, w, s, e, asked)
		}
		if asked == halvings(len(w)) && asked > 2 {
			most++
		}
		checkSplit(t, h, m, s)
	}
	if analysed < 600 || most < 100 {
		t.Error(analysed, "counterexamples,", most, "with as many queries as possible")
	}
}

// checkSplit checks that the suffix of a split separates the states of m that the two words reach.
func checkSplit(t *testing.T, h api.Hyp, m api.Mealy, s api.Split) {
	u := word.Join(s.Prefix, []int{s.Symbol})
	v, e := hypothesis.State(h, u)
	if e != api.OK {
		t.Fatal("the split has no words of the hypothesis:", s, e)
	}
	_, p, _ := mealy.From(m, m.Start, u)
	_, q, _ := mealy.From(m, m.Start, v)
	first, _, _ := mealy.From(m, p, s.Suffix)
	second, _, _ := mealy.From(m, q, s.Suffix)
	if slices.Equal(first, second) {
		t.Fatalf("%v has the outputs %v after %v and after %v in %v", s.Suffix, first, u, v, m)
	}
}

// P25.4: random splits, compared with the definition.
func TestChecks(t *testing.T) {
	yes, no, open := 0, 0, 0
	for state := range uint64(3000) {
		inputs := 1 + int(state%3)
		m, next := drawn(state, inputs, 1+int(state%6))
		h, next := proposed(next, m, 1+int(state%5))
		var s api.Split
		s.Prefix, next = drawnWord(next, inputs, 3)
		s.Symbol, next, _ = random.Below(next, inputs)
		s.Suffix, next = drawnWord(next, inputs, 3)
		_, reached, _ := mealy.From(h.M, 0, word.Join(s.Prefix, []int{s.Symbol}))
		first, second := word.Join(s.Prefix, []int{s.Symbol}, s.Suffix), word.Join(h.Access[reached], s.Suffix)
		var words [][]int
		if state%4 > 0 {
			words = append(words, first)
		}
		if state%5 > 0 {
			words = append(words, second)
		}
		seen, _ := drawnWord(next, inputs, 8)
		o, _ := observe.Of(m, append(words, seen))
		a, known := observe.Answer(o, first)
		b, answered := observe.Answer(o, second)
		want := known && answered && !slices.Equal(a[len(a)-len(s.Suffix):], b[len(b)-len(s.Suffix):])
		if ok, e := analyze.Check(h, o, s); ok != want || e != api.OK {
			t.Fatalf("Check of %v for %v and %v returns %t, %d", s, h, o, ok, e)
		}
		switch {
		case want:
			yes++
		case known && answered:
			no++
		default:
			open++
		}
	}
	if yes < 200 || no < 200 || open < 200 {
		t.Error(yes, no, open)
	}
}

// P25.2, P25.3: the greatest hypothesis, many observations and a long word in a reasonable time.
func TestMost(t *testing.T) {
	m := api.Mealy{Inputs: api.MaxInputs}
	for s := range api.MaxStates {
		next, _, _ := random.Word(uint64(s), api.MaxStates, api.MaxInputs)
		out, _, _ := random.Word(uint64(1000+s), 3, api.MaxInputs)
		m.Next, m.Out = append(m.Next, next), append(m.Out, out)
	}
	h := hyp(m, make([][]int, api.MaxStates)...)
	states, words, _ := cover.Access(m)
	for i, s := range states {
		h.Access[s] = words[i]
	}
	w, _, _ := random.Word(7, api.MaxInputs, api.MaxWord-10)
	out, _ := mealy.Run(m, w)
	out[len(out)-1]++
	// All positions are known and bad.
	o := obs(api.MaxInputs)
	for i := range w {
		access, _ := hypothesis.State(h, w[:i])
		before, _ := mealy.Run(m, access)
		o.Traces = append(o.Traces, trace(word.Join(access, w[i:]), word.Join(before, out[i:])))
	}
	slices.SortFunc(o.Traces, func(t, u api.Trace) int { return word.Compare(t.In, u.In) })
	o.Traces = slices.CompactFunc(o.Traces, func(t, u api.Trace) bool { return slices.Equal(t.In, u.In) })
	if e := observe.Valid(o); e != api.OK || len(states) != api.MaxStates {
		t.Fatal(e, len(states))
	}
	for k, find := range finders() {
		if s, ask, e := find(h, o, w); !same(s, api.Split{}) || len(ask) != 0 || e != api.ErrConflict {
			t.Errorf("function %d returns %v, %v, %d", k, s, ask, e)
		}
	}
}
