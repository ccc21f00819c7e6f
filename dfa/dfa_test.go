package dfa_test

import (
	"math"
	"slices"
	"testing"

	"learner/api"
	"learner/dfa"
	"learner/mealy"
	"learner/random"
	"learner/word"
)

// operations are the Boolean operations of Combine.
var operations = []int{api.And, api.Or, api.Diff, api.Xor}

// even returns the automaton E of the chapter's examples: the words with an even number of symbols 1.
func even() api.DFA {
	return api.DFA{Inputs: 2, Next: [][]int{{0, 1}, {1, 0}}, Accept: []bool{true, false}}
}

// odd returns the automaton O of the chapter's examples.
func odd() api.DFA {
	return api.DFA{Inputs: 2, Next: [][]int{{0, 1}, {1, 0}}, Accept: []bool{false, true}}
}

// changed returns E after a change.
func changed(change func(d *api.DFA)) api.DFA {
	d := even()
	change(&d)
	return d
}

// ring returns an automaton whose only symbol leads through all states, and which accepts in some of them.
func ring(states int, accepting ...int) api.DFA {
	d := api.DFA{Inputs: 1, Accept: make([]bool, states)}
	for s := range states {
		d.Next = append(d.Next, []int{(s + 1) % states})
	}
	for _, s := range accepting {
		d.Accept[s] = true
	}
	return d
}

// constant returns an automaton with one state, which accepts all words or none.
func constant(inputs int, accept bool) api.DFA {
	return api.DFA{Inputs: inputs, Next: rows(1, inputs, 0), Accept: []bool{accept}}
}

// drawn returns a random automaton; one of rare states accepts.
func drawn(state uint64, inputs, states, rare int) api.DFA {
	d := api.DFA{Inputs: inputs}
	d.Start, state, _ = random.Below(state, states)
	for range states {
		var next []int
		next, state, _ = random.Word(state, states, inputs)
		var x int
		x, state, _ = random.Below(state, rare)
		d.Next = append(d.Next, next)
		d.Accept = append(d.Accept, x == 0)
	}
	return d
}

// samples returns automata with two symbols.
func samples() []api.DFA {
	all := []api.DFA{even(), odd(), constant(2, true), constant(2, false)}
	for state := range uint64(60) {
		all = append(all, drawn(state, 2, 1+int(state%7), 1+int(state%4)))
	}
	return all
}

// rows returns n lists of equal numbers.
func rows(n, inputs, x int) [][]int {
	var l [][]int
	for range n {
		l = append(l, slices.Repeat([]int{x}, inputs))
	}
	return l
}

// same reports whether two automata have equal fields.
func same(a, b api.DFA) bool {
	return a.Inputs == b.Inputs && a.Start == b.Start && slices.EqualFunc(a.Next, b.Next, slices.Equal[[]int]) && slices.Equal(a.Accept, b.Accept)
}

// words returns the words over the symbols of a size with at most n symbols, in shortlex order.
func words(inputs, n int) [][]int {
	var l [][]int
	for w, ok := []int(nil), true; ok && len(w) <= n; w, ok = word.Next(w, inputs) {
		l = append(l, w)
	}
	return l
}

// accepts reports whether d accepts a word from the state s.
func accepts(d api.DFA, s int, w []int) bool {
	for _, symbol := range w {
		s = d.Next[s][symbol]
	}
	return d.Accept[s]
}

// trimmed reports whether the words of at most n symbols find the states of d in the order of their numbers.
func trimmed(d api.DFA, n int) bool {
	var found []int
	for _, w := range words(d.Inputs, n) {
		s := d.Start
		for _, symbol := range w {
			s = d.Next[s][symbol]
		}
		if s > len(found) {
			return false
		}
		if s == len(found) {
			found = append(found, s)
		}
	}
	return d.Start == 0 && len(found) == len(d.Next)
}

// invalid are automata with the errors that Valid returns for them.
func invalid() map[string]struct {
	d    api.DFA
	want api.Errno
} {
	return map[string]struct {
		d    api.DFA
		want api.Errno
	}{
		"nothing":             {api.DFA{}, api.ErrRange},
		"no input":            {changed(func(d *api.DFA) { d.Inputs = 0 }), api.ErrRange},
		"negative inputs":     {changed(func(d *api.DFA) { d.Inputs = math.MinInt }), api.ErrRange},
		"too many inputs":     {constant(api.MaxLetters+1, true), api.ErrRange},
		"inputs and states":   {api.DFA{Inputs: -1, Start: 3}, api.ErrRange},
		"no state":            {api.DFA{Inputs: 1}, api.ErrEmpty},
		"no state but Accept": {api.DFA{Inputs: 1, Start: -1, Accept: []bool{true}}, api.ErrEmpty},
		"too many states":     {ring(api.MaxStates + 1), api.ErrLimit},
		"states and Start":    {api.DFA{Inputs: 1, Start: -1, Next: rows(api.MaxStates+1, 2, 0)}, api.ErrLimit},
		"Start too great":     {changed(func(d *api.DFA) { d.Start = 2 }), api.ErrRange},
		"Start negative":      {changed(func(d *api.DFA) { d.Start = -1 }), api.ErrRange},
		"Start and Accept":    {changed(func(d *api.DFA) { d.Start, d.Accept = math.MaxInt, nil }), api.ErrRange},
		"no Accept":           {changed(func(d *api.DFA) { d.Accept = nil }), api.ErrInvalid},
		"Accept too short":    {changed(func(d *api.DFA) { d.Accept = d.Accept[:1] }), api.ErrInvalid},
		"Accept too long":     {changed(func(d *api.DFA) { d.Accept = append(d.Accept, true) }), api.ErrInvalid},
		"Accept and Next":     {changed(func(d *api.DFA) { d.Accept, d.Next[0] = d.Accept[:1], []int{2, 2} }), api.ErrInvalid},
		"short Next":          {changed(func(d *api.DFA) { d.Next[1] = d.Next[1][:1] }), api.ErrInvalid},
		"long Next":           {changed(func(d *api.DFA) { d.Next[0] = []int{0, 0, 0} }), api.ErrInvalid},
		"no Next":             {changed(func(d *api.DFA) { d.Next[0] = nil }), api.ErrInvalid},
		"lists before steps":  {changed(func(d *api.DFA) { d.Next[0] = []int{2} }), api.ErrInvalid},
		"states in order":     {changed(func(d *api.DFA) { d.Next[0][1], d.Next[1] = 2, nil }), api.ErrRange},
		"later state":         {changed(func(d *api.DFA) { d.Next[0], d.Next[1][0] = nil, 2 }), api.ErrInvalid},
		"Next too great":      {changed(func(d *api.DFA) { d.Next[1][1] = 2 }), api.ErrRange},
		"Next negative":       {changed(func(d *api.DFA) { d.Next[0][0] = -1 }), api.ErrRange},
		"Next far away":       {changed(func(d *api.DFA) { d.Next[0][1] = math.MaxInt }), api.ErrRange},
	}
}

// P7.1: automata that are valid, up to the limits.
func TestValid(t *testing.T) {
	for i, d := range []api.DFA{
		even(),
		changed(func(d *api.DFA) { d.Start = 1 }),
		ring(1),
		ring(api.MaxStates, 5),
		constant(api.MaxLetters, true),
		drawn(1, api.MaxLetters, api.MaxStates, 2),
	} {
		if e := dfa.Valid(d); e != api.OK {
			t.Errorf("case %d: Valid returns %d", i, e)
		}
	}
}

// P7.1: the errors and their order.
func TestValidErrors(t *testing.T) {
	for name, c := range invalid() {
		if e := dfa.Valid(c.d); e != c.want {
			t.Errorf("%s: Valid returns %d, not %d", name, e, c.want)
		}
	}
}

// P7.2, P7.4, P7.5, P7.7, P7.8: the error of Valid comes first.
func TestInvalidAutomata(t *testing.T) {
	for name, c := range invalid() {
		if accepted, e := dfa.Accepts(c.d, []int{-1}); accepted || e != c.want {
			t.Errorf("%s: Accepts returns %t, %d", name, accepted, e)
		}
		if d, e := dfa.Complement(c.d); !same(d, api.DFA{}) || e != c.want {
			t.Errorf("%s: Complement returns %v, %d", name, d, e)
		}
		if w, found, e := dfa.Shortest(c.d); len(w) != 0 || found || e != c.want {
			t.Errorf("%s: Shortest returns %v, %t, %d", name, w, found, e)
		}
		if d, e := dfa.Min(c.d); !same(d, api.DFA{}) || e != c.want {
			t.Errorf("%s: Min returns %v, %d", name, d, e)
		}
		if n, e := dfa.Count(c.d, -1); n != 0 || e != c.want {
			t.Errorf("%s: Count returns %d, %d", name, n, e)
		}
		if m, e := dfa.ToMealy(c.d); !mealy.Same(m, api.Mealy{}) || e != c.want {
			t.Errorf("%s: ToMealy returns %v, %d", name, m, e)
		}
	}
}

// P7.3, P7.6: the errors of Valid for both automata, the first one first, and before other errors.
func TestInvalidPairs(t *testing.T) {
	for name, c := range invalid() {
		for i, p := range []struct {
			a, b api.DFA
			want api.Errno
		}{
			{c.d, ring(1), c.want},
			{ring(1), c.d, c.want},
			{c.d, api.DFA{}, c.want},
			{c.d, api.DFA{Inputs: 1}, c.want},
			{api.DFA{}, c.d, api.ErrRange},
			{api.DFA{Inputs: 1}, c.d, api.ErrEmpty},
		} {
			for _, op := range operations {
				if d, e := dfa.Combine(op, p.a, p.b); !same(d, api.DFA{}) || e != p.want {
					t.Errorf("%s, case %d: Combine returns %v, %d", name, i, d, e)
				}
			}
			if w, found, e := dfa.Differ(p.a, p.b); len(w) != 0 || found || e != p.want {
				t.Errorf("%s, case %d: Differ returns %v, %t, %d", name, i, w, found, e)
			}
		}
	}
}

// P7.2: words that are accepted and that are not, also the longest ones.
func TestAccepts(t *testing.T) {
	for i, c := range []struct {
		d    api.DFA
		w    []int
		want bool
	}{
		{even(), nil, true},
		{even(), []int{1, 0, 1}, true},
		{even(), []int{0, 0}, true},
		{even(), []int{0, 1}, false},
		{odd(), nil, false},
		{odd(), []int{0, 1}, true},
		{changed(func(d *api.DFA) { d.Start = 1 }), nil, false},
		{changed(func(d *api.DFA) { d.Start = 1 }), []int{1}, true},
		{even(), slices.Repeat([]int{1}, api.MaxWord), true},
		{even(), slices.Repeat([]int{1}, api.MaxWord-1), false},
		{constant(api.MaxLetters, true), []int{api.MaxLetters - 1}, true},
	} {
		if accepted, e := dfa.Accepts(c.d, c.w); accepted != c.want || e != api.OK {
			t.Errorf("case %d: Accepts returns %t, %d", i, accepted, e)
		}
	}
}

// P7.2: the errors for words.
func TestAcceptsErrors(t *testing.T) {
	long := make([]int, api.MaxWord+1)
	for i, c := range []struct {
		w    []int
		want api.Errno
	}{
		{long, api.ErrTooLong},
		{append(slices.Clone(long), 2), api.ErrTooLong},
		{[]int{2}, api.ErrInvalid},
		{[]int{0, -1}, api.ErrInvalid},
		{[]int{0, math.MaxInt, 0}, api.ErrInvalid},
	} {
		if accepted, e := dfa.Accepts(even(), c.w); accepted || e != c.want {
			t.Errorf("case %d: Accepts returns %t, %d", i, accepted, e)
		}
	}
}

// P7.2: the complement has the same states and transitions, also those that are not reachable.
func TestComplement(t *testing.T) {
	for i, c := range []struct{ d, want api.DFA }{
		{even(), odd()},
		{odd(), even()},
		{constant(3, true), constant(3, false)},
		{
			api.DFA{Inputs: 1, Start: 2, Next: [][]int{{1}, {0}, {1}}, Accept: []bool{true, false, true}},
			api.DFA{Inputs: 1, Start: 2, Next: [][]int{{1}, {0}, {1}}, Accept: []bool{false, true, false}},
		},
		{api.DFA{Inputs: 1, Start: 1, Next: [][]int{{0}, {1}}, Accept: []bool{true, true}}, api.DFA{Inputs: 1, Start: 1, Next: [][]int{{0}, {1}}, Accept: []bool{false, false}}},
	} {
		if d, e := dfa.Complement(c.d); !same(d, c.want) || e != api.OK {
			t.Errorf("case %d: Complement returns %v, %d", i, d, e)
		}
	}
}

// P7.3: the combinations of E and O have two states, which may be equivalent; other states are numbered as they are reached.
func TestCombine(t *testing.T) {
	// With E, the words reach the pairs 0 and 1, 1 and 0, 0 and 0 in this order.
	stay := api.DFA{Inputs: 2, Start: 1, Next: [][]int{{0, 0}, {1, 0}}, Accept: []bool{false, true}}
	three := [][]int{{0, 1}, {1, 2}, {2, 1}}
	for i, c := range []struct {
		op         int
		a, b, want api.DFA
	}{
		{api.And, even(), odd(), api.DFA{Inputs: 2, Next: even().Next, Accept: []bool{false, false}}},
		{api.Or, even(), odd(), api.DFA{Inputs: 2, Next: even().Next, Accept: []bool{true, true}}},
		{api.Diff, even(), odd(), even()},
		{api.Diff, odd(), even(), odd()},
		{api.Xor, even(), odd(), api.DFA{Inputs: 2, Next: even().Next, Accept: []bool{true, true}}},
		{api.Xor, even(), even(), api.DFA{Inputs: 2, Next: even().Next, Accept: []bool{false, false}}},
		{api.And, even(), stay, api.DFA{Inputs: 2, Next: three, Accept: []bool{true, false, false}}},
		{api.Or, even(), stay, api.DFA{Inputs: 2, Next: three, Accept: []bool{true, false, true}}},
		{api.Diff, even(), stay, api.DFA{Inputs: 2, Next: three, Accept: []bool{false, false, true}}},
		{api.Diff, stay, even(), api.DFA{Inputs: 2, Next: three, Accept: []bool{false, false, false}}},
		{api.Xor, even(), stay, api.DFA{Inputs: 2, Next: three, Accept: []bool{false, false, true}}},
	} {
		if d, e := dfa.Combine(c.op, c.a, c.b); !same(d, c.want) || e != api.OK {
			t.Errorf("case %d: Combine returns %v, %d", i, d, e)
		}
	}
}

// P7.3, P7.10: combinations are trimmed and accept what the operations say.
func TestCombineTriesWords(t *testing.T) {
	all := samples()
	for i, a := range all {
		b := all[(3*i+1)%len(all)]
		for _, op := range operations {
			d, e := dfa.Combine(op, a, b)
			if e != api.OK || dfa.Valid(d) != api.OK || !trimmed(d, 10) {
				t.Fatalf("Combine of %v and %v for %d returns %v, %d", a, b, op, d, e)
			}
			for _, w := range words(2, 7) {
				x, y := accepts(a, a.Start, w), accepts(b, b.Start, w)
				want := []bool{x && y, x || y, x && !y, x != y}[op]
				if accepts(d, d.Start, w) != want {
					t.Errorf("Combine of %v and %v for %d returns %v: %v should be %t", a, b, op, d, w, want)
				}
			}
		}
	}
}

// P7.3: the pairs that words reach are counted, and no others.
func TestCombineStates(t *testing.T) {
	many := ring(api.MaxStates, 3)
	many.Start = 77
	for i, c := range []struct {
		a, b   api.DFA
		states int
		want   api.Errno
	}{
		{ring(8), ring(9), 72, api.OK},
		{ring(8), ring(12), 24, api.OK},
		{ring(1), ring(api.MaxStates), api.MaxStates, api.OK},
		{many, many, api.MaxStates, api.OK},
		{ring(api.MaxStates), many, api.MaxStates, api.OK},
		{ring(3), ring(43), 0, api.ErrLimit},
		{ring(127), ring(api.MaxStates), 0, api.ErrLimit},
	} {
		for _, op := range operations {
			d, e := dfa.Combine(op, c.a, c.b)
			if len(d.Next) != c.states || len(d.Accept) != c.states || e != c.want || e != api.OK && !same(d, api.DFA{}) {
				t.Errorf("case %d: Combine for %d returns %d states, %d", i, op, len(d.Next), e)
			}
		}
	}
}

// P7.3: the errors and their order.
func TestCombineErrors(t *testing.T) {
	for i, c := range []struct {
		op   int
		a, b api.DFA
		want api.Errno
	}{
		{-1, even(), odd(), api.ErrRange},
		{4, even(), odd(), api.ErrRange},
		{math.MaxInt, even(), odd(), api.ErrRange},
		{math.MinInt, api.DFA{Inputs: 1}, odd(), api.ErrRange},
		{4, even(), ring(api.MaxStates + 1), api.ErrRange},
		{4, even(), ring(1), api.ErrRange},
		{api.Or, even(), ring(1), api.ErrConflict},
		{api.Or, ring(1), even(), api.ErrConflict},
		{api.Or, ring(11), drawn(1, 2, 128, 2), api.ErrConflict},
	} {
		if d, e := dfa.Combine(c.op, c.a, c.b); !same(d, api.DFA{}) || e != c.want {
			t.Errorf("case %d: Combine returns %v, %d", i, d, e)
		}
	}
}

// P7.4: the first accepted word.
func TestShortest(t *testing.T) {
	far := ring(api.MaxStates, 0)
	far.Start = 1
	for i, c := range []struct {
		d    api.DFA
		want []int
		ok   bool
	}{
		{odd(), []int{1}, true},
		{even(), nil, true},
		{changed(func(d *api.DFA) { d.Start = 1 }), []int{1}, true},
		{ring(api.MaxStates, api.MaxStates-1), slices.Repeat([]int{0}, api.MaxStates-1), true},
		{far, slices.Repeat([]int{0}, api.MaxStates-1), true},
		{ring(9, 7, 4, 8), []int{0, 0, 0, 0}, true},
		{constant(5, true), nil, true},
		{constant(5, false), nil, false},
		{ring(api.MaxStates), nil, false},
		// The accepting state is not reachable.
		{api.DFA{Inputs: 2, Next: [][]int{{0, 1}, {1, 0}, {2, 2}}, Accept: []bool{false, false, true}}, nil, false},
		// 1 1 is before the longer 0 0 0, and 0 1 before 1 0.
		{api.DFA{Inputs: 2, Next: [][]int{{1, 2}, {3, 1}, {2, 4}, {4, 3}, {4, 4}}, Accept: []bool{false, false, false, false, true}}, []int{1, 1}, true},
		{api.DFA{Inputs: 2, Next: [][]int{{1, 2}, {0, 3}, {3, 2}, {3, 3}}, Accept: []bool{false, false, false, true}}, []int{0, 1}, true},
		{changed(func(d *api.DFA) {
			d.Inputs, d.Next = api.MaxLetters, rows(2, api.MaxLetters, 0)
			d.Next[0][900], d.Accept = 1, []bool{false, true}
		}), []int{900}, true},
	} {
		if w, ok, e := dfa.Shortest(c.d); !slices.Equal(w, c.want) || ok != c.ok || e != api.OK {
			t.Errorf("case %d: Shortest returns %v, %t, %d", i, w, ok, e)
		}
	}
}

// P7.4: the same word as by trying all words. No shortest word has as many symbols as there are states.
func TestShortestTriesWords(t *testing.T) {
	for _, d := range samples() {
		all := words(2, len(d.Next))
		i := slices.IndexFunc(all, func(w []int) bool { return accepts(d, d.Start, w) })
		w, ok, e := dfa.Shortest(d)
		if ok != (i >= 0) || e != api.OK || ok && !slices.Equal(w, all[i]) || !ok && len(w) != 0 {
			t.Errorf("Shortest of %v returns %v, %t, %d", d, w, ok, e)
		}
	}
}

// P7.5: minimal automata.
func TestMin(t *testing.T) {
	all, e := dfa.Combine(api.Xor, even(), odd())
	if e != api.OK {
		t.Fatal("Combine returns", e)
	}
	wide := api.DFA{Inputs: api.MaxLetters, Next: rows(2, api.MaxLetters, 0), Accept: []bool{false, true}}
	wide.Next[0][api.MaxLetters-1] = 1
	for i, c := range []struct{ d, want api.DFA }{
		{even(), even()},
		{all, constant(2, true)},
		{ring(api.MaxStates), ring(1)},
		{ring(api.MaxStates, 127), ring(api.MaxStates, 127)},
		{ring(12, 0, 3, 6, 9), ring(3, 0)},
		{ring(12, 1, 7), ring(6, 1)},
		{changed(func(d *api.DFA) { d.Start = 1 }), odd()},
		{wide, wide},
		// The state 2 is not reachable, and not equivalent to the others.
		{api.DFA{Inputs: 1, Next: [][]int{{1}, {0}, {0}}, Accept: []bool{true, true, false}}, ring(1, 0)},
		// The state 0 is not reachable, and equivalent to the start.
		{api.DFA{Inputs: 1, Start: 2, Next: [][]int{{1}, {2}, {1}}, Accept: []bool{true, false, true}}, ring(2, 0)},
		{api.DFA{Inputs: 2, Start: 3, Next: [][]int{{1, 1}, {3, 3}, {0, 1}, {0, 0}}, Accept: []bool{false, false, true, true}}, api.DFA{Inputs: 2, Next: [][]int{{1, 1}, {2, 2}, {0, 0}}, Accept: []bool{true, false, false}}},
	} {
		if d, e := dfa.Min(c.d); !same(d, c.want) || e != api.OK {
			t.Errorf("case %d: Min returns %v, %d", i, d, e)
		}
	}
}

// fewest returns how many reachable states have different sets of accepted words, by trying all words that can be needed.
func fewest(d api.DFA) int {
	all := words(d.Inputs, len(d.Next))
	var sets [][]bool
	for _, w := range all {
		s := d.Start
		for _, symbol := range w {
			s = d.Next[s][symbol]
		}
		var set []bool
		for _, v := range all {
			set = append(set, accepts(d, s, v))
		}
		if !slices.ContainsFunc(sets, func(known []bool) bool { return slices.Equal(known, set) }) {
			sets = append(sets, set)
		}
	}
	return len(sets)
}

// P7.5: Min is trimmed, has the fewest states, and is equivalent.
func TestMinTriesWords(t *testing.T) {
	for i, d := range samples() {
		m, e := dfa.Min(d)
		if e != api.OK || dfa.Valid(m) != api.OK || !trimmed(m, len(m.Next)) || len(m.Next) != fewest(d) {
			t.Errorf("Min of %v returns %v, %d", d, m, e)
		}
		for _, w := range words(2, 8) {
			if accepts(d, d.Start, w) != accepts(m, m.Start, w) {
				t.Errorf("automaton %d: Min of %v returns %v, which differs for %v", i, d, m, w)
			}
		}
	}
}

// exchanged returns d with other numbers of its states, and with a copy of each state, to which some of the transitions lead.
func exchanged(d api.DFA, state uint64) api.DFA {
	n := len(d.Next)
	number, _, _ := random.Shuffle(state, 2*n)
	x := api.DFA{Inputs: d.Inputs, Start: number[d.Start], Next: rows(2*n, d.Inputs, 0), Accept: make([]bool, 2*n)}
	for i, s := range number {
		x.Accept[s] = d.Accept[i%n]
		for a := range d.Inputs {
			x.Next[s][a] = number[d.Next[i%n][a]+(i+a)%2*n]
		}
	}
	return x
}

// P7.10: Differ finds a word exactly if the automata are not equivalent, and equivalent automata have the same Min.
func TestEquivalent(t *testing.T) {
	all := samples()
	for i, d := range all {
		x := exchanged(d, uint64(i))
		if w, found, e := dfa.Differ(d, x); len(w) != 0 || found || e != api.OK {
			t.Errorf("Differ of %v and %v returns %v, %t, %d", d, x, w, found, e)
		}
		least, e := dfa.Min(d)
		if m, e2 := dfa.Min(x); !same(m, least) || e != api.OK || e2 != api.OK {
			t.Errorf("Min of %v returns %v, and not %v", x, m, least)
		}
		other := all[(5*i+2)%len(all)]
		m, e := dfa.Min(other)
		if _, found, e2 := dfa.Differ(d, other); found == same(m, least) || e != api.OK || e2 != api.OK {
			t.Errorf("Differ of %v and %v returns %t, %d", d, other, found, e2)
		}
	}
}

// P7.6: the first word that only one automaton accepts.
func TestDiffer(t *testing.T) {
	ones := api.DFA{Inputs: 2, Next: [][]int{{0, 1}, {1, 2}, {2, 3}, {3, 0}}, Accept: []bool{true, false, true, false}}
	for i, c := range []struct {
		a, b api.DFA
		want []int
		ok   bool
	}{
		{even(), odd(), nil, true},
		{odd(), even(), nil, true},
		{even(), even(), nil, false},
		{even(), ones, nil, false},
		{even(), constant(2, true), []int{1}, true},
		{constant(2, true), even(), []int{1}, true},
		{odd(), constant(2, true), nil, true},
		{odd(), constant(2, false), []int{1}, true},
		{ring(2, 0), ring(3, 0), []int{0, 0}, true},
		{ring(127), ring(128), nil, false},
		{ring(127, 126), ring(128, 127), slices.Repeat([]int{0}, 126), true},
		{ring(127, 126), ring(128, 126), slices.Repeat([]int{0}, 253), true},
		{even(), changed(func(d *api.DFA) { d.Next[1][0] = 0 }), []int{1, 0}, true},
	} {
		if w, ok, e := dfa.Differ(c.a, c.b); !slices.Equal(w, c.want) || ok != c.ok || e != api.OK {
			t.Errorf("case %d: Differ returns %v, %t, %d", i, w, ok, e)
		}
	}
	for i, c := range [][2]api.DFA{{even(), ring(1)}, {ring(1), even()}} {
		if w, ok, e := dfa.Differ(c[0], c[1]); len(w) != 0 || ok || e != api.ErrConflict {
			t.Errorf("case %d: Differ returns %v, %t, %d", i, w, ok, e)
		}
	}
}

// P7.6: the same word as by trying all words. No such word has as many symbols as both automata have states.
func TestDifferTriesWords(t *testing.T) {
	all := samples()
	for i, a := range all {
		b := all[(7*i+3)%len(all)]
		tried := words(2, min(len(a.Next)+len(b.Next), 11))
		k := slices.IndexFunc(tried, func(w []int) bool { return accepts(a, a.Start, w) != accepts(b, b.Start, w) })
		w, ok, e := dfa.Differ(a, b)
		if ok != (k >= 0) || e != api.OK || ok && !slices.Equal(w, tried[k]) || !ok && len(w) != 0 {
			t.Errorf("Differ of %v and %v returns %v, %t, %d", a, b, w, ok, e)
		}
	}
}

// P7.7: numbers of words up to the greatest ones, and the errors.
func TestCount(t *testing.T) {
	// Few words are accepted, but very many lead to the state 1, and very many are accepted from the state 2.
	few := api.DFA{Inputs: 3, Next: [][]int{{0, 1, 1}, {1, 1, 1}, {2, 2, 2}}, Accept: []bool{true, false, true}}
	for i, c := range []struct {
		d       api.DFA
		n, want int
		e       api.Errno
	}{
		{even(), 0, 1, api.OK},
		{even(), 1, 1, api.OK},
		{even(), 3, 4, api.OK},
		{odd(), 0, 0, api.OK},
		{odd(), 63, 1 << 62, api.OK},
		{even(), 63, 1 << 62, api.OK},
		{even(), 64, 0, api.ErrOverflow},
		{even(), api.MaxWord, 0, api.ErrOverflow},
		{constant(2, true), 62, 1 << 62, api.OK},
		{constant(2, true), 63, 0, api.ErrOverflow},
		{constant(2, true), 64, 0, api.ErrOverflow},
		{constant(3, true), 39, 4052555153018976267, api.OK},
		{constant(3, true), 40, 0, api.ErrOverflow},
		{constant(api.MaxLetters, true), 6, 1 << 60, api.OK},
		{constant(api.MaxLetters, true), 7, 0, api.ErrOverflow},
		{constant(api.MaxLetters, true), api.MaxWord, 0, api.ErrOverflow},
		{constant(api.MaxLetters, false), api.MaxWord, 0, api.OK},
		{ring(5, 4), api.MaxWord, 1, api.OK},
		{ring(5, 3), api.MaxWord, 0, api.OK},
		{few, api.MaxWord, 1, api.OK},
		{barely(), 63, 0, api.ErrOverflow},
		{barely(), 62, 1<<61 + 1, api.OK},
		{even(), -1, 0, api.ErrRange},
		{even(), math.MinInt, 0, api.ErrRange},
		{even(), api.MaxWord + 1, 0, api.ErrRange},
		{constant(2, true), math.MaxInt, 0, api.ErrRange},
	} {
		if n, e := dfa.Count(c.d, c.n); n != c.want || e != c.e {
			t.Errorf("case %d: Count for %d returns %d, %d", i, c.n, n, e)
		}
	}
}

// barely returns an automaton that accepts the words that begin with 0, and those of symbols 1 only: 2^62 + 1 words of 63 symbols.
func barely() api.DFA {
	return api.DFA{Inputs: 2, Next: [][]int{{1, 2}, {1, 1}, {3, 2}, {3, 3}}, Accept: []bool{true, true, true, false}}
}

// P7.7, P7.11: the same numbers as by trying all words, and those of the complement add up to the number of all words. The first accepted word has the least length with an accepted word.
func TestCountTriesWords(t *testing.T) {
	for _, d := range samples() {
		other, _ := dfa.Complement(d)
		shortest, found, _ := dfa.Shortest(d)
		counts := make([]int, 10)
		for _, w := range words(2, 9) {
			if accepts(d, d.Start, w) {
				counts[len(w)]++
			}
		}
		for n, want := range counts {
			x, e := dfa.Count(d, n)
			y, e2 := dfa.Count(other, n)
			if x != want || x+y != 1<<n || e != api.OK || e2 != api.OK {
				t.Errorf("Count of %v for %d returns %d, %d, and %d for the complement", d, n, x, e, y)
			}
			if x > 0 && (!found || n < len(shortest)) || x == 0 && found && n == len(shortest) {
				t.Errorf("Count of %v for %d returns %d, and Shortest %v, %t", d, n, x, shortest, found)
			}
		}
	}
}

// P7.8: the machine tells after each symbol whether the word is accepted; states that are not reachable stay.
func TestToMealy(t *testing.T) {
	for i, c := range []struct {
		d    api.DFA
		want api.Mealy
	}{
		{even(), api.Mealy{Inputs: 2, Next: [][]int{{0, 1}, {1, 0}}, Out: [][]int{{1, 0}, {0, 1}}}},
		{odd(), api.Mealy{Inputs: 2, Next: [][]int{{0, 1}, {1, 0}}, Out: [][]int{{0, 1}, {1, 0}}}},
		{
			api.DFA{Inputs: 1, Start: 2, Next: [][]int{{1}, {0}, {2}}, Accept: []bool{true, false, true}},
			api.Mealy{Inputs: 1, Start: 2, Next: [][]int{{1}, {0}, {2}}, Out: [][]int{{0}, {1}, {1}}},
		},
		{constant(api.MaxInputs, true), api.Mealy{Inputs: api.MaxInputs, Next: rows(1, api.MaxInputs, 0), Out: rows(1, api.MaxInputs, 1)}},
	} {
		if m, e := dfa.ToMealy(c.d); !mealy.Same(m, c.want) || e != api.OK {
			t.Errorf("case %d: ToMealy returns %v, %d", i, m, e)
		}
	}
	for _, inputs := range []int{api.MaxInputs + 1, api.MaxLetters} {
		if m, e := dfa.ToMealy(constant(inputs, true)); !mealy.Same(m, api.Mealy{}) || e != api.ErrRange {
			t.Errorf("ToMealy for %d inputs returns %v, %d", inputs, m, e)
		}
	}
}

// counter returns a machine whose only input leads through all states with the output 0, but with the output 1 from some of them.
func counter(states int, ones ...int) api.Mealy {
	m := api.Mealy{Inputs: 1}
	for s := range states {
		m.Next = append(m.Next, []int{(s + 1) % states})
		m.Out = append(m.Out, []int{0})
	}
	for _, s := range ones {
		m.Out[s][0] = 1
	}
	return m
}

// P7.9: the pairs of a state and an acceptance.
func TestFromMealy(t *testing.T) {
	m, _ := dfa.ToMealy(even())
	// The machine leads to the state 0 with both outputs.
	both := api.Mealy{Inputs: 2, Start: 1, Next: [][]int{{1, 0}, {0, 0}}, Out: [][]int{{0, 1}, {1, 0}}}
	for i, c := range []struct {
		m      api.Mealy
		accept bool
		want   api.DFA
	}{
		{m, true, even()},
		{m, false, api.DFA{Inputs: 2, Next: [][]int{{1, 2}, {1, 2}, {2, 1}}, Accept: []bool{false, true, false}}},
		{both, false, api.DFA{Inputs: 2, Next: [][]int{{1, 2}, {0, 1}, {0, 1}}, Accept: []bool{false, true, false}}},
		{both, true, api.DFA{Inputs: 2, Next: [][]int{{1, 2}, {3, 1}, {3, 1}, {1, 2}}, Accept: []bool{true, true, false, false}}},
		{counter(1), false, ring(1)},
		{counter(1, 0), true, ring(1, 0)},
		{counter(1), true, api.DFA{Inputs: 1, Next: [][]int{{1}, {1}}, Accept: []bool{true, false}}},
		{counter(api.MaxStates), false, ring(api.MaxStates)},
		{counter(api.MaxStates, api.MaxStates-1), true, ring(api.MaxStates, 0)},
		// The state 0 and its output are not reachable.
		{api.Mealy{Inputs: 1, Start: 1, Next: [][]int{{1}, {1}}, Out: [][]int{{1}, {0}}}, false, ring(1)},
	} {
		if d, e := dfa.FromMealy(c.m, c.accept); !same(d, c.want) || e != api.OK {
			t.Errorf("case %d: FromMealy returns %v, %d", i, d, e)
		}
	}
}

// P7.9: the errors and their order.
func TestFromMealyErrors(t *testing.T) {
	unreachable := counter(2)
	unreachable.Next[0][0], unreachable.Out[1][0] = 0, 2
	greatest := counter(1)
	greatest.Out[0][0] = api.MaxOutput
	late := counter(api.MaxStates, 1)
	late.Out[5][0] = 2
	negative := counter(1)
	negative.Out[0][0] = -1
	far := counter(3)
	far.Next[2][0], far.Out[0][0] = 3, 2
	for i, c := range []struct {
		m      api.Mealy
		accept bool
		want   api.Errno
	}{
		{api.Mealy{}, true, api.ErrRange},
		{api.Mealy{Inputs: 1}, true, api.ErrEmpty},
		{counter(api.MaxStates + 1), true, api.ErrLimit},
		{api.Mealy{Inputs: 1, Next: [][]int{{0}}}, true, api.ErrInvalid},
		{negative, false, api.ErrRange},
		{far, false, api.ErrRange},
		{unreachable, false, api.ErrInvalid},
		{greatest, false, api.ErrInvalid},
		{late, true, api.ErrInvalid},
		{counter(api.MaxStates), true, api.ErrLimit},
		{counter(api.MaxStates, api.MaxStates-1), false, api.ErrLimit},
	} {
		if d, e := dfa.FromMealy(c.m, c.accept); !same(d, api.DFA{}) || e != c.want {
			t.Errorf("case %d: FromMealy returns %v, %d", i, d, e)
		}
	}
}

// P7.9: the automaton is trimmed, and accepts the words whose last output is 1.
func TestFromMealyTriesWords(t *testing.T) {
	for state := range uint64(50) {
		n := 1 + int(state%5)
		m := api.Mealy{Inputs: 2, Start: int(state) % n}
		drawing := state
		for range n {
			var next, out []int
			next, drawing, _ = random.Word(drawing, n, 2)
			out, drawing, _ = random.Word(drawing, 2, 2)
			m.Next, m.Out = append(m.Next, next), append(m.Out, out)
		}
		accept := state%2 == 0
		d, e := dfa.FromMealy(m, accept)
		if e != api.OK || dfa.Valid(d) != api.OK || !trimmed(d, 2*n) {
			t.Fatalf("FromMealy of %v returns %v, %d", m, d, e)
		}
		for _, w := range words(2, 8) {
			want := accept
			if len(w) > 0 {
				out, _ := mealy.Run(m, w)
				want = out[len(w)-1] == 1
			}
			if accepts(d, d.Start, w) != want {
				t.Errorf("FromMealy of %v returns %v: %v should be %t", m, d, w, want)
			}
		}
	}
}

// P7.12: FromMealy is the inverse of ToMealy.
func TestMachines(t *testing.T) {
	for _, d := range append(samples(), ring(api.MaxStates, 1, 5, 127), drawn(3, 5, api.MaxStates, 3)) {
		m, e := dfa.ToMealy(d)
		x, e2 := dfa.FromMealy(m, d.Accept[d.Start])
		w, found, e3 := dfa.Differ(d, x)
		if len(w) != 0 || found || e != api.OK || e2 != api.OK || e3 != api.OK {
			t.Errorf("FromMealy of ToMealy of %v returns %v: %v, %t, %d, %d, %d", d, x, w, found, e, e2, e3)
		}
	}
}

// R5: the arguments do not change, and results are new memory.
func TestMemory(t *testing.T) {
	a, b := even(), odd()
	spoil := func(d api.DFA, e api.Errno) {
		if e != api.OK {
			t.Error("the error is", e)
		}
		first := slices.Clone(d.Next[0])
		for i := range d.Next[1] {
			d.Next[1][i] = 7
		}
		d.Next[1] = append(d.Next[1], 7)
		d.Accept[1] = !d.Accept[1]
		if !slices.Equal(d.Next[0], first) {
			t.Error("lists of a result share memory")
		}
	}
	spoil(dfa.Complement(a))
	spoil(dfa.Combine(api.Xor, a, b))
	spoil(dfa.Min(a))
	m, _ := dfa.ToMealy(a)
	spoil(dfa.FromMealy(m, false))
	if !slices.Equal(m.Next[1], []int{1, 0}) || !slices.Equal(m.Out[1], []int{0, 1}) {
		t.Error("the machine has become", m)
	}
	m.Next[0][0], m.Out[0][1] = 7, 7
	if !same(a, even()) || !same(b, odd()) {
		t.Error("the arguments have become", a, b)
	}
}
