package separate_test

import (
	"math"
	"slices"
	"testing"

	"learner/api"
	"learner/equiv"
	"learner/mealy"
	"learner/minimize"
	"learner/random"
	"learner/separate"
	"learner/word"
	"learner/wordset"
)

// gate returns the gate of the document: the inputs coin and push, and the outputs no, ok and turn.
func gate() api.Mealy {
	return api.Mealy{Inputs: 2, Next: [][]int{{1, 0}, {1, 0}}, Out: [][]int{{1, 0}, {1, 2}}}
}

// changed returns the gate after a change.
func changed(change func(m *api.Mealy)) api.Mealy {
	m := gate()
	change(&m)
	return m
}

// ring returns a machine whose only input leads through all states, with an output from each of them.
func ring(outputs ...int) api.Mealy {
	m := api.Mealy{Inputs: 1}
	for s, output := range outputs {
		m.Next = append(m.Next, []int{(s + 1) % len(outputs)})
		m.Out = append(m.Out, []int{output})
	}
	return m
}

// marked returns n outputs that are 0 but for a 1 with the index i.
func marked(n, i int) []int {
	outputs := make([]int, n)
	outputs[i] = 1
	return outputs
}

// rows returns n lists of equal numbers.
func rows(n, inputs, x int) [][]int {
	var l [][]int
	for range n {
		l = append(l, slices.Repeat([]int{x}, inputs))
	}
	return l
}

// drawn returns a random machine. With few outputs, many states are hard to separate.
func drawn(state uint64, inputs, states, outputs int) api.Mealy {
	m := api.Mealy{Inputs: inputs}
	m.Start, state, _ = random.Below(state, states)
	for range states {
		var next, out []int
		next, state, _ = random.Word(state, states, inputs)
		out, state, _ = random.Word(state, outputs, inputs)
		m.Next = append(m.Next, next)
		m.Out = append(m.Out, out)
	}
	return m
}

// minimals returns small minimal machines, whose states have any order.
func minimals() []api.Mealy {
	all := []api.Mealy{gate(), ring(5), ring(0, 0, 1), ring(0, 1, 0, 0), two(), lost()}
	for state := range uint64(400) {
		m := drawn(state, 1+int(state%3), 1+int(state%6), 2)
		if minimize.Minimal(m) {
			all = append(all, m)
		}
	}
	return all
}

// two returns a machine with a characterization set of two words.
func two() api.Mealy {
	return api.Mealy{Inputs: 2, Next: [][]int{{1, 2}, {1, 2}, {0, 2}}, Out: [][]int{{0, 0}, {1, 0}, {0, 1}}}
}

// lost returns a machine in which each input makes the state 2 equal to another one with the same output.
func lost() api.Mealy {
	return api.Mealy{Inputs: 2, Next: [][]int{{2, 1}, {0, 0}, {0, 1}}, Out: [][]int{{1, 0}, {0, 1}, {0, 0}}}
}

// outputs returns the output word of a word from a state.
func outputs(m api.Mealy, s int, w []int) []int {
	out, _, _ := mealy.From(m, s, w)
	return out
}

// tried returns the first word that separates two states, by trying all words. The states of minimal machines are separated by words that are shorter than the number of states.
func tried(m api.Mealy, s, t int) []int {
	for w, ok := []int(nil), true; ok && len(w) < len(m.Next); w, ok = word.Next(w, m.Inputs) {
		if !slices.Equal(outputs(m, s, w), outputs(m, t, w)) {
			return w
		}
	}
	return nil
}

// same reports whether two lists of words are equal.
func same(a, b [][]int) bool {
	return slices.EqualFunc(a, b, slices.Equal[[]int])
}

// pairs uses all pairs of different states in order.
func pairs(m api.Mealy, use func(s, t int)) {
	for s := range m.Next {
		for t := range m.Next {
			if s < t {
				use(s, t)
			}
		}
	}
}

// splits reports whether each pair of states is separated by one of the words.
func splits(m api.Mealy, words [][]int) bool {
	all := true
	pairs(m, func(s, t int) {
		all = all && slices.ContainsFunc(words, func(w []int) bool { return !slices.Equal(outputs(m, s, w), outputs(m, t, w)) })
	})
	return all
}

// P11.1, P11.2: examples.
func TestSets(t *testing.T) {
	// The pairs 0, 1 and 0, 2 add 0 and 0 0. The first word of 0 and 3 is 1, but 0 0 separates them already; so 1 is added by 2 and 3.
	late := api.Mealy{Inputs: 2, Next: [][]int{{1, 1}, {2, 3}, {3, 3}, {0, 3}}, Out: [][]int{{0, 0}, {1, 0}, {0, 0}, {0, 1}}}
	for i, c := range []struct {
		m    api.Mealy
		set  [][]int
		list [][][]int
	}{
		{gate(), [][]int{{1}}, [][][]int{{{1}}, {{1}}}},
		{ring(0, 0, 1), [][]int{{0, 0}}, [][][]int{{{0}, {0, 0}}, {{0}, {0, 0}}, {{0}}}},
		{ring(1, 0, 0), [][]int{{0}, {0, 0}}, [][][]int{{{0}}, {{0}, {0, 0}}, {{0}, {0, 0}}}},
		{ring(5), nil, [][][]int{nil}},
		{two(), [][]int{{0}, {1}}, [][][]int{{{0}, {1}}, {{0}}, {{0}, {1}}}},
		{lost(), [][]int{{0}, {1}}, [][][]int{{{0}}, {{0}, {1}}, {{0}, {1}}}},
		{late, [][]int{{0}, {1}, {0, 0}}, [][][]int{{{0}, {1}, {0, 0}}, {{0}}, {{0}, {1}, {0, 0}}, {{0}, {1}}}},
	} {
		if set, e := separate.Charset(c.m); !same(set, c.set) || e != api.OK {
			t.Errorf("case %d: Charset returns %v, %d", i, set, e)
		}
		if list, e := separate.Identifiers(c.m); !slices.EqualFunc(list, c.list, same) || e != api.OK {
			t.Errorf("case %d: Identifiers returns %v, %d", i, list, e)
		}
	}
}

// P11.1, P11.5: the set is the one that results from the pairs in order; it separates all states, and has fewer words than there are states.
func TestCharsetOfPairs(t *testing.T) {
	unneeded := 0
	for _, m := range minimals() {
		var want [][]int
		pairs(m, func(s, r int) {
			if !slices.ContainsFunc(want, func(w []int) bool { return !slices.Equal(outputs(m, s, w), outputs(m, r, w)) }) {
				want = append(want, tried(m, s, r))
			}
		})
		slices.SortFunc(want, word.Compare)
		set, e := separate.Charset(m)
		if !same(set, want) || e != api.OK {
			t.Fatalf("Charset of %v returns %v, %d, and not %v", m, set, e, want)
		}
		if !splits(m, set) || len(set) >= len(m.Next) {
			t.Errorf("Charset of %v returns %v", m, set)
		}
		identifiers, _ := separate.Identifiers(m)
		if len(wordset.Union(identifiers...)) > len(set) {
			unneeded++
		}
	}
	if unneeded == 0 {
		t.Error("the first separating words of all pairs are in the sets")
	}
}

// P11.2, P11.5: the identifiers of a state are its first separating words with all others; all together separate all states, and two states share a word that separates them.
func TestIdentifiersOfPairs(t *testing.T) {
	for _, m := range minimals() {
		want := make([][][]int, len(m.Next))
		pairs(m, func(s, r int) {
			w := tried(m, s, r)
			want[s], want[r] = append(want[s], w), append(want[r], w)
		})
		for s := range want {
			want[s] = wordset.Sorted(want[s])
		}
		list, e := separate.Identifiers(m)
		if !slices.EqualFunc(list, want, same) || e != api.OK {
			t.Fatalf("Identifiers of %v returns %v, %d, and not %v", m, list, e, want)
		}
		if !splits(m, wordset.Union(list...)) {
			t.Errorf("Identifiers of %v returns %v", m, list)
		}
		pairs(m, func(s, r int) {
			w, _, _ := equiv.States(m, s, r)
			if !wordset.Has(list[s], w) || !wordset.Has(list[r], w) || slices.Equal(outputs(m, s, w), outputs(m, r, w)) {
				t.Errorf("Identifiers of %v for %d and %d returns %v and %v", m, s, r, list[s], list[r])
			}
		})
	}
}

// P11.1 to P11.4: the greatest machines, and the longest words.
func TestGreatMachines(t *testing.T) {
	const n = api.MaxStates
	long := ring(marked(n, n-1)...)
	zeros := make([]int, n)
	if set, e := separate.Charset(long); !same(set, [][]int{zeros[:n-1]}) || e != api.OK {
		t.Errorf("Charset returns %v, %d", set, e)
	}
	list, e := separate.Identifiers(long)
	if len(list) != n || e != api.OK {
		t.Fatalf("Identifiers returns %d lists, %d", len(list), e)
	}
	for s, words := range list {
		// The word for the states s and r has n - r symbols if r is greater than s.
		var want [][]int
		for length := 1; length <= min(n-s, n-1); length++ {
			want = append(want, zeros[:length])
		}
		if !same(words, want) {
			t.Errorf("Identifiers for %d: %v", s, words)
		}
	}
	for _, s := range []int{0, 1, 2, 64, n - 2, n - 1} {
		want := min(n-s, n-1)
		if w, ok, e := separate.Uio(long, s, n); len(w) != want || !ok || e != api.OK {
			t.Errorf("Uio for %d returns %v, %t, %d", s, w, ok, e)
		}
		if w, ok, e := separate.Uio(long, s, want-1); len(w) != 0 || ok || e != api.OK {
			t.Errorf("Uio for %d with too few symbols returns %v, %t, %d", s, w, ok, e)
		}
	}
	wide := drawn(1, api.MaxInputs, n, 2)
	set, e := separate.Charset(wide)
	if ok, e2 := separate.Splits(wide, set); !ok || e != api.OK || e2 != api.OK {
		t.Errorf("Charset returns %v, %d, and Splits %t, %d", set, e, ok, e2)
	}
}

// P11.3: sets of words, also for machines that are not minimal.
func TestSplits(t *testing.T) {
	unreachable := changed(func(m *api.Mealy) { m.Next, m.Out = append(m.Next, []int{1, 0}), append(m.Out, []int{1, 2}) })
	long := make([]int, api.MaxWord)
	for i, c := range []struct {
		m     api.Mealy
		words [][]int
		want  bool
	}{
		{gate(), [][]int{{1}}, true},
		{gate(), [][]int{{0}}, false},
		{gate(), [][]int{{0, 1}}, false},
		{gate(), [][]int{{0, 1, 0, 0, 1}, {0}, {1, 0}}, true},
		{gate(), nil, false},
		{gate(), [][]int{nil}, false},
		{gate(), [][]int{nil, {1}, {1}}, true},
		{ring(5), nil, true},
		{ring(5), [][]int{nil, {0}}, true},
		{ring(0, 0, 1), [][]int{{0}}, false},
		{ring(0, 0, 1), [][]int{{0, 0}}, true},
		{ring(0, 0, 1), [][]int{long}, true},
		{ring(0, 1, 0, 1), [][]int{long}, false},
		{two(), [][]int{{0}}, false},
		{two(), [][]int{{1}}, false},
		{two(), [][]int{{1}, {0}}, true},
		// The states 1 and 2 are equivalent, and 2 is not reachable.
		{unreachable, [][]int{{1}, {0, 1, 1}}, false},
		{changed(func(m *api.Mealy) { m.Out[1][1] = 0 }), [][]int{{0}, {1}}, false},
	} {
		if got, e := separate.Splits(c.m, c.words); got != c.want || e != api.OK {
			t.Errorf("case %d: Splits returns %t, %d", i, got, e)
		}
	}
}

// P11.3: random machines and words.
func TestSplitsOfPairs(t *testing.T) {
	answers := map[bool]int{}
	for state := range uint64(600) {
		inputs := 1 + int(state%3)
		m := drawn(state, inputs, 1+int(state%5), 3)
		var words [][]int
		count, next, _ := random.Below(state, 4)
		for range count {
			var w []int
			var length int
			length, next, _ = random.Below(next, 4)
			w, next, _ = random.Word(next, inputs, length)
			words = append(words, w)
		}
		got, e := separate.Splits(m, words)
		if want := splits(m, words); got != want || e != api.OK {
			t.Errorf("Splits of %v with %v returns %t, %d", m, words, got, e)
		}
		answers[got]++
	}
	if answers[true] < 50 || answers[false] < 50 {
		t.Error("the machines have the answers", answers)
	}
}

// P11.3: the errors of the words in their order, also after words that suffice.
func TestSplitsErrors(t *testing.T) {
	long := make([]int, api.MaxWord+1)
	for i, c := range []struct {
		words [][]int
		want  api.Errno
	}{
		{[][]int{{2}}, api.ErrInvalid},
		{[][]int{{1}, {-1}}, api.ErrInvalid},
		{[][]int{{1}, {0, 1}, {0, 0, math.MaxInt}}, api.ErrInvalid},
		{[][]int{{1}, long}, api.ErrTooLong},
		{[][]int{long, {2}}, api.ErrTooLong},
		{[][]int{{2}, long}, api.ErrInvalid},
	} {
		if got, e := separate.Splits(gate(), c.words); got || e != c.want {
			t.Errorf("case %d: Splits returns %t, %d", i, got, e)
		}
	}
	// A word of a great machine may have symbols that are no inputs of a small one.
	if got, e := separate.Splits(ring(5), [][]int{{1}}); got || e != api.ErrInvalid {
		t.Errorf("Splits returns %t, %d", got, e)
	}
}

// P11.4: examples.
func TestUio(t *testing.T) {
	for i, c := range []struct {
		m    api.Mealy
		s, n int
		want []int
		ok   bool
	}{
		{gate(), 0, 1, []int{1}, true},
		{gate(), 1, 128, []int{1}, true},
		{gate(), 1, 0, nil, false},
		{ring(0, 0, 1), 2, 1, []int{0}, true},
		{ring(0, 0, 1), 0, 2, []int{0, 0}, true},
		{ring(0, 0, 1), 1, 9, []int{0, 0}, true},
		{ring(0, 0, 1), 0, 1, nil, false},
		{ring(0, 0, 1), 0, 0, nil, false},
		{ring(7), 0, 0, nil, true},
		{ring(7), 0, 128, nil, true},
		{two(), 0, 5, []int{0, 0}, true},
		{two(), 1, 5, []int{0}, true},
		{two(), 2, 5, []int{1}, true},
		{lost(), 0, 5, []int{0}, true},
		{lost(), 2, 128, nil, false},
	} {
		if w, ok, e := separate.Uio(c.m, c.s, c.n); !slices.Equal(w, c.want) || ok != c.ok || e != api.OK {
			t.Errorf("case %d: Uio of %d for %d returns %v, %t, %d", i, c.s, c.n, w, ok, e)
		}
	}
}

// unique returns the first word of at most n symbols whose output word no other state has, by trying all words.
func unique(m api.Mealy, s, n int) ([]int, bool) {
	for w, ok := []int(nil), true; ok && len(w) <= n; w, ok = word.Next(w, m.Inputs) {
		alone := true
		for t := range m.Next {
			alone = alone && (t == s || !slices.Equal(outputs(m, s, w), outputs(m, t, w)))
		}
		if alone {
			return w, true
		}
	}
	return nil, false
}

// P11.4, P11.6: the word is the first one of all words whose output word no other state has.
func TestUioTriesWords(t *testing.T) {
	lengths := map[int]int{}
	for _, m := range minimals() {
		for s := range m.Next {
			for _, n := range []int{0, 1, 2, 5} {
				want, exists := unique(m, s, n)
				w, ok, e := separate.Uio(m, s, n)
				if !slices.Equal(w, want) || ok != exists || e != api.OK {
					t.Fatalf("Uio of %v for %d with %d returns %v, %t, %d, and not %v, %t", m, s, n, w, ok, e, want, exists)
				}
				if ok {
					lengths[len(w)]++
				} else {
					lengths[-1]++
				}
			}
		}
	}
	for _, length := range []int{-1, 0, 1, 2, 3} {
		if lengths[length] == 0 {
			t.Error("the lengths of the words are", lengths)
		}
	}
}

// removing returns a machine in which the other states can be removed one by one from the situation of the state 0, but for the states 1 and 2. The last two inputs make one of these equal to the state 0, so that the situations after them are left out.
func removing(k int) api.Mealy {
	const s, t, u, x = 0, 1, 2, 3
	m := api.Mealy{Inputs: k + 2, Next: rows(x+k, k+2, s), Out: rows(x+k, k+2, 0)}
	for state := range m.Next {
		for i := range k {
			m.Next[state][i] = state
		}
		m.Next[state][k] = state + 1
	}
	for i := range k {
		m.Out[x+i][i] = 1
	}
	for state := range x {
		m.Next[state][k] = x
	}
	m.Next[x+k-1][k] = u
	m.Out[u][k] = 1
	m.Next[x][k+1] = t
	m.Out[t][k+1] = 1
	return m
}

// P11.4: the limit of situations that are not left out, if there is no such word. There are as many as sets of at most n symbols.
func TestUioLimit(t *testing.T) {
	for i, c := range []struct {
		k, n int
		want api.Errno
	}{
		{12, 11, api.OK}, {12, 12, api.OK}, {12, 13, api.OK}, {12, 128, api.OK},
		{13, 0, api.OK}, {13, 5, api.OK}, {13, 6, api.OK}, {13, 7, api.ErrLimit}, {13, 128, api.ErrLimit},
		{50, 2, api.OK}, {50, 3, api.ErrLimit},
	} {
		m := removing(c.k)
		if !minimize.Minimal(m) {
			t.Fatal("the machine is not minimal")
		}
		if w, ok, e := separate.Uio(m, 0, c.n); len(w) != 0 || ok || e != c.want {
			t.Errorf("case %d: Uio returns %v, %t, %d", i, w, ok, e)
		}
		// Other states are not concerned.
		if w, ok, e := separate.Uio(m, 3+c.k/2, 1); !slices.Equal(w, []int{c.k / 2}) || !ok || e != api.OK {
			t.Errorf("case %d: Uio of another state returns %v, %t, %d", i, w, ok, e)
		}
	}
}

// emptying returns a machine in which all other states can be removed from the situation of the state 0: one by one by the first k inputs, but for the state 1, which is removed by all of these, and by the input k alone. After each other input the situations are left out.
func emptying(k int) api.Mealy {
	m := api.Mealy{Inputs: 2*k + 2, Next: rows(k+2, 2*k+2, 0), Out: rows(k+2, 2*k+2, 0)}
	for state, next := range m.Next {
		for i := range next {
			next[i] = i - k
			if i <= k {
				next[i] = state
			}
		}
	}
	for i := range k {
		m.Out[2+i][i] = 1
	}
	for i := range m.Inputs {
		m.Out[1][i] = 1
	}
	return m
}

// P11.4: a word that is found after exactly MaxNodes situations, and before and after the limit.
func TestUioAtLimit(t *testing.T) {
	all := []int{0, 1, 2, 3, 4, 5, 6, 7, 8, 9, 10, 11, 12}
	for i, c := range []struct {
		k, n int
		want []int
		e    api.Errno
	}{
		{3, 2, nil, api.OK}, {3, 3, all[:3], api.OK}, {11, 128, all[:11], api.OK},
		{12, 11, nil, api.OK}, {12, 12, all[:12], api.OK}, {12, 128, all[:12], api.OK},
		{13, 5, nil, api.OK}, {13, 6, nil, api.ErrLimit}, {13, 13, nil, api.ErrLimit}, {13, 128, nil, api.ErrLimit},
	} {
		m := emptying(c.k)
		if !minimize.Minimal(m) {
			t.Fatal("the machine is not minimal")
		}
		if w, ok, e := separate.Uio(m, 0, c.n); !slices.Equal(w, c.want) || ok != (c.want != nil) || e != c.e {
			t.Errorf("case %d: Uio returns %v, %t, %d", i, w, ok, e)
		}
	}
}

// P11.4: the errors and their order.
func TestUioErrors(t *testing.T) {
	for _, c := range [][2]int{{2, 1}, {-1, 1}, {math.MaxInt, 1}, {math.MinInt, 1}, {0, -1}, {0, 129}, {0, math.MaxInt}, {0, math.MinInt}, {2, 129}} {
		if w, ok, e := separate.Uio(gate(), c[0], c[1]); len(w) != 0 || ok || e != api.ErrRange {
			t.Errorf("Uio for %v returns %v, %t, %d", c, w, ok, e)
		}
	}
	for _, n := range []int{-1, 129} {
		if w, ok, e := separate.Uio(ring(7), 0, n); len(w) != 0 || ok || e != api.ErrRange {
			t.Errorf("Uio for %d returns %v, %t, %d", n, w, ok, e)
		}
	}
}

// invalid returns machines that are not valid.
func invalid() []api.Mealy {
	return []api.Mealy{
		{},
		{Inputs: 1},
		{Inputs: api.MaxInputs + 1, Next: rows(1, api.MaxInputs+1, 0), Out: rows(1, api.MaxInputs+1, 0)},
		ring(make([]int, api.MaxStates+1)...),
		changed(func(m *api.Mealy) { m.Start = 2 }),
		{Inputs: 2, Next: [][]int{{0, 0}}},
		changed(func(m *api.Mealy) { m.Out[1] = m.Out[1][:1] }),
		changed(func(m *api.Mealy) { m.Next[1][1] = 2 }),
		changed(func(m *api.Mealy) { m.Out[0][1] = api.MaxOutput + 1 }),
	}
}

// refused reports whether the functions for minimal machines return an error, and nothing else.
func refused(m api.Mealy, want api.Errno) bool {
	set, e := separate.Charset(m)
	list, e2 := separate.Identifiers(m)
	w, ok, e3 := separate.Uio(m, 0, 9)
	_, _, e4 := separate.Uio(m, -1, -1)
	return len(set) == 0 && len(list) == 0 && len(w) == 0 && !ok && e == want && e2 == want && e3 == want && e4 == want
}

// P11.1 to P11.4: the errors of machines.
func TestInvalid(t *testing.T) {
	for i, m := range invalid() {
		want := mealy.Valid(m)
		got, e := separate.Splits(m, [][]int{{99}})
		if want == api.OK || !refused(m, want) || got || e != want {
			t.Errorf("case %d: the error is not %d", i, want)
		}
	}
	unreachable := changed(func(m *api.Mealy) { m.Next, m.Out = append(m.Next, []int{0, 1}), append(m.Out, []int{7, 7}) })
	for i, m := range []api.Mealy{ring(0, 0), ring(0, 1, 0, 1), unreachable, changed(func(m *api.Mealy) { m.Out[1][1] = 0 })} {
		if !refused(m, api.ErrInvalid) {
			t.Errorf("case %d: a machine that is not minimal is accepted", i)
		}
	}
	if got, e := separate.Splits(unreachable, [][]int{{1}}); !got || e != api.OK {
		t.Errorf("Splits of a machine that is not minimal returns %t, %d", got, e)
	}
}

// R5: arguments do not change, and results are new memory.
func TestMemory(t *testing.T) {
	m, words := ring(0, 0, 1), [][]int{{0}, {0, 0}}
	list, _ := separate.Identifiers(m)
	list[0][0][0], list[0][1][0] = 7, 7
	if !same(list[1], words) || !same(list[2], words[:1]) {
		t.Error("Identifiers shares memory:", list)
	}
	set, _ := separate.Charset(m)
	w, _, _ := separate.Uio(m, 0, 2)
	set[0][0], w[0] = 7, 7
	if ok, e := separate.Splits(m, words); !ok || e != api.OK || !same(words, [][]int{{0}, {0, 0}}) || !mealy.Same(m, ring(0, 0, 1)) {
		t.Error("the arguments have become", m, words)
	}
	if set, _ := separate.Charset(m); !same(set, [][]int{{0, 0}}) {
		t.Error("Charset returns", set)
	}
}
