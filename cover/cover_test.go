package cover_test

import (
	"math"
	"slices"
	"testing"

	"learner/api"
	"learner/cover"
	"learner/mealy"
	"learner/random"
	"learner/word"
	"learner/wordset"
)

// gate returns the gate of the document: the inputs coin and push, and the outputs no, ok and turn.
func gate() api.Mealy {
	return api.Mealy{Inputs: 2, Next: [][]int{{1, 0}, {1, 0}}, Out: [][]int{{1, 0}, {1, 2}}}
}

// machine returns the machine with these transitions, whose outputs are all 0.
func machine(next ...[]int) api.Mealy {
	return api.Mealy{Inputs: len(next[0]), Next: next, Out: rows(len(next), len(next[0]), 0)}
}

// example returns the first machine of the chapter's examples.
func example() api.Mealy {
	return machine([]int{0, 1}, []int{2, 1}, []int{0, 2})
}

// split returns the second machine of the chapter's examples.
func split() api.Mealy {
	return machine([]int{1, 2}, []int{1, 1}, []int{2, 2})
}

// started returns m with another start.
func started(m api.Mealy, s int) api.Mealy {
	m.Start = s
	return m
}

// ring returns a machine in which each input leads to the following state, and from the last one to the state 0.
func ring(states, inputs int) api.Mealy {
	var next [][]int
	for s := range states {
		next = append(next, slices.Repeat([]int{(s + 1) % states}, inputs))
	}
	return machine(next...)
}

// leaking returns a ring in which the last input of each state leads to another state, from which there is no way back.
func leaking(states, inputs int) api.Mealy {
	m := ring(states, inputs)
	for s := range states {
		m.Next[s][inputs-1] = states
	}
	m.Next = append(m.Next, slices.Repeat([]int{states}, inputs))
	m.Out = rows(states+1, inputs, 0)
	return m
}

// rows returns n lists of equal numbers.
func rows(n, inputs, x int) [][]int {
	var l [][]int
	for range n {
		l = append(l, slices.Repeat([]int{x}, inputs))
	}
	return l
}

// drawn returns a random machine.
func drawn(state uint64, inputs, states int) api.Mealy {
	var next [][]int
	start, state, _ := random.Below(state, states)
	for range states {
		var row []int
		row, state, _ = random.Word(state, states, inputs)
		next = append(next, row)
	}
	return started(machine(next...), start)
}

// samples returns small machines of different kinds.
func samples() []api.Mealy {
	all := []api.Mealy{gate(), started(gate(), 1), example(), started(example(), 2), split(), started(split(), 1), ring(1, 1), ring(5, 2), leaking(3, 2)}
	for state := range uint64(90) {
		all = append(all, drawn(state, 1+int(state%3), 1+int(state%5)))
	}
	return all
}

// invalid returns machines that are not valid.
func invalid() []api.Mealy {
	short, far, loud := gate(), gate(), gate()
	short.Out[1] = short.Out[1][:1]
	far.Next[1][1] = 2
	loud.Out[0][1] = api.MaxOutput + 1
	return []api.Mealy{
		{},
		{Inputs: 1},
		{Inputs: api.MaxInputs + 1, Next: rows(1, api.MaxInputs+1, 0), Out: rows(1, api.MaxInputs+1, 0)},
		ring(api.MaxStates+1, 1),
		started(gate(), -1),
		{Inputs: 2, Next: [][]int{{0, 0}}},
		short, far, loud,
	}
}

// same reports whether two lists contain equal words.
func same(a, b [][]int) bool {
	return slices.EqualFunc(a, b, slices.Equal[[]int])
}

// words returns the words over the symbols of a size with at most n symbols, in shortlex order.
func words(inputs, n int) [][]int {
	var l [][]int
	for w, ok := []int(nil), true; ok && len(w) <= n; w, ok = word.Next(w, inputs) {
		l = append(l, w)
	}
	return l
}

// after returns the state after a word.
func after(m api.Mealy, s int, w []int) int {
	_, s, _ = mealy.From(m, s, w)
	return s
}

// P10.1: reachable states with their access words, and the state cover.
func TestAccess(t *testing.T) {
	for i, c := range []struct {
		m      api.Mealy
		states []int
		words  [][]int
	}{
		{example(), []int{0, 1, 2}, [][]int{{}, {1}, {1, 0}}},
		{started(example(), 2), []int{2, 0, 1}, [][]int{{}, {0}, {0, 1}}},
		{gate(), []int{0, 1}, [][]int{{}, {0}}},
		{split(), []int{0, 1, 2}, [][]int{{}, {0}, {1}}},
		{started(split(), 2), []int{2}, [][]int{{}}},
		{ring(1, api.MaxInputs), []int{0}, [][]int{{}}},
		// The shorter word comes first, though 0 0 is before it in dictionary order.
		{machine([]int{2, 1}, []int{1, 1}, []int{3, 1}, []int{0, 0}), []int{0, 2, 1, 3}, [][]int{{}, {0}, {1}, {0, 0}}},
		// The state 3 is reached by 0 1 and by 1 0.
		{machine([]int{2, 1}, []int{3, 1}, []int{2, 3}, []int{3, 3}, []int{0, 0}), []int{0, 2, 1, 3}, [][]int{{}, {0}, {1}, {0, 1}}},
	} {
		states, l, e := cover.Access(c.m)
		if !slices.Equal(states, c.states) || !same(l, c.words) || e != api.OK {
			t.Errorf("case %d: Access returns %v, %v, %d", i, states, l, e)
		}
		if l, e := cover.StateCover(c.m); !same(l, c.words) || e != api.OK {
			t.Errorf("case %d: StateCover returns %v, %d", i, l, e)
		}
	}
}

// P10.1: the longest access words.
func TestLongAccess(t *testing.T) {
	states, l, e := cover.Access(ring(api.MaxStates, api.MaxInputs))
	if len(states) != api.MaxStates || len(l) != api.MaxStates || e != api.OK {
		t.Fatalf("Access returns %d states and %d words, %d", len(states), len(l), e)
	}
	for s, w := range l {
		if states[s] != s || !slices.Equal(w, make([]int, s)) {
			t.Errorf("Access returns %v for %d", w, states[s])
		}
	}
}

// P10.1, P10.6: the words are the first ones of all words that reach the states, in their order; prefixes of them are access words too.
func TestAccessTriesWords(t *testing.T) {
	for _, m := range samples() {
		var states []int
		var want [][]int
		for _, w := range words(m.Inputs, len(m.Next)) {
			if s := after(m, m.Start, w); !slices.Contains(states, s) {
				states = append(states, s)
				want = append(want, w)
			}
		}
		found, l, e := cover.Access(m)
		if !slices.Equal(found, states) || !same(l, want) || e != api.OK {
			t.Errorf("Access of %v returns %v, %v, %d, and not %v, %v", m, found, l, e, states, want)
		}
		l, e = cover.StateCover(m)
		if !same(l, wordset.Sorted(want)) || !same(l, wordset.Prefixes(l)) || !wordset.Has(l, nil) || e != api.OK {
			t.Errorf("StateCover of %v returns %v, %d", m, l, e)
		}
	}
}

// P10.2: access words followed by inputs.
func TestTransitions(t *testing.T) {
	for i, c := range []struct {
		m    api.Mealy
		want [][]int
	}{
		{example(), [][]int{{0}, {1}, {1, 0}, {1, 1}, {1, 0, 0}, {1, 0, 1}}},
		{gate(), [][]int{{0}, {1}, {0, 0}, {0, 1}}},
		{started(split(), 1), [][]int{{0}, {1}}},
		{ring(3, 1), [][]int{{0}, {0, 0}, {0, 0, 0}}},
	} {
		if l, e := cover.Transitions(c.m); !same(l, c.want) || e != api.OK {
			t.Errorf("case %d: Transitions returns %v, %d", i, l, e)
		}
	}
	if l, e := cover.Transitions(ring(api.MaxStates, api.MaxInputs)); len(l) != api.MaxStates*api.MaxInputs || e != api.OK {
		t.Errorf("Transitions of the greatest ring returns %d words, %d", len(l), e)
	}
}

// P10.2: the words are the product of the state cover and the inputs, sorted.
func TestTransitionsAreProducts(t *testing.T) {
	for _, m := range append(samples(), drawn(1, 9, 50)) {
		access, _ := cover.StateCover(m)
		want, _ := wordset.Product(access, words(m.Inputs, 1)[1:])
		if l, e := cover.Transitions(m); !same(l, want) || e != api.OK {
			t.Errorf("Transitions of %v returns %v, %d, and not %v", m, l, e, want)
		}
	}
}

// P10.3: paths between states, also from states that are not reachable.
func TestPath(t *testing.T) {
	for i, c := range []struct {
		m    api.Mealy
		s, t int
		want []int
		ok   bool
	}{
		{example(), 1, 0, []int{0, 0}, true},
		{example(), 0, 2, []int{1, 0}, true},
		{example(), 2, 1, []int{0, 1}, true},
		{example(), 1, 1, nil, true},
		{split(), 1, 2, nil, false},
		{split(), 2, 0, nil, false},
		{split(), 0, 2, []int{1}, true},
		{split(), 2, 2, nil, true},
		{started(split(), 1), 0, 2, []int{1}, true},
		{ring(4, 3), 2, 1, []int{0, 0, 0}, true},
		// A state need not lead to itself.
		{machine([]int{1}, []int{1}), 0, 0, nil, true},
		{machine([]int{1}, []int{1}), 1, 0, nil, false},
		{ring(api.MaxStates, 1), 1, 0, make([]int, api.MaxStates-1), true},
	} {
		if w, ok, e := cover.Path(c.m, c.s, c.t); !slices.Equal(w, c.want) || ok != c.ok || e != api.OK {
			t.Errorf("case %d: Path from %d to %d returns %v, %t, %d", i, c.s, c.t, w, ok, e)
		}
	}
}

// leads returns the first word of a list that leads from one state to another.
func leads(m api.Mealy, l [][]int, s, r int) ([]int, bool) {
	for _, w := range l {
		if after(m, s, w) == r {
			return w, true
		}
	}
	return nil, false
}

// P10.3, P10.6: the path is the first one of all words, and from Start it is the access word.
func TestPathTriesWords(t *testing.T) {
	for _, m := range samples() {
		l := words(m.Inputs, len(m.Next))
		for s := range m.Next {
			for r := range m.Next {
				want, ok := leads(m, l, s, r)
				if w, found, e := cover.Path(m, s, r); !slices.Equal(w, want) || found != ok || e != api.OK {
					t.Errorf("Path of %v from %d to %d returns %v, %t, %d, and not %v", m, s, r, w, found, e, want)
				}
			}
		}
		states, access, _ := cover.Access(m)
		for i, s := range states {
			if w, ok, e := cover.Path(m, m.Start, s); !slices.Equal(w, access[i]) || !ok || e != api.OK {
				t.Errorf("Path of %v to %d returns %v, %t, %d, and not %v", m, s, w, ok, e, access[i])
			}
		}
	}
}

// P10.3: states that are none.
func TestPathErrors(t *testing.T) {
	for _, c := range [][2]int{{2, 0}, {0, 2}, {-1, 0}, {0, -1}, {2, 2}, {-1, -1}, {math.MaxInt, 1}, {1, math.MinInt}} {
		if w, ok, e := cover.Path(gate(), c[0], c[1]); len(w) != 0 || ok || e != api.ErrRange {
			t.Errorf("Path for %v returns %v, %t, %d", c, w, ok, e)
		}
	}
}

// P10.4: words that take all transitions, and machines without such a word.
func TestTour(t *testing.T) {
	for i, c := range []struct {
		m    api.Mealy
		want []int
		e    api.Errno
	}{
		{example(), []int{0, 1, 0, 0, 1, 1, 0, 1}, api.OK},
		{gate(), []int{0, 0, 1, 1}, api.OK},
		{started(gate(), 1), []int{0, 1, 0, 1, 1}, api.OK},
		{split(), nil, api.ErrNotFound},
		{started(split(), 2), []int{0, 1}, api.OK},
		{ring(1, 3), []int{0, 1, 2}, api.OK},
		{ring(3, 2), []int{0, 0, 0, 1, 1, 1}, api.OK},
		// The first state is left with its last transition, so that the word need not go back.
		{machine([]int{0, 1}, []int{1, 1}), []int{0, 1, 0, 1}, api.OK},
		// The word 1 0 0 1 would take all transitions, but 0 is appended first.
		{machine([]int{1, 0}, []int{1, 1}), nil, api.ErrNotFound},
		{leaking(3, 2), nil, api.ErrNotFound},
		// Transitions of states that are not reachable do not count.
		{machine([]int{0, 0}, []int{0, 1}), []int{0, 1}, api.OK},
		// After 0 0 1 0, both 0 1 and 1 1 end with a transition that is left.
		{machine([]int{1, 2}, []int{0, 0}, []int{0, 1}), []int{0, 0, 1, 0, 0, 1, 1, 1}, api.OK},
	} {
		if w, e := cover.Tour(c.m); !slices.Equal(w, c.want) || e != c.e {
			t.Errorf("case %d: Tour returns %v, %d", i, w, e)
		}
	}
}

// P10.4: the longest words. ErrNotFound comes before ErrTooLong.
func TestLongTour(t *testing.T) {
	for i, c := range []struct {
		m      api.Mealy
		length int
		e      api.Errno
	}{
		{ring(16, 64), api.MaxWord, api.OK},
		{ring(128, 8), api.MaxWord, api.OK},
		{ring(41, 25), 0, api.ErrTooLong},
		{ring(api.MaxStates, api.MaxInputs), 0, api.ErrTooLong},
		{leaking(16, 64), 0, api.ErrNotFound},
		// This machine is left only after a word that is too long.
		{leaking(20, 64), 0, api.ErrNotFound},
		{leaking(api.MaxStates-1, api.MaxInputs), 0, api.ErrNotFound},
		// Each new transition is far from the last one.
		{returning(api.MaxStates, api.MaxInputs), 0, api.ErrTooLong},
	} {
		if w, e := cover.Tour(c.m); len(w) != c.length || e != c.e {
			t.Errorf("case %d: Tour returns a word of %d symbols, %d", i, len(w), e)
		}
	}
}

// returning returns a ring in which all inputs but the first one lead to the state 0.
func returning(states, inputs int) api.Mealy {
	m := ring(states, inputs)
	for s := range states {
		copy(m.Next[s][1:], make([]int, inputs))
	}
	return m
}

// takes returns the transitions that a word takes from the state s.
func takes(m api.Mealy, s int, w []int) [][2]int {
	var l [][2]int
	for i, input := range w {
		l = append(l, [2]int{after(m, s, w[:i]), input})
	}
	return l
}

// goesOn reports whether a word takes a transition that is left, and takes it last only.
func goesOn(m api.Mealy, s int, w []int, left map[[2]int]bool) bool {
	l := takes(m, s, w)
	for i, x := range l {
		if left[x] {
			return i == len(l)-1
		}
	}
	return false
}

// toured returns the tour as it is defined, by trying all words at each state.
func toured(m api.Mealy) ([]int, api.Errno) {
	left := map[[2]int]bool{}
	for _, s := range mealy.Reach(m) {
		for input := range m.Inputs {
			left[[2]int{s, input}] = true
		}
	}
	var tour []int
	s := m.Start
	l := words(m.Inputs, len(m.Next))
	for len(left) > 0 {
		i := slices.IndexFunc(l, func(w []int) bool { return goesOn(m, s, w, left) })
		if i < 0 {
			return nil, api.ErrNotFound
		}
		for _, x := range takes(m, s, l[i]) {
			delete(left, x)
		}
		tour = append(tour, l[i]...)
		s = after(m, s, l[i])
	}
	return tour, api.OK
}

// P10.4: the tour is that of the definition.
func TestTourTriesWords(t *testing.T) {
	for _, m := range samples() {
		want, e := toured(m)
		if w, e2 := cover.Tour(m); !slices.Equal(w, want) || e != e2 {
			t.Errorf("Tour of %v returns %v, %d, and not %v, %d", m, w, e2, want, e)
		}
	}
}

// P10.5: the numbers of states and transitions of words.
func TestCovered(t *testing.T) {
	for i, c := range []struct {
		m           api.Mealy
		words       [][]int
		states      int
		transitions int
	}{
		{example(), [][]int{{0}, {1, 1}}, 2, 3},
		{example(), nil, 0, 0},
		{example(), [][]int{nil}, 1, 0},
		{example(), [][]int{nil, {}}, 1, 0},
		{example(), [][]int{{0}}, 1, 1},
		{example(), [][]int{{1}}, 2, 1},
		{example(), [][]int{{1, 0, 1}, {1, 0, 1}}, 3, 3},
		// Each word begins at Start, and not where the one before it ended.
		{example(), [][]int{{1}, {0}, {0}, {1}}, 2, 2},
		{example(), [][]int{{0, 1, 0, 0, 1, 1, 0, 1}}, 3, 6},
		{started(example(), 2), [][]int{{0}, {1}}, 2, 2},
		{split(), [][]int{{0, 0, 1, 0}}, 2, 3},
		{started(split(), 1), [][]int{{0, 1}}, 1, 2},
		{ring(api.MaxStates, 1), [][]int{make([]int, api.MaxWord)}, api.MaxStates, api.MaxStates},
		{gate(), rows(api.MaxWords+1, 1, 0), 2, 1},
	} {
		if states, transitions, e := cover.Covered(c.m, c.words); states != c.states || transitions != c.transitions || e != api.OK {
			t.Errorf("case %d: Covered returns %d, %d, %d", i, states, transitions, e)
		}
	}
	all, _ := cover.Transitions(ring(api.MaxStates, api.MaxInputs))
	if states, transitions, e := cover.Covered(ring(api.MaxStates, api.MaxInputs), all); states != api.MaxStates || transitions != len(all) || e != api.OK {
		t.Errorf("Covered of all transitions returns %d, %d, %d", states, transitions, e)
	}
}

// P10.5: the numbers are those of the definitions.
func TestCoveredTakesPrefixes(t *testing.T) {
	for i, m := range samples() {
		state := uint64(i)
		var l [][]int
		visited := map[int]bool{}
		taken := map[[2]int]bool{}
		for n := range 4 {
			var w []int
			w, state, _ = random.Word(state, m.Inputs, n)
			l = append(l, w)
			for _, p := range wordset.Prefixes([][]int{w}) {
				visited[after(m, m.Start, p)] = true
			}
			for _, x := range takes(m, m.Start, w) {
				taken[x] = true
			}
			if states, transitions, e := cover.Covered(m, l); states != len(visited) || transitions != len(taken) || e != api.OK {
				t.Errorf("Covered of %v and %v returns %d, %d, %d, and not %d, %d", m, l, states, transitions, e, len(visited), len(taken))
			}
		}
	}
}

// P10.5: the error of the first word that has one.
func TestCoveredErrors(t *testing.T) {
	long := make([]int, api.MaxWord+1)
	for i, c := range []struct {
		words [][]int
		want  api.Errno
	}{
		{[][]int{{2}}, api.ErrInvalid},
		{[][]int{{0}, {1, -1}}, api.ErrInvalid},
		{[][]int{{math.MaxInt}, {0}}, api.ErrInvalid},
		{[][]int{long}, api.ErrTooLong},
		{[][]int{append([]int{2}, long...)}, api.ErrTooLong},
		{[][]int{{0}, {2}, long}, api.ErrInvalid},
		{[][]int{{0}, long, {2}}, api.ErrTooLong},
	} {
		if states, transitions, e := cover.Covered(gate(), c.words); states != 0 || transitions != 0 || e != c.want {
			t.Errorf("case %d: Covered returns %d, %d, %d", i, states, transitions, e)
		}
	}
}

// P10.1 to P10.5: the error of mealy.Valid comes first.
func TestInvalid(t *testing.T) {
	for i, m := range invalid() {
		want := mealy.Valid(m)
		states, l, e := cover.Access(m)
		l2, e2 := cover.StateCover(m)
		l3, e3 := cover.Transitions(m)
		w, ok, e4 := cover.Path(m, -1, -1)
		w2, e5 := cover.Tour(m)
		x, y, e6 := cover.Covered(m, [][]int{{-1}})
		if want == api.OK || e != want || e2 != want || e3 != want || e4 != want || e5 != want || e6 != want {
			t.Errorf("case %d: the errors are %d, %d, %d, %d, %d and %d, not %d", i, e, e2, e3, e4, e5, e6, want)
		}
		if len(states)+len(l)+len(l2)+len(l3)+len(w)+len(w2)+x+y != 0 || ok {
			t.Errorf("case %d: the results are %v, %v, %v, %v, %v, %v, %d, %d", i, states, l, l2, l3, w, w2, x, y)
		}
	}
}

// P10.6: no word that reaches a state is before its access word.
func TestNoEarlierWords(t *testing.T) {
	for _, m := range samples() {
		states, access, _ := cover.Access(m)
		for _, w := range words(m.Inputs, 5) {
			i := slices.Index(states, after(m, m.Start, w))
			if i < 0 || word.Compare(w, access[i]) < 0 {
				t.Errorf("Access of %v returns %v, %v, but there is the word %v", m, states, access, w)
			}
		}
	}
}

// P10.7: the words of Transitions, and that of Tour, cover everything that can be reached. A machine in which every state leads to every other one has a tour.
func TestCompleteWords(t *testing.T) {
	connected := 0
	for _, m := range samples() {
		states := len(mealy.Reach(m))
		l, _ := cover.Transitions(m)
		if x, y, e := cover.Covered(m, l); x != states || y != states*m.Inputs || e != api.OK {
			t.Errorf("Covered of %v and its Transitions returns %d, %d, %d", m, x, y, e)
		}
		tour, e := cover.Tour(m)
		if x, y, e2 := cover.Covered(m, [][]int{tour}); e == api.OK && (x != states || y != states*m.Inputs || e2 != api.OK) {
			t.Errorf("Covered of %v and its Tour returns %d, %d, %d", m, x, y, e2)
		}
		if together(m) {
			connected++
			if e != api.OK {
				t.Errorf("Tour of %v returns %d", m, e)
			}
		}
	}
	if connected < 10 {
		t.Errorf("only %d machines are connected", connected)
	}
}

// together reports whether each state of a machine can be reached from each other one.
func together(m api.Mealy) bool {
	for s := range m.Next {
		if len(mealy.Reach(started(m, s))) != len(m.Next) {
			return false
		}
	}
	return true
}

// R5: the arguments do not change, and results are new memory.
func TestMemory(t *testing.T) {
	m, w := example(), []int{0, 1, 9}
	l := [][]int{w[:2], w[:1]}
	cover.Covered(m, l)
	states, access, _ := cover.Access(m)
	states[0], access[1][0] = 7, 7
	access[1] = append(access[1], 7)
	all, _ := cover.Transitions(m)
	all[0][0], all[2] = 7, append(all[2][:1], 7)
	path, _, _ := cover.Path(m, 1, 0)
	tour, _ := cover.Tour(m)
	path[0], tour[0] = 7, 7
	if !mealy.Same(m, example()) || !slices.Equal(w, []int{0, 1, 9}) || len(l[0]) != 2 || len(l[1]) != 1 {
		t.Error("the arguments have become", m, l)
	}
	if !same(access[2:], [][]int{{1, 0}}) || !same(all[1:], [][]int{{1}, {1, 7}, {1, 1}, {1, 0, 0}, {1, 0, 1}}) {
		t.Error("the results have become", access, all)
	}
}
