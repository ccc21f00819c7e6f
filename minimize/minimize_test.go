package minimize_test

import (
	"math"
	"slices"
	"testing"

	"learner/api"
	"learner/mealy"
	"learner/minimize"
	"learner/random"
	"learner/word"
)

// gate returns the gate of the document: the inputs coin and push, and the outputs no, ok and turn.
func gate() api.Mealy {
	return api.Mealy{Inputs: 2, Next: [][]int{{1, 0}, {1, 0}}, Out: [][]int{{1, 0}, {1, 2}}}
}

// example returns the machine of the chapter's example.
func example() api.Mealy {
	return api.Mealy{Inputs: 1, Next: [][]int{{1}, {2}, {3}, {1}}, Out: [][]int{{0}, {0}, {1}, {0}}}
}

// ring returns a machine whose only input leads through all states, with the output x from the last one and 0 from the others.
func ring(states, x int) api.Mealy {
	m := api.Mealy{Inputs: 1}
	for s := range states {
		m.Next = append(m.Next, []int{(s + 1) % states})
		m.Out = append(m.Out, []int{0})
	}
	m.Out[states-1][0] = x
	return m
}

// wide returns a machine with all inputs, of which only the last one tells the two states apart.
func wide() api.Mealy {
	m := api.Mealy{Inputs: api.MaxInputs, Next: rows(2, api.MaxInputs, 0), Out: rows(2, api.MaxInputs, api.MaxOutput)}
	m.Next[0][5], m.Out[1][api.MaxInputs-1] = 1, 0
	return m
}

// drawn returns a random machine. With few outputs, many states are equivalent or hard to separate.
func drawn(state uint64, inputs, states, outputs int) api.Mealy {
	m := api.Mealy{Inputs: inputs}
	m.Start, state, _ = random.Below(state, states)
	for range states {
		var next, out []int
		next, state, _ = random.Word(state, states, inputs)
		out, state, _ = random.Word(state, outputs, inputs)
		m.Next = append(m.Next, next)
		m.Out = append(m.Out, out)
	}
	return m
}

// samples returns machines of different kinds.
func samples() []api.Mealy {
	all := []api.Mealy{gate(), example(), ring(1, 0), ring(4, 0), ring(5, 1), wide()}
	for state := range uint64(80) {
		m := drawn(state, 1+int(state%2), 1+int(state%6), 1+int(state%4))
		// A copy of the last state is equivalent to it, and often not reachable.
		last := len(m.Next) - 1
		m.Next = append(m.Next, slices.Clone(m.Next[last]))
		m.Out = append(m.Out, slices.Clone(m.Out[last]))
		all = append(all, m)
	}
	return all
}

// rows returns n lists of equal numbers.
func rows(n, inputs, x int) [][]int {
	var l [][]int
	for range n {
		l = append(l, slices.Repeat([]int{x}, inputs))
	}
	return l
}

// invalid returns machines that are not valid.
func invalid() []api.Mealy {
	short, far, loud, lost := gate(), gate(), gate(), gate()
	short.Out[1] = short.Out[1][:1]
	far.Next[1][1] = 2
	loud.Out[0][1] = api.MaxOutput + 1
	lost.Start = -1
	return []api.Mealy{
		{},
		{Inputs: 1},
		{Inputs: api.MaxInputs + 1, Next: rows(1, api.MaxInputs+1, 0), Out: rows(1, api.MaxInputs+1, 0)},
		ring(api.MaxStates+1, 1),
		{Inputs: 2, Next: [][]int{{0, 0}}},
		short, far, loud, lost,
	}
}

// separated reports whether a word of at most k symbols separates two states, by trying all words.
func separated(m api.Mealy, s, t, k int) bool {
	for w, ok := []int(nil), true; ok && len(w) <= k; w, ok = word.Next(w, m.Inputs) {
		x, _, _ := mealy.From(m, s, w)
		y, _, _ := mealy.From(m, t, w)
		if !slices.Equal(x, y) {
			return true
		}
	}
	return false
}

// tried returns the classes of k-equivalence, by trying all words.
func tried(m api.Mealy, k int) []int {
	var classes, least []int
	for s := range m.Next {
		class := slices.IndexFunc(least, func(t int) bool { return !separated(m, s, t, k) })
		if class < 0 {
			class = len(least)
			least = append(least, s)
		}
		classes = append(classes, class)
	}
	return classes
}

// P8.1: classes for each number of symbols, also for negative and very great numbers.
func TestPartition(t *testing.T) {
	for i, c := range []struct {
		m    api.Mealy
		k    int
		want []int
	}{
		{example(), math.MinInt, []int{0, 0, 0, 0}},
		{example(), -1, []int{0, 0, 0, 0}},
		{example(), 0, []int{0, 0, 0, 0}},
		{example(), 1, []int{0, 0, 1, 0}},
		{example(), 2, []int{0, 1, 2, 0}},
		{example(), 3, []int{0, 1, 2, 0}},
		{example(), math.MaxInt, []int{0, 1, 2, 0}},
		{gate(), 0, []int{0, 0}},
		{gate(), 1, []int{0, 1}},
		{wide(), 0, []int{0, 0}},
		{wide(), 1, []int{0, 1}},
		{ring(1, 5), 7, []int{0}},
		{ring(5, 1), 1, []int{0, 0, 0, 0, 1}},
		{ring(5, 1), 2, []int{0, 0, 0, 1, 2}},
		{ring(5, 1), 3, []int{0, 0, 1, 2, 3}},
		{ring(5, 1), 4, []int{0, 1, 2, 3, 4}},
		{ring(5, 0), 9, []int{0, 0, 0, 0, 0}},
		// Only a pair of an output and a class tells states apart: 0 and 1 have the same outputs, and lead to the same states in another order.
		{api.Mealy{Inputs: 2, Next: [][]int{{2, 3}, {3, 2}, {2, 2}, {3, 3}}, Out: [][]int{{0, 0}, {0, 0}, {1, 1}, {1, 2}}}, 2, []int{0, 1, 2, 3}},
		{api.Mealy{Inputs: 2, Next: [][]int{{0, 0}, {0, 0}}, Out: [][]int{{1, 2}, {2, 1}}}, 1, []int{0, 1}},
	} {
		if l, e := minimize.Partition(c.m, c.k); !slices.Equal(l, c.want) || e != api.OK {
			t.Errorf("case %d: Partition for %d returns %v, %d", i, c.k, l, e)
		}
	}
}

// P8.1, P8.4: the classes are those that all words of at most k symbols separate.
func TestPartitionTriesWords(t *testing.T) {
	for _, m := range samples() {
		if m.Inputs > 2 {
			continue
		}
		for k := range 7 {
			if l, e := minimize.Partition(m, k); !slices.Equal(l, tried(m, k)) || e != api.OK {
				t.Errorf("Partition of %v for %d returns %v, %d", m, k, l, e)
			}
		}
	}
}

// P8.2: classes of equivalent states; those that are not reachable count too.
func TestClasses(t *testing.T) {
	for i, c := range []struct {
		m     api.Mealy
		want  []int
		depth int
	}{
		{example(), []int{0, 1, 2, 0}, 2},
		{gate(), []int{0, 1}, 1},
		{wide(), []int{0, 1}, 1},
		{ring(1, 3), []int{0}, 0},
		{ring(4, 0), []int{0, 0, 0, 0}, 0},
		{ring(5, 1), []int{0, 1, 2, 3, 4}, 4},
		// Neither 1 nor 2 is reachable.
		{api.Mealy{Inputs: 1, Next: [][]int{{0}, {0}, {1}}, Out: [][]int{{0}, {1}, {0}}}, []int{0, 1, 2}, 2},
		{api.Mealy{Inputs: 1, Start: 2, Next: [][]int{{2}, {0}, {2}}, Out: [][]int{{0}, {0}, {0}}}, []int{0, 0, 0}, 0},
	} {
		l, e := minimize.Classes(c.m)
		depth, e2 := minimize.Depth(c.m)
		if !slices.Equal(l, c.want) || depth != c.depth || e != api.OK || e2 != api.OK {
			t.Errorf("case %d: Classes returns %v, %d, and Depth %d, %d", i, l, e, depth, e2)
		}
	}
}

// P8.1, P8.2: the longest words that can be needed.
func TestLongestWords(t *testing.T) {
	m := ring(api.MaxStates, 1)
	all := make([]int, api.MaxStates)
	for s := range all {
		all[s] = s
	}
	l, e := minimize.Classes(m)
	depth, e2 := minimize.Depth(m)
	if !slices.Equal(l, all) || depth != api.MaxStates-1 || e != api.OK || e2 != api.OK {
		t.Errorf("Classes returns %v, %d, and Depth %d, %d", l, e, depth, e2)
	}
	for k := range api.MaxStates {
		l, e := minimize.Partition(m, k)
		if e != api.OK || slices.Max(l) != k || l[0] != 0 || l[api.MaxStates-1-k] != 0 {
			t.Errorf("Partition for %d returns %v, %d", k, l, e)
		}
	}
}

// P8.2, P8.4: Depth is the least number for which Partition returns Classes, and less than the number of states; a greater one changes nothing.
func TestDepth(t *testing.T) {
	for _, m := range samples() {
		classes, _ := minimize.Classes(m)
		depth, e := minimize.Depth(m)
		if depth < 0 || depth >= len(m.Next) || e != api.OK {
			t.Errorf("Depth of %v returns %d, %d", m, depth, e)
		}
		for k := range len(m.Next) + 2 {
			if l, e := minimize.Partition(m, k); slices.Equal(l, classes) != (k >= depth) || e != api.OK {
				t.Errorf("Depth of %v returns %d, and Partition for %d %v, %d", m, depth, k, l, e)
			}
		}
	}
}

// P8.4: with a greater k, states in different classes stay in different classes.
func TestSmallerClasses(t *testing.T) {
	for _, m := range samples() {
		before, _ := minimize.Partition(m, 0)
		for k := 1; k < 8; k++ {
			l, _ := minimize.Partition(m, k)
			for s := range l {
				for r := range s {
					if l[s] == l[r] && before[s] != before[r] {
						t.Errorf("Partition of %v for %d joins the states %d and %d", m, k, r, s)
					}
				}
			}
			before = l
		}
	}
}

// P8.3: minimal machines, and whether machines are minimal.
func TestMin(t *testing.T) {
	unreachable := gate()
	unreachable.Next, unreachable.Out = append(unreachable.Next, []int{0, 1}), append(unreachable.Out, []int{7, 7})
	swapped := gate()
	swapped.Start = 1
	single := wide()
	single.Next[0][5] = 0
	for i, c := range []struct {
		m, want api.Mealy
		minimal bool
	}{
		{gate(), gate(), true},
		{example(), api.Mealy{Inputs: 1, Next: [][]int{{1}, {2}, {0}}, Out: [][]int{{0}, {0}, {1}}}, false},
		{unreachable, gate(), false},
		// Minimal machines need not have their states in the order of the access words.
		{swapped, api.Mealy{Inputs: 2, Next: [][]int{{0, 1}, {0, 1}}, Out: [][]int{{1, 2}, {1, 0}}}, true},
		{ring(1, 4), ring(1, 4), true},
		{ring(6, 0), ring(1, 0), false},
		{ring(api.MaxStates, 1), ring(api.MaxStates, 1), true},
		{wide(), wide(), true},
		{single, api.Mealy{Inputs: api.MaxInputs, Next: rows(1, api.MaxInputs, 0), Out: rows(1, api.MaxInputs, api.MaxOutput)}, false},
		{api.Mealy{Inputs: 2, Start: 2, Next: [][]int{{0, 0}, {2, 2}, {1, 2}}, Out: [][]int{{9, 9}, {1, 0}, {0, 0}}}, api.Mealy{Inputs: 2, Next: [][]int{{1, 0}, {0, 0}}, Out: [][]int{{0, 0}, {1, 0}}}, false},
		// The start is equivalent to a state before it.
		{api.Mealy{Inputs: 1, Start: 3, Next: [][]int{{1}, {2}, {0}, {1}}, Out: [][]int{{0}, {1}, {2}, {0}}}, api.Mealy{Inputs: 1, Next: [][]int{{1}, {2}, {0}}, Out: [][]int{{0}, {1}, {2}}}, false},
	} {
		if m, e := minimize.Min(c.m); !mealy.Same(m, c.want) || e != api.OK {
			t.Errorf("case %d: Min returns %v, %d", i, m, e)
		}
		if minimize.Minimal(c.m) != c.minimal {
			t.Errorf("case %d: Minimal does not return %t", i, c.minimal)
		}
	}
}

// P8.1 to P8.3: the errors are those of mealy.Valid.
func TestInvalid(t *testing.T) {
	for i, m := range invalid() {
		want := mealy.Valid(m)
		classes, e := minimize.Partition(m, -1)
		all, e2 := minimize.Classes(m)
		depth, e3 := minimize.Depth(m)
		least, e4 := minimize.Min(m)
		if want == api.OK || e != want || e2 != want || e3 != want || e4 != want {
			t.Errorf("case %d: the errors are %d, %d, %d and %d, not %d", i, e, e2, e3, e4, want)
		}
		if len(classes) != 0 || len(all) != 0 || depth != 0 || !mealy.Same(least, api.Mealy{}) || minimize.Minimal(m) {
			t.Errorf("case %d: the results are %v, %v, %d and %v", i, classes, all, depth, least)
		}
	}
}

// P8.5: Min is minimal, with its states in the order of the access words, and has the output words of the machine.
func TestMinimalMachines(t *testing.T) {
	for _, m := range samples() {
		least, e := minimize.Min(m)
		trimmed, e2 := mealy.Trim(least)
		again, e3 := minimize.Min(least)
		if !mealy.Same(trimmed, least) || !mealy.Same(again, least) || e != api.OK || e2 != api.OK || e3 != api.OK {
			t.Errorf("Min of %v returns %v, and then %v", m, least, again)
		}
		if !minimize.Minimal(least) || minimize.Minimal(m) != (len(least.Next) == len(m.Next)) {
			t.Errorf("Minimal does not fit Min of %v", m)
		}
		for w, ok := []int(nil), true; ok && len(w) < 8 && m.Inputs < 3; w, ok = word.Next(w, m.Inputs) {
			x, _ := mealy.Run(m, w)
			y, _ := mealy.Run(least, w)
			if !slices.Equal(x, y) {
				t.Errorf("Min of %v returns %v: the word %v has the outputs %v and %v", m, least, w, x, y)
			}
		}
		for s := range least.Next {
			for r := range s {
				if least.Inputs < 3 && !separated(least, r, s, len(least.Next)) {
					t.Errorf("Min of %v returns %v with equivalent states", m, least)
				}
			}
		}
	}
}

// exchanged returns m with other numbers of its states.
func exchanged(m api.Mealy, state uint64) api.Mealy {
	n := len(m.Next)
	number, _, _ := random.Shuffle(state, n)
	x := api.Mealy{Inputs: m.Inputs, Start: number[m.Start], Next: rows(n, m.Inputs, 0), Out: rows(n, m.Inputs, 0)}
	for s := range n {
		for a := range m.Inputs {
			x.Next[number[s]][a], x.Out[number[s]][a] = number[m.Next[s][a]], m.Out[s][a]
		}
	}
	return x
}

// P8.5: the numbers of the states do not matter.
func TestMinOfExchangedStates(t *testing.T) {
	for i, m := range append(samples(), drawn(1, 3, api.MaxStates, 2), drawn(2, 1, api.MaxStates, 2)) {
		other := exchanged(m, uint64(i))
		x, e := minimize.Min(m)
		y, e2 := minimize.Min(other)
		if !mealy.Same(x, y) || e != api.OK || e2 != api.OK || minimize.Minimal(m) != minimize.Minimal(other) {
			t.Errorf("Min of %v returns %v, and that of %v returns %v", m, x, other, y)
		}
	}
}

// R5: the machine does not change, and the result is new memory.
func TestMemory(t *testing.T) {
	m := gate()
	least, _ := minimize.Min(m)
	least.Next[0][0], least.Out[1][1] = 7, 7
	least.Next[0] = append(least.Next[0], 7)
	classes, _ := minimize.Classes(m)
	classes[0] = 7
	if !mealy.Same(m, gate()) {
		t.Error("the machine has become", m)
	}
	if !slices.Equal(least.Next[1], []int{1, 0}) || !slices.Equal(least.Out[0], []int{1, 0}) {
		t.Error("the result has become", least)
	}
}
