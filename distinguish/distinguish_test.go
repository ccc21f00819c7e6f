package distinguish_test

import (
	"math"
	"slices"
	"testing"

	"learner/api"
	"learner/distinguish"
	"learner/mealy"
	"learner/minimize"
	"learner/random"
	"learner/word"
)

// gate returns the gate of the document: the inputs coin and push, and the outputs no, ok and turn.
func gate() api.Mealy {
	return api.Mealy{Inputs: 2, Next: [][]int{{1, 0}, {1, 0}}, Out: [][]int{{1, 0}, {1, 2}}}
}

// changed returns the gate after a change.
func changed(change func(m *api.Mealy)) api.Mealy {
	m := gate()
	change(&m)
	return m
}

// ring returns a machine whose only input leads through all states, with an output from each of them.
func ring(outputs ...int) api.Mealy {
	m := api.Mealy{Inputs: 1}
	for s, output := range outputs {
		m.Next = append(m.Next, []int{(s + 1) % len(outputs)})
		m.Out = append(m.Out, []int{output})
	}
	return m
}

// rows returns n lists of equal numbers.
func rows(n, inputs, x int) [][]int {
	var l [][]int
	for range n {
		l = append(l, slices.Repeat([]int{x}, inputs))
	}
	return l
}

// drawn returns a random machine.
func drawn(state uint64, inputs, states, outputs int) api.Mealy {
	m := api.Mealy{Inputs: inputs}
	m.Start, state, _ = random.Below(state, states)
	for range states {
		var next, out []int
		next, state, _ = random.Word(state, states, inputs)
		out, state, _ = random.Word(state, outputs, inputs)
		m.Next = append(m.Next, next)
		m.Out = append(m.Out, out)
	}
	return m
}

// shuffled returns a random machine in which each input leads to different states from different states, and shows few differences.
func shuffled(state uint64, inputs, states int) api.Mealy {
	m := api.Mealy{Inputs: inputs, Next: rows(states, inputs, 0), Out: rows(states, inputs, 0)}
	for a := range inputs {
		var order []int
		var marked int
		order, state, _ = random.Shuffle(state, states)
		marked, state, _ = random.Below(state, states)
		for s, next := range order {
			m.Next[s][a] = next
		}
		m.Out[marked][a] = 1
	}
	return m
}

// minimals returns small minimal machines, whose states have any order.
func minimals() []api.Mealy {
	all := []api.Mealy{gate(), ring(5), ring(0, 0, 1), ring(0, 1, 0, 1, 1), lost(), merging()}
	for state := range uint64(300) {
		states := 1 + int(state%6)
		for _, m := range []api.Mealy{drawn(state, 1+int(state%3), states, 2), drawn(state, 3, states, 3), shuffled(state, 2, states)} {
			if minimize.Minimal(m) {
				all = append(all, m)
			}
		}
	}
	return all
}

// lost returns a machine for which no input is safe.
func lost() api.Mealy {
	return api.Mealy{Inputs: 2, Next: [][]int{{2, 1}, {0, 0}, {0, 1}}, Out: [][]int{{1, 0}, {0, 1}, {0, 0}}}
}

// merging returns a machine whose input 0 makes the states 1 and 2 equal, with outputs that differ, and shows the state 0. The input 1 exchanges the states 0 and 1.
func merging() api.Mealy {
	return api.Mealy{Inputs: 2, Next: [][]int{{2, 1}, {0, 0}, {0, 2}}, Out: [][]int{{2, 0}, {0, 0}, {1, 0}}}
}

// leaf returns a node without an input.
func leaf(states ...int) api.AdsNode {
	return api.AdsNode{States: states, Input: -1}
}

// inner returns a node. Its kids have the outputs and numbers that follow each other.
func inner(input int, states []int, kids ...int) api.AdsNode {
	x := api.AdsNode{States: states, Input: input}
	for i := 0; i < len(kids); i += 2 {
		x.Kids = append(x.Kids, api.AdsKid{Out: kids[i], To: kids[i+1]})
	}
	return x
}

// tree returns a tree.
func tree(nodes ...api.AdsNode) api.Ads {
	return api.Ads{Nodes: nodes}
}

// three returns the tree of the chapter's examples, for the ring with the outputs 0, 0, 1.
func three() api.Ads {
	return tree(inner(0, []int{0, 1, 2}, 0, 1, 1, 4), inner(0, []int{0, 1}, 0, 2, 1, 3), leaf(0), leaf(1), leaf(2))
}

// same reports whether two trees are equal.
func same(a, b api.Ads) bool {
	return slices.EqualFunc(a.Nodes, b.Nodes, func(x, y api.AdsNode) bool {
		return x.Input == y.Input && slices.Equal(x.States, y.States) && slices.Equal(x.Kids, y.Kids)
	})
}

// steps returns the output word of a word from a state, and the state after it.
func steps(m api.Mealy, s int, w []int) ([]int, int) {
	out, next, _ := mealy.From(m, s, w)
	return out, next
}

// P12.1, P12.2, P12.3: examples.
func TestBuild(t *testing.T) {
	pair := []int{0, 1}
	// The current states of 0 and 1 after the first input are 1 and 0, so that the states of the nodes are ascending, and not these.
	turned := api.Mealy{Inputs: 2, Next: [][]int{{1, 2}, {0, 1}, {2, 2}}, Out: [][]int{{0, 0}, {0, 1}, {1, 0}}}
	for i, c := range []struct {
		m     api.Mealy
		want  api.Ads
		ok    bool
		depth int
	}{
		{gate(), tree(inner(1, pair, 0, 1, 2, 2), leaf(0), leaf(1)), true, 1},
		{ring(0, 0, 1), three(), true, 2},
		{ring(5), tree(leaf(0)), true, 0},
		{lost(), tree(leaf(0, 1, 2)), false, 0},
		{merging(), tree(inner(0, []int{0, 1, 2}, 0, 1, 1, 2, 2, 3), leaf(1), leaf(2), leaf(0)), true, 1},
		// The input 1 is not safe for all states, and later it is.
		{turned, tree(inner(0, []int{0, 1, 2}, 0, 1, 1, 4), inner(1, pair, 0, 2, 1, 3), leaf(1), leaf(0), leaf(2)), true, 2},
		// The chains have one kid each: the input shows nothing the first time.
		{ring(0, 1, 0, 1, 1), tree(
			inner(0, []int{0, 1, 2, 3, 4}, 0, 1, 1, 5),
			inner(0, []int{0, 2}, 1, 2), inner(0, []int{0, 2}, 0, 3, 1, 4), leaf(0), leaf(2),
			inner(0, []int{1, 3, 4}, 0, 6, 1, 10), inner(0, []int{1, 4}, 1, 7), inner(0, []int{1, 4}, 0, 8, 1, 9), leaf(4), leaf(1), leaf(3)), true, 4},
	} {
		got, ok, e := distinguish.Build(c.m)
		if !same(got, c.want) || ok != c.ok || e != api.OK {
			t.Errorf("case %d: Build returns %v, %t, %d", i, got, ok, e)
		}
		if e := distinguish.Check(c.m, c.want); e != api.OK {
			t.Errorf("case %d: Check returns %d", i, e)
		}
		if ok, depth := distinguish.Complete(c.want), distinguish.Depth(c.want); ok != c.ok || depth != c.depth {
			t.Errorf("case %d: Complete returns %t, and Depth %d", i, ok, depth)
		}
	}
}

// separating reports whether a word is safe for a list of states, and whether their output words are not all the same.
func separating(m api.Mealy, list, w []int) (bool, bool) {
	safe, different := true, false
	for n := range len(w) + 1 {
		for i, s := range list {
			for _, t := range list[:i] {
				out, next := steps(m, s, w[:n])
				other, after := steps(m, t, w[:n])
				different = different || !slices.Equal(out, other)
				safe = safe && (next != after || !slices.Equal(out, other))
			}
		}
	}
	return safe, different
}

// tried returns the first word of at most n symbols that is safe for a list of states and has different output words, by trying all words.
func tried(m api.Mealy, list []int, n int) []int {
	for w, ok := []int(nil), true; ok && len(w) <= n; w, ok = word.Next(w, m.Inputs) {
		if safe, different := separating(m, list, w); safe && different {
			return w
		}
	}
	return nil
}

// grow returns a list of nodes with the node of a list of states and all nodes below it. A word before led to the current states of the list, and the word w leads on.
func grow(m api.Mealy, nodes []api.AdsNode, states, before, w []int, n int) []api.AdsNode {
	var current []int
	for _, s := range states {
		_, next := steps(m, s, before)
		current = append(current, next)
	}
	if len(w) == 0 && len(states) > 1 {
		w = tried(m, current, n)
	}
	number := len(nodes)
	nodes = append(nodes, leaf(states...))
	if len(w) == 0 {
		return nodes
	}
	nodes[number].Input = w[0]
	for _, out := range mealy.Outputs(m) {
		var some []int
		for i, s := range current {
			if m.Out[s][w[0]] == out {
				some = append(some, states[i])
			}
		}
		if len(some) > 0 {
			nodes[number].Kids = append(nodes[number].Kids, api.AdsKid{Out: out, To: len(nodes)})
			nodes = grow(m, nodes, some, word.Join(before, w[:1]), w[1:], n)
		}
	}
	return nodes
}

// everything returns the states of a machine.
func everything(m api.Mealy) []int {
	var states []int
	for s := range m.Next {
		states = append(states, s)
	}
	return states
}

// P12.1: the words are the first ones of all words.
func TestBuildTriesWords(t *testing.T) {
	depths := map[int]int{}
	for _, m := range minimals() {
		// None of these machines needs longer words.
		want := tree(grow(m, nil, everything(m), nil, nil, 8-m.Inputs)...)
		got, ok, e := distinguish.Build(m)
		if !same(got, want) || ok != distinguish.Complete(want) || e != api.OK {
			t.Errorf("Build of %v returns %v, %t, %d, and not %v", m, got, ok, e, want)
		}
		depths[distinguish.Depth(got)]++
	}
	for depth := range 6 {
		if depths[depth] == 0 {
			t.Error("the depths of the trees are", depths)
		}
	}
}

// solvable reports whether a machine has an adaptive distinguishing sequence: it finds all sets of states, as bits, whose states can be told apart.
func solvable(m api.Mealy) bool {
	sets := make([]bool, 1<<len(m.Next))
	for grown := true; grown; {
		grown = false
		for set := range sets {
			if !sets[set] && solved(m, sets, set) {
				sets[set], grown = true, true
			}
		}
	}
	return sets[len(sets)-1]
}

// solved reports whether a set has at most one state, or an input after which the states are different and in sets that are solved.
func solved(m api.Mealy, sets []bool, set int) bool {
	if set&(set-1) == 0 {
		return true
	}
	for a := range m.Inputs {
		ok := true
		after := map[int]int{}
		for s := range m.Next {
			if set>>s&1 == 0 {
				continue
			}
			next := 1 << m.Next[s][a]
			ok = ok && after[m.Out[s][a]]&next == 0
			after[m.Out[s][a]] |= next
		}
		for _, rest := range after {
			ok = ok && sets[rest] && rest != set
		}
		if ok {
			return true
		}
	}
	return false
}

// P12.5, P12.7: what Build returns is right, and it is complete just if there is an adaptive distinguishing sequence.
func TestBuildCompletes(t *testing.T) {
	answers := map[bool]int{}
	for _, m := range minimals() {
		x, ok, e := distinguish.Build(m)
		if ok != solvable(m) || ok != distinguish.Complete(x) || e != api.OK {
			t.Errorf("Build of %v returns %v, %t, %d", m, x, ok, e)
		}
		if e := distinguish.Check(m, x); e != api.OK {
			t.Errorf("Check of %v and %v returns %d", m, x, e)
		}
		answers[ok]++
	}
	if answers[true] < 40 || answers[false] < 40 {
		t.Error("the machines have the answers", answers)
	}
	// Two states with the same output and the same next state are equivalent.
	if x, ok, e := distinguish.Build(api.Mealy{Inputs: 1, Next: [][]int{{1}, {2}, {2}}, Out: [][]int{{1}, {0}, {0}}}); len(x.Nodes) != 0 || ok || e != api.ErrInvalid {
		t.Errorf("Build returns %v, %t, %d", x, ok, e)
	}
}

// P12.4, P12.6: the ways of all states through the trees. States with different leaves have different outputs at the node where they part.
func TestWordsOfTrees(t *testing.T) {
	for _, m := range minimals() {
		x, _, _ := distinguish.Build(m)
		words, leaves := make([][]int, len(m.Next)), make([]int, len(m.Next))
		for s := range m.Next {
			w, number, e := distinguish.Word(m, x, s)
			if e != api.OK || number < 0 || number >= len(x.Nodes) || x.Nodes[number].Input != -1 || !slices.Contains(x.Nodes[number].States, s) {
				t.Fatalf("Word of %v and %v for %d returns %v, %d, %d", m, x, s, w, number, e)
			}
			words[s], leaves[s] = w, number
		}
		for s, w := range words {
			for r, v := range words[:s] {
				shared := w[:word.Common(w, v)]
				out, _ := steps(m, s, shared)
				other, _ := steps(m, r, shared)
				if slices.Equal(out, other) != (leaves[s] == leaves[r]) || leaves[s] == leaves[r] && !slices.Equal(w, v) {
					t.Errorf("Word of %v and %v for %d and %d returns %v, %d and %v, %d", m, x, r, s, v, leaves[r], w, leaves[s])
				}
				if n := word.Common(out, other); n < len(out) && leaves[s] != leaves[r] {
					followed(t, m, x, [2]int{r, s}, w[:n+1])
				}
			}
		}
	}
}

// followed checks that a word is the one of the inputs up to the node where two states part.
func followed(t *testing.T, m api.Mealy, x api.Ads, states [2]int, w []int) {
	number := 0
	for i, input := range w {
		node := x.Nodes[number]
		if node.Input != input || !slices.Contains(node.States, states[0]) || !slices.Contains(node.States, states[1]) {
			t.Errorf("the states %v are not at the node %d of %v", states, number, x)
			return
		}
		out, _ := steps(m, states[0], w[:i+1])
		for _, kid := range node.Kids {
			if kid.Out == out[i] {
				number = kid.To
			}
		}
	}
	if slices.Contains(x.Nodes[number].States, states[1]) {
		t.Errorf("the states %v do not part before the node %d of %v", states, number, x)
	}
}

// P12.4: the inputs and leaves of a tree, also of one that Build does not return.
func TestWord(t *testing.T) {
	states := []int{0, 1, 2}
	exchanged := tree(inner(1, states, 0, 1), inner(0, states, 0, 2, 1, 3, 2, 5), leaf(0), inner(1, []int{2}, 0, 4), leaf(2), leaf(1))
	pruned := tree(inner(0, states, 0, 1, 1, 2), leaf(0, 1), leaf(2))
	for i, c := range []struct {
		m    api.Mealy
		x    api.Ads
		s    int
		want []int
		leaf int
	}{
		{ring(0, 0, 1), three(), 0, []int{0, 0}, 2},
		{ring(0, 0, 1), three(), 1, []int{0, 0}, 3},
		{ring(0, 0, 1), three(), 2, []int{0}, 4},
		{ring(0, 0, 1), pruned, 0, []int{0}, 1},
		{ring(0, 0, 1), pruned, 1, []int{0}, 1},
		{ring(0, 0, 1), pruned, 2, []int{0}, 2},
		{ring(0, 0, 1), tree(leaf(0, 1, 2)), 2, nil, 0},
		{ring(5), tree(leaf(0)), 0, nil, 0},
		{merging(), exchanged, 0, []int{1, 0}, 2},
		{merging(), exchanged, 1, []int{1, 0}, 5},
		{merging(), exchanged, 2, []int{1, 0, 1}, 4},
	} {
		if w, number, e := distinguish.Word(c.m, c.x, c.s); !slices.Equal(w, c.want) || number != c.leaf || e != api.OK {
			t.Errorf("case %d: Word for %d returns %v, %d, %d", i, c.s, w, number, e)
		}
	}
	for _, s := range []int{-1, 3, math.MaxInt, math.MinInt} {
		if w, number, e := distinguish.Word(ring(0, 0, 1), three(), s); len(w) != 0 || number != 0 || e != api.ErrRange {
			t.Errorf("Word for %d returns %v, %d, %d", s, w, number, e)
		}
		if w, number, e := distinguish.Word(ring(0, 0, 1), tree(), s); len(w) != 0 || number != 0 || e != api.ErrInvalid {
			t.Errorf("Word for %d and no tree returns %v, %d, %d", s, w, number, e)
		}
	}
}

// line returns a tree for a machine with one state, with n nodes.
func line(n int) api.Ads {
	var x api.Ads
	for i := 1; i < n; i++ {
		x.Nodes = append(x.Nodes, inner(0, []int{0}, 5, i))
	}
	x.Nodes = append(x.Nodes, leaf(0))
	return x
}

// P12.2: trees that are right, though Build does not return them.
func TestCheckAccepts(t *testing.T) {
	states := []int{0, 1, 2}
	for i, c := range []struct {
		m api.Mealy
		x api.Ads
	}{
		{ring(0, 0, 1), tree(leaf(0, 1, 2))},
		{ring(0, 0, 1), tree(inner(0, states, 0, 1, 1, 2), leaf(0, 1), leaf(2))},
		{ring(0, 0, 1), tree(inner(0, states, 0, 1, 1, 2), leaf(0, 1), inner(0, []int{2}, 0, 3), leaf(2))},
		{lost(), tree(leaf(0, 1, 2))},
		{merging(), tree(inner(1, states, 0, 1), leaf(0, 1, 2))},
		{merging(), tree(inner(1, states, 0, 1), inner(0, states, 0, 2, 1, 3, 2, 4), leaf(0), leaf(2), leaf(1))},
		{ring(5), line(2)},
		{ring(5), line(api.MaxNodes)},
	} {
		if e := distinguish.Check(c.m, c.x); e != api.OK {
			t.Errorf("case %d: Check returns %d", i, e)
		}
	}
	w, number, e := distinguish.Word(ring(5), line(api.MaxNodes), 0)
	if len(w) != api.MaxNodes-1 || number != api.MaxNodes-1 || e != api.OK {
		t.Errorf("Word returns %d symbols, %d, %d", len(w), number, e)
	}
}

// P12.2: trees that are not right.
func TestCheckRejects(t *testing.T) {
	states, pair := []int{0, 1, 2}, []int{0, 1}
	odd := leaf(0, 1, 2)
	odd.Input = -2
	busy := leaf(0, 1, 2)
	busy.Kids = []api.AdsKid{{Out: 0, To: 1}}
	for i, c := range []struct {
		m api.Mealy
		x api.Ads
	}{
		{ring(0, 0, 1), tree()},
		// The root.
		{ring(0, 0, 1), tree(leaf(0, 1))},
		{ring(0, 0, 1), tree(leaf(0, 1, 2, 3))},
		{ring(0, 0, 1), tree(leaf(0, 2, 1))},
		{ring(0, 0, 1), tree(leaf(0, 1, 1, 2))},
		{ring(0, 0, 1), tree(leaf())},
		{ring(5), tree(leaf())},
		// Inputs.
		{ring(0, 0, 1), tree(odd)},
		{ring(0, 0, 1), tree(busy)},
		{ring(0, 0, 1), tree(inner(0, states))},
		{ring(0, 0, 1), tree(inner(1, states, 0, 1, 1, 2), leaf(0, 1), leaf(2))},
		{ring(0, 0, 1), tree(inner(math.MaxInt, states, 0, 1, 1, 2), leaf(0, 1), leaf(2))},
		{ring(0, 0, 1), tree(inner(math.MinInt, states, 0, 1, 1, 2), leaf(0, 1), leaf(2))},
		{ring(0, 0, 1), tree(inner(-1, states, 0, 1, 1, 2), leaf(0, 1), leaf(2))},
		// States of kids.
		{ring(0, 0, 1), tree(inner(0, states, 0, 1, 1, 2), leaf(1, 2), leaf(2))},
		{ring(0, 0, 1), tree(inner(0, states, 0, 1, 1, 2), leaf(1, 0), leaf(2))},
		{ring(0, 0, 1), tree(inner(0, states, 0, 1, 1, 2), leaf(0), leaf(2))},
		{ring(0, 0, 1), tree(inner(0, states, 0, 1, 1, 2), leaf(2), leaf(0, 1))},
		// Outputs of kids.
		{ring(0, 0, 1), tree(inner(0, states, 0, 1), leaf(0, 1))},
		{ring(0, 0, 1), tree(inner(0, states, 0, 1), leaf(0, 1), leaf(2))},
		{ring(0, 0, 1), tree(inner(0, states, 0, 1, 2, 2), leaf(0, 1), leaf(2))},
		{ring(0, 0, 1), tree(inner(0, states, 1, 1, 0, 2), leaf(2), leaf(0, 1))},
		{ring(0, 0, 1), tree(inner(0, states, 0, 1, 1, 2, 2, 3), leaf(0, 1), leaf(2), leaf())},
		{ring(0, 0, 1), tree(inner(0, states, 0, 1, 0, 1, 1, 2), leaf(0, 1), leaf(2))},
		// Numbers of kids, and their order.
		{ring(0, 0, 1), tree(inner(0, states, 0, 1, 1, 3), leaf(0, 1), leaf(2))},
		{ring(0, 0, 1), tree(inner(0, states, 0, 1, 1, -2), leaf(0, 1), leaf(2))},
		{ring(0, 0, 1), tree(inner(0, states, 0, 1, 1, math.MaxInt), leaf(0, 1), leaf(2))},
		{ring(0, 0, 1), tree(inner(0, states, 0, 2, 1, 1), leaf(2), leaf(0, 1))},
		{ring(0, 0, 1), tree(inner(0, states, 0, 1, 1, 1), leaf(0, 1), leaf(2))},
		{ring(0, 0, 1), tree(inner(0, states, 0, 0, 1, 1), leaf(2))},
		{ring(0, 0, 1), tree(inner(0, states, 0, 1, 1, 2), inner(0, pair, 0, 3, 1, 4), leaf(2), leaf(0), leaf(1))},
		{ring(0, 0, 1), tree(inner(0, states, 0, 1, 1, 4), inner(0, pair, 0, 3, 1, 2), leaf(1), leaf(0), leaf(2))},
		{ring(0, 0, 1), tree(inner(0, states, 0, 2, 1, 3), leaf(0), leaf(0, 1), leaf(2))},
		// Nodes that no way leads to, and nodes that are missing.
		{ring(0, 0, 1), tree(inner(0, states, 0, 1, 1, 2), leaf(0, 1), leaf(2), leaf(2))},
		{ring(0, 0, 1), tree(leaf(0, 1, 2), leaf(0, 1, 2))},
		{ring(0, 0, 1), tree(inner(0, states, 0, 1, 1, 2), leaf(0, 1))},
		{ring(0, 0, 1), tree(inner(0, states, 0, 1, 1, 2))},
		// Current states that are equal: at a leaf, and behind it.
		{lost(), tree(inner(0, states, 0, 1, 1, 2), leaf(1, 2), leaf(0))},
		{lost(), tree(inner(0, states, 0, 1, 1, 3), inner(0, []int{1, 2}, 1, 2), leaf(1, 2), leaf(0))},
		// Too many nodes.
		{ring(5), line(api.MaxNodes + 1)},
	} {
		if e := distinguish.Check(c.m, c.x); e != api.ErrInvalid {
			t.Errorf("case %d: Check returns %d", i, e)
		}
		if w, number, e := distinguish.Word(c.m, c.x, 0); len(w) != 0 || number != 0 || e != api.ErrInvalid {
			t.Errorf("case %d: Word returns %v, %d, %d", i, w, number, e)
		}
	}
}

// P12.2: the tree of another machine is right just if all states find their ways through it.
func TestCheckOthers(t *testing.T) {
	machines := minimals()
	accepted := 0
	for i, m := range machines {
		for _, other := range machines[max(0, i-20):i] {
			x, _, _ := distinguish.Build(other)
			e := distinguish.Check(m, x)
			if want := described(m, x); (e == api.OK) != want || !want && e != api.ErrInvalid {
				t.Errorf("Check of %v and %v returns %d", m, x, e)
			}
			if e == api.OK && len(x.Nodes) > 1 {
				accepted++
			}
		}
	}
	if accepted < 10 {
		t.Error("only", accepted, "trees of other machines are right")
	}
}

// described reports whether each state of a machine leads to nodes that contain it, in a tree that is right for another machine, and the current states are different there.
func described(m api.Mealy, x api.Ads) bool {
	for s := range m.Next {
		number, w := 0, []int(nil)
		for {
			if number >= len(x.Nodes) || !slices.Contains(x.Nodes[number].States, s) || slices.Max(x.Nodes[number].States) >= len(m.Next) {
				return false
			}
			node := x.Nodes[number]
			for _, r := range node.States {
				out, next := steps(m, s, w)
				other, after := steps(m, r, w)
				if !slices.Equal(out, other) || r != s && next == after {
					return false
				}
			}
			if node.Input < 0 {
				break
			}
			if node.Input >= m.Inputs {
				return false
			}
			w = append(w, node.Input)
			out, _ := steps(m, s, w)
			i := slices.IndexFunc(node.Kids, func(kid api.AdsKid) bool { return kid.Out == out[len(w)-1] })
			if i < 0 {
				return false
			}
			number = node.Kids[i].To
		}
	}
	return true
}

// P12.3: trees that are not right for any machine.
func TestCompleteAndDepth(t *testing.T) {
	long := make([]api.AdsNode, 100000)
	// Each node leads to the two following ones, so that there are far too many ways to follow each of them.
	wide := make([]api.AdsNode, 200)
	for i := range long {
		long[i] = inner(0, nil, 0, i+1)
	}
	for i := range wide {
		wide[i] = inner(0, nil, 0, i+2, 0, i+1, 0, i+1)
	}
	input := leaf()
	input.Input = -2
	for i, c := range []struct {
		x     api.Ads
		ok    bool
		depth int
	}{
		{tree(), false, 0},
		{tree(leaf()), false, 0},
		{tree(leaf(9)), true, 0},
		{tree(leaf(-1)), true, 0},
		{tree(leaf(3, 3)), false, 0},
		{tree(input), true, 0},
		{tree(inner(7, nil)), true, 0},
		{three(), true, 2},
		// Leaves that no way leads to count for Complete only.
		{tree(leaf(0), leaf()), false, 0},
		{tree(leaf(0), inner(0, nil, 0, 2), leaf(1)), true, 0},
		{tree(leaf(0), inner(0, nil, 0, 2), inner(0, nil, 0, 3), inner(0, nil, 0, 4), leaf(1)), true, 0},
		{tree(inner(0, nil, 0, 2), inner(0, nil, 0, 2), inner(0, nil, 0, 3), leaf(1, 2)), false, 2},
		// Kids of a leaf count; kids with other numbers do not.
		{tree(api.AdsNode{States: []int{1}, Input: -1, Kids: []api.AdsKid{{To: 1}}}, leaf(1)), true, 1},
		{tree(inner(0, nil, 0, 0, 0, -1, 0, 1, 0, math.MinInt), leaf(1)), true, 1},
		{tree(inner(0, nil, 0, 2, 1, 1, 0, math.MaxInt), inner(0, nil, 0, 0, 0, 1)), true, 1},
		{tree(inner(0, nil, 0, 0, 0, 1, 0, 7, 0, -1), inner(0, nil, 0, 0, 0, 2), inner(0, nil, 0, 1)), true, 2},
		// The longer one of two ways counts, whichever is first.
		{tree(inner(0, nil, 0, 2, 1, 1), inner(0, nil, 0, 2), inner(0, nil, 0, 3), leaf(1)), true, 3},
		{tree(inner(0, nil, 0, 1, 1, 3), inner(0, nil, 0, 2), inner(0, nil, 0, 3), leaf(1)), true, 3},
		{tree(inner(0, nil, 0, 1, 1, 3), leaf(1), inner(0, nil, 0, 3), inner(0, nil, 0, 4), leaf(1)), true, 2},
		{tree(inner(0, nil, 0, 1, 1, 3), inner(0, nil, 0, 2), inner(0, nil, 0, 4), inner(0, nil, 0, 4), leaf(1)), true, 3},
		{tree(long...), true, len(long) - 1},
		{tree(wide...), true, len(wide) - 1},
		{line(api.MaxNodes + 1), true, api.MaxNodes},
	} {
		if ok, depth := distinguish.Complete(c.x), distinguish.Depth(c.x); ok != c.ok || depth != c.depth {
			t.Errorf("case %d: Complete returns %t, and Depth %d", i, ok, depth)
		}
	}
}

// lock returns a machine with three wheels of some positions, and a pillar for each of them. The state 0 is a key of the first wheel, and 3 one of the first pillar; 6 is this pillar.
//
// The input 0 leads from a key to the position 0 of its wheel, or to its pillar, with the output 0; the other states stay, with the output 1. So the tree has a node with the keys, whose current states are three positions and the pillars. Each list of moves is an input that moves these wheels by one position. The last input makes each wheel equal to its pillar, unless the wheel has the position that is open, so that it is safe for these states just if all wheels have these positions. It is never safe for all positions.
func lock(wheels, open [3]int, moves ...[]int) api.Mealy {
	last := len(moves) + 1
	n := 9 + wheels[0] + wheels[1] + wheels[2]
	m := api.Mealy{Inputs: last + 1, Next: rows(n, last+1, 0), Out: rows(n, last+1, 0)}
	for s, next := range m.Next {
		for a := range last {
			next[a] = s
		}
		m.Out[s][0] = 1
	}
	for k := range 6 {
		m.Next[k][last], m.Out[k][last], m.Out[k][0] = (k+1)%6, 3, 0
	}
	first := 9
	for k, positions := range wheels {
		m.Next[k][0], m.Next[3+k][0] = first, 6+k
		m.Next[6+k][last], m.Out[6+k][last] = 6+k, k
		for i := range positions {
			m.Next[first+i][last], m.Out[first+i][last] = 6+k, k
			for a, turned := range moves {
				if slices.Contains(turned, k) {
					m.Next[first+i][a+1] = first + (i+1)%positions
				}
			}
		}
		m.Next[first+open[k]][last] = k
		first += positions
	}
	return m
}

// turns returns the number of lists of positions that a search finds, up to the examination of those that are open, if each wheel has an input of its own.
func turns(wheels, open [3]int) int {
	found := [][3]int{{}}
	seen := map[[3]int]bool{{}: true}
	for i := 0; ; i++ {
		for k := range wheels {
			next := found[i]
			next[k] = (next[k] + 1) % wheels[k]
			if !seen[next] {
				seen[next] = true
				found = append(found, next)
			}
		}
		if found[i] == open {
			return len(found)
		}
	}
}

// P12.1: a search is cut when a list would be added to MaxNodes lists, and goes on as long as no list is added.
func TestBuildCutsSearches(t *testing.T) {
	all, more := [3]int{16, 16, 16}, [3]int{16, 16, 17}
	for i, c := range []struct {
		wheels, open [3]int
		lists        int
	}{
		{more, [3]int{1, 2, 1}, 48},
		{more, [3]int{13, 8, 14}, api.MaxNodes - 1},
		{more, [3]int{13, 7, 15}, api.MaxNodes},
		{more, [3]int{13, 6, 16}, api.MaxNodes},
		{all, [3]int{15, 15, 15}, api.MaxNodes},
		{more, [3]int{12, 15, 8}, api.MaxNodes + 1},
		{more, [3]int{12, 14, 9}, api.MaxNodes + 2},
		{more, [3]int{15, 15, 16}, 16 * 16 * 17},
	} {
		if count := turns(c.wheels, c.open); count != c.lists {
			t.Errorf("case %d: %d lists", i, count)
		}
		m := lock(c.wheels, c.open, []int{0}, []int{1}, []int{2})
		x, ok, e := distinguish.Build(m)
		if !minimize.Minimal(m) || ok || e != api.OK || distinguish.Check(m, x) != api.OK {
			t.Fatalf("case %d: Build returns %v, %t, %d", i, x, ok, e)
		}
		// The node of the keys is the first one after the root.
		depth := 0
		if c.lists <= api.MaxNodes {
			depth = 3 + c.open[0] + c.open[1] + c.open[2]
		}
		keys := x.Nodes[1]
		if !slices.Equal(keys.States, []int{0, 1, 2, 3, 4, 5}) || (keys.Input == -1) != (depth == 0) || distinguish.Depth(x) != max(depth, 1) {
			t.Errorf("case %d: Build returns the node %v, and a depth of %d", i, keys, distinguish.Depth(x))
		}
	}
}

// P12.1: a tree that would have too many nodes. With one input for all wheels, the number of lists is that of the moves.
func TestBuildLimit(t *testing.T) {
	wheels := [3]int{15, 16, 19}
	for i, c := range []struct {
		moves, nodes int
		want         api.Errno
	}{
		{0, 12, api.OK},
		{100, 112, api.OK},
		{api.MaxNodes - 13, api.MaxNodes - 1, api.OK},
		{api.MaxNodes - 12, api.MaxNodes, api.OK},
		{api.MaxNodes - 11, 0, api.ErrLimit},
		{api.MaxNodes - 3, 0, api.ErrLimit},
		{api.MaxNodes - 2, 0, api.ErrLimit},
		// These searches are cut, so that the tree has the root and two leaves.
		{api.MaxNodes - 1, 3, api.OK},
		{api.MaxNodes, 3, api.OK},
	} {
		open := [3]int{c.moves % 15, c.moves % 16, c.moves % 19}
		m := lock(wheels, open, []int{0, 1, 2})
		x, ok, e := distinguish.Build(m)
		if !minimize.Minimal(m) || len(x.Nodes) != c.nodes || ok || e != c.want {
			t.Errorf("case %d: Build returns %d nodes, %t, %d", i, len(x.Nodes), ok, e)
		}
		if e == api.OK && distinguish.Check(m, x) != api.OK {
			t.Errorf("case %d: the tree is not right", i)
		}
	}
}

// P12.1, P12.2: the greatest machines.
func TestGreatMachines(t *testing.T) {
	const n = api.MaxStates
	outputs := make([]int, n)
	outputs[n-1] = api.MaxOutput
	for i, m := range []api.Mealy{ring(outputs...), drawn(1, api.MaxInputs, n, 2), drawn(2, api.MaxInputs, n, 1000), shuffled(3, api.MaxInputs, n)} {
		x, ok, e := distinguish.Build(m)
		if ok != distinguish.Complete(x) || e != api.OK || distinguish.Check(m, x) != api.OK {
			t.Errorf("case %d: Build returns %v, %t, %d", i, x, ok, e)
		}
		if i == 0 && (!ok || distinguish.Depth(x) != n-1) {
			t.Errorf("Build returns %v, %t", x, ok)
		}
	}
}

// invalid returns machines that are not valid.
func invalid() []api.Mealy {
	return []api.Mealy{
		{},
		{Inputs: 1},
		{Inputs: api.MaxInputs + 1, Next: rows(1, api.MaxInputs+1, 0), Out: rows(1, api.MaxInputs+1, 0)},
		ring(make([]int, api.MaxStates+1)...),
		changed(func(m *api.Mealy) { m.Start = 2 }),
		{Inputs: 2, Next: [][]int{{0, 0}}},
		changed(func(m *api.Mealy) { m.Out[1] = m.Out[1][:1] }),
		changed(func(m *api.Mealy) { m.Next[1][1] = 2 }),
		changed(func(m *api.Mealy) { m.Out[0][1] = api.MaxOutput + 1 }),
	}
}

// P12.1, P12.2, P12.4: the errors of machines, before those of trees and states.
func TestInvalid(t *testing.T) {
	unreachable := changed(func(m *api.Mealy) { m.Next, m.Out = append(m.Next, []int{0, 1}), append(m.Out, []int{7, 7}) })
	others := []api.Mealy{ring(0, 0), ring(0, 1, 0, 1), unreachable, changed(func(m *api.Mealy) { m.Out[1][1] = 0 })}
	for i, m := range append(invalid(), others...) {
		want := mealy.Valid(m)
		if i >= len(invalid()) {
			want = api.ErrInvalid
		}
		x, ok, e := distinguish.Build(m)
		w, number, e2 := distinguish.Word(m, tree(), -1)
		if len(x.Nodes) != 0 || ok || len(w) != 0 || number != 0 || want == api.OK || e != want || e2 != want {
			t.Errorf("case %d: Build returns %v, %t, %d, and Word %v, %d, %d", i, x, ok, e, w, number, e2)
		}
		for _, x := range []api.Ads{tree(), tree(leaf(everything(m)...))} {
			if e := distinguish.Check(m, x); e != want {
				t.Errorf("case %d: Check returns %d", i, e)
			}
		}
	}
}

// R5: arguments do not change, and results are new memory.
func TestMemory(t *testing.T) {
	m := ring(0, 0, 1)
	x, _, _ := distinguish.Build(m)
	for i := range x.Nodes {
		for k := range x.Nodes[i].States {
			x.Nodes[i].States[k] += 10 * i
		}
		x.Nodes[i].States = append(x.Nodes[i].States, 7)
		x.Nodes[i].Kids = append(x.Nodes[i].Kids, api.AdsKid{})
	}
	want := tree(
		inner(0, []int{0, 1, 2, 7}, 0, 1, 1, 4, 0, 0), inner(0, []int{10, 11, 7}, 0, 2, 1, 3, 0, 0),
		inner(-1, []int{20, 7}, 0, 0), inner(-1, []int{31, 7}, 0, 0), inner(-1, []int{42, 7}, 0, 0))
	if !same(x, want) {
		t.Error("Build shares memory:", x)
	}
	x = three()
	w, _, _ := distinguish.Word(m, x, 0)
	w[0] = 7
	if e := distinguish.Check(m, x); e != api.OK || !same(x, three()) || !mealy.Same(m, ring(0, 0, 1)) {
		t.Error("the arguments have become", m, x)
	}
}
