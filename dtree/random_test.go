package dtree_test

import (
	"slices"
	"testing"

	"learner/api"
	"learner/dtree"
	"learner/mealy"
	"learner/observe"
	"learner/random"
	"learner/word"
	"learner/wordset"
)

// source draws random numbers.
type source struct {
	state uint64
}

// below returns a random number from 0 to n - 1.
func (r *source) below(n int) int {
	var x int
	x, r.state, _ = random.Below(r.state, n)
	return x
}

// word returns a random word of at least least and at most most symbols.
func (r *source) word(symbols, least, most int) []int {
	var w []int
	w, r.state, _ = random.Word(r.state, symbols, least+r.below(most-least+1))
	return w
}

// machine returns a random machine.
func (r *source) machine(inputs, states int) api.Mealy {
	m := api.Mealy{Inputs: inputs}
	for range states {
		m.Next, m.Out = append(m.Next, r.word(states, inputs, inputs)), append(m.Out, r.word(2, inputs, inputs))
	}
	return m
}

// leaves returns the numbers of the leaves.
func leaves(x api.DTree) []int {
	var l []int
	for i, n := range x.Nodes {
		if n.Leaf {
			l = append(l, i)
		}
	}
	return l
}

// access returns the access words of the leaves.
func access(x api.DTree) [][]int {
	var words [][]int
	for _, n := range leaves(x) {
		words = append(words, x.Nodes[n].Access)
	}
	return words
}

// has reports whether a list has a word.
func has(l [][]int, w []int) bool {
	return slices.ContainsFunc(l, func(v []int) bool { return slices.Equal(v, w) })
}

// attached returns a tree with one leaf more below a node; its children are put in order by exchanging neighbours.
func attached(x api.DTree, node int, outs, access []int) api.DTree {
	y := cloned(x)
	y.Nodes[node] = kid(y.Nodes[node], len(y.Nodes), outs...)
	y.Nodes = append(y.Nodes, leaf(access...))
	n := y.Nodes[node]
	for i := len(n.Kids) - 1; i > 0 && word.Lex(n.Outs[i], n.Outs[i-1]) < 0; i-- {
		n.Outs[i], n.Outs[i-1] = n.Outs[i-1], n.Outs[i]
		n.Kids[i], n.Kids[i-1] = n.Kids[i-1], n.Kids[i]
	}
	return y
}

// divided returns a tree in which a leaf is an inner node with two leaves.
func divided(x api.DTree, n int, suffix, outs, access, other []int) api.DTree {
	y := cloned(x)
	y.Nodes[n] = inner(suffix...)
	return attached(attached(y, n, outs, x.Nodes[n].Access), n, other, access)
}

// drawn returns a random valid tree.
func (r *source) drawn() api.DTree {
	x := dtree.New()
	for range r.below(6) {
		w := r.word(3, 0, 3)
		n := r.below(len(x.Nodes))
		suffix := x.Nodes[n].Suffix
		if x.Nodes[n].Leaf {
			suffix = r.word(2, 1, 2)
		}
		outs, other := r.word(3, len(suffix), len(suffix)), r.word(3, len(suffix), len(suffix))
		switch {
		case has(access(x), w):
		case x.Nodes[n].Leaf && !slices.Equal(outs, other):
			x = divided(x, n, suffix, outs, w, other)
		case !x.Nodes[n].Leaf && !has(x.Nodes[n].Outs, outs):
			x = attached(x, n, outs, w)
		}
	}
	return r.shuffled(x)
}

// shuffled returns a tree with other numbers of the nodes but the root.
func (r *source) shuffled(x api.DTree) api.DTree {
	y := cloned(x)
	for i := len(y.Nodes) - 1; i > 1; i-- {
		k := 1 + r.below(i)
		y.Nodes[i], y.Nodes[k] = y.Nodes[k], y.Nodes[i]
		for _, n := range y.Nodes {
			for j, to := range n.Kids {
				switch to {
				case i:
					n.Kids[j] = k
				case k:
					n.Kids[j] = i
				}
			}
		}
	}
	return y
}

// validity is Valid as it is described.
func validity(x api.DTree) api.Errno {
	if len(x.Nodes) == 0 {
		return api.ErrEmpty
	}
	for _, n := range x.Nodes {
		if e := nodeError(x, n); e != api.OK {
			return e
		}
	}
	counts := make([]int, len(x.Nodes))
	countPaths(x, 0, len(x.Nodes), counts)
	for _, count := range counts {
		if count != 1 {
			return api.ErrInvalid
		}
	}
	for i, w := range access(x) {
		if has(access(x)[:i], w) {
			return api.ErrExists
		}
	}
	return api.OK
}

// nodeError returns the error of a node.
func nodeError(x api.DTree, n api.DNode) api.Errno {
	switch {
	case n.Leaf && (len(n.Suffix) > 0 || len(n.Outs) > 0 || len(n.Kids) > 0):
		return api.ErrInvalid
	case n.Leaf:
		return word.Check(n.Access, api.MaxInputs)
	case len(n.Access) > 0:
		return api.ErrInvalid
	case len(n.Suffix) == 0:
		return api.ErrEmpty
	case word.Check(n.Suffix, api.MaxInputs) != api.OK:
		return word.Check(n.Suffix, api.MaxInputs)
	case len(n.Outs) != len(n.Kids):
		return api.ErrInvalid
	}
	for i, outs := range n.Outs {
		switch {
		case len(outs) != len(n.Suffix):
			return api.ErrInvalid
		case slices.Min(outs) < 0 || slices.Max(outs) > api.MaxOutput:
			return api.ErrRange
		}
		for _, before := range n.Outs[:i] {
			if word.Lex(before, outs) >= 0 {
				return api.ErrState
			}
		}
		if n.Kids[i] < 0 || n.Kids[i] >= len(x.Nodes) {
			return api.ErrRange
		}
	}
	return api.OK
}

// countPaths counts the paths to each node that begin at n and have at most most steps.
func countPaths(x api.DTree, n, most int, counts []int) {
	counts[n]++
	for _, to := range x.Nodes[n].Kids {
		if most > 0 {
			countPaths(x, to, most-1, counts)
		}
	}
}

// damaged returns a tree in which one part is another one, perhaps a wrong one.
func (r *source) damaged(x api.DTree) api.DTree {
	y := cloned(x)
	n := &y.Nodes[r.below(len(y.Nodes))]
	switch r.below(9) {
	case 0:
		n.Leaf = !n.Leaf
	case 1:
		n.Access = r.word(3, 0, 1)
	case 2:
		n.Suffix = r.word(3, 0, 2)
	case 3:
		n.Outs = append(n.Outs, r.word(3, 1, 2))
	case 4:
		n.Kids = append(n.Kids, r.below(len(y.Nodes)+1))
	case 5:
		*n = kid(*n, r.below(len(y.Nodes)+1), r.word(4, len(n.Suffix), len(n.Suffix))...)
	case 6:
		if len(n.Kids) > 0 {
			n.Kids[r.below(len(n.Kids))] = r.below(len(y.Nodes)+2) - 1
		}
	case 7:
		if len(n.Outs) > 0 {
			n.Outs[r.below(len(n.Outs))] = r.word(3, 1, 2)
		}
	case 8:
		if len(n.Outs) > 0 && len(n.Outs[0]) > 0 {
			n.Outs[0][0] = []int{-1, 0, 2, api.MaxOutput, api.MaxOutput + 1}[r.below(5)]
		}
	}
	return y
}

// P26.2: random trees that are valid or not, compared with the description.
func TestRandomValid(t *testing.T) {
	counts := map[api.Errno]int{}
	for state := range uint64(4000) {
		r := &source{state}
		x := r.drawn()
		for range r.below(4) {
			x = r.damaged(x)
		}
		e, want := dtree.Valid(x), validity(x)
		if e != want {
			t.Fatalf("Valid of %v returns %d, not %d", x, e, want)
		}
		counts[e]++
		if l := dtree.Leaves(x); e != api.OK && len(l) > 0 || e == api.OK && !equal(l, wordset.Sorted(access(x))) {
			t.Fatalf("Leaves of %v returns %v", x, l)
		}
	}
	for _, e := range []api.Errno{api.OK, api.ErrInvalid, api.ErrEmpty, api.ErrRange, api.ErrState, api.ErrExists} {
		if counts[e] < 30 {
			t.Errorf("Valid has returned %d only %d times", e, counts[e])
		}
	}
}

// P26.4, P26.5, P26.8: random leaves are added, and the results are valid trees with one leaf more.
func TestRandomGrowth(t *testing.T) {
	grown, split, refused := 0, 0, 0
	for state := range uint64(4000) {
		r := &source{state}
		x := r.drawn()
		n, w := r.below(len(x.Nodes)), r.word(3, 0, 2)
		suffix := x.Nodes[n].Suffix
		if x.Nodes[n].Leaf {
			suffix = r.word(3, 1, 3)
		}
		outs, other := r.word(3, len(suffix), len(suffix)), r.word(3, len(suffix), len(suffix))
		before := cloned(x)
		y, e := dtree.Grow(x, n, outs, w)
		z, f := dtree.Split(x, n, suffix, outs, w, other)
		if !same(x, before) {
			t.Fatalf("the tree has become %v, not %v", x, before)
		}
		fresh, isLeaf := !has(access(x), w), x.Nodes[n].Leaf
		switch {
		case fresh && !isLeaf && !has(x.Nodes[n].Outs, outs):
			grown++
			if want := attached(x, n, outs, w); !same(y, want) || e != api.OK || f != api.ErrState {
				t.Fatalf("Grow of %v at %d with %v and %v returns %v, %d", x, n, outs, w, y, e)
			}
		case fresh && isLeaf && !slices.Equal(outs, other):
			split++
			if want := divided(x, n, suffix, outs, w, other); !same(z, want) || f != api.OK || e != api.ErrState {
				t.Fatalf("Split of %v at %d with %v, %v, %v, %v returns %v, %d", x, n, suffix, outs, w, other, z, f)
			}
			y = z
		default:
			refused++
			if e == api.OK || f == api.OK || !same(y, x) || !same(z, x) {
				t.Fatalf("Grow and Split of %v at %d return %v, %d and %v, %d", x, n, y, e, z, f)
			}
			continue
		}
		want := wordset.Sorted(append(access(x), w))
		if l := dtree.Leaves(y); dtree.Valid(y) != api.OK || !equal(l, want) {
			t.Fatalf("the leaves of %v are %v, not %v", y, l, want)
		}
	}
	if grown < 300 || split < 300 || refused < 300 {
		t.Error(grown, split, refused)
	}
}

// sifted is Sift as it is described, from a node on.
func sifted(x api.DTree, o api.Obs, w []int, n int) (int, []int) {
	if x.Nodes[n].Leaf {
		return n, nil
	}
	query := slices.Concat(w, x.Nodes[n].Suffix)
	answer, ok := observe.Answer(o, query)
	if !ok {
		return 0, query
	}
	for i, outs := range x.Nodes[n].Outs {
		if slices.Equal(outs, answer[len(answer)-len(outs):]) {
			return sifted(x, o, w, x.Nodes[n].Kids[i])
		}
	}
	return n, nil
}

// P26.3: random trees and observations, compared with the description.
func TestRandomSift(t *testing.T) {
	leaf, between, open := 0, 0, 0
	for state := range uint64(4000) {
		r := &source{state}
		x := r.drawn()
		m := r.machine(3, 1+r.below(5))
		var words [][]int
		for range r.below(60) {
			words = append(words, r.word(3, 1, 5))
		}
		o, _ := observe.Of(m, words)
		w := r.word(3, 0, 2)
		n, ask, e := dtree.Sift(x, o, w)
		want, query := sifted(x, o, w, 0)
		if n != want || !slices.Equal(ask, query) || e != api.OK {
			t.Fatalf("Sift of %v in %v with %v returns %d, %v, %d, not %d, %v", w, x, o, n, ask, e, want, query)
		}
		switch {
		case len(ask) > 0:
			open++
		case x.Nodes[n].Leaf:
			leaf++
		default:
			between++
		}
	}
	if leaf < 300 || between < 300 || open < 300 {
		t.Error(leaf, between, open)
	}
}

// path returns the nodes from n to another node, both included, and nothing if it is not below n.
func path(x api.DTree, n, to int) []int {
	if n == to {
		return []int{n}
	}
	for _, next := range x.Nodes[n].Kids {
		if rest := path(x, next, to); rest != nil {
			return append([]int{n}, rest...)
		}
	}
	return nil
}

// parted returns the last node that two paths from the root have in common.
func parted(x api.DTree, a, b int) int {
	first, second := path(x, 0, a), path(x, 0, b)
	last := 0
	for i := range min(len(first), len(second)) {
		if first[i] == second[i] {
			last = first[i]
		}
	}
	return last
}

// P26.7: the leaves of random trees.
func TestRandomCommon(t *testing.T) {
	deeper := 0
	for state := range uint64(1000) {
		x := (&source{state}).drawn()
		for _, a := range leaves(x) {
			for _, b := range leaves(x) {
				w, e := dtree.Common(x, a, b)
				n := parted(x, a, b)
				if a == b && (e != api.ErrNotFound || len(w) > 0) || a != b && (!slices.Equal(w, x.Nodes[n].Suffix) || e != api.OK) {
					t.Fatalf("Common of %d and %d in %v returns %v, %d", a, b, x, w, e)
				}
				if a != b && n != 0 {
					deeper++
				}
			}
		}
	}
	if deeper < 500 {
		t.Error("only", deeper, "pairs of leaves part below the root")
	}
}

// learned returns a tree with the outputs of a machine: words are sifted, and added where there is no child, or where a suffix separates them from the access word of their leaf.
func learned(r *source, m api.Mealy, o api.Obs) api.DTree {
	x := dtree.New()
	after := func(w, suffix []int) []int {
		answer, _ := observe.Answer(o, slices.Concat(w, suffix))
		return answer[len(w):]
	}
	for range 12 {
		w := r.word(m.Inputs, 0, 3)
		if has(access(x), w) {
			continue
		}
		n, _, _ := dtree.Sift(x, o, w)
		if !x.Nodes[n].Leaf {
			x, _ = dtree.Grow(x, n, after(w, x.Nodes[n].Suffix), w)
			continue
		}
		suffix := r.word(m.Inputs, 1, 3)
		// If there is no difference, Split refuses.
		x, _ = dtree.Split(x, n, suffix, after(x.Nodes[n].Access, suffix), w, after(w, suffix))
	}
	return x
}

// P26.8, P26.9: trees with the outputs of machines. Access words are sifted to their leaves, and words that are sifted to different nodes are separated.
func TestMachines(t *testing.T) {
	parts, alike := 0, 0
	for state := range uint64(500) {
		r := &source{state}
		m := r.machine(2, 2+r.below(8))
		all, _ := wordset.Upto(2, 7)
		o, _ := observe.Of(m, all)
		x := learned(r, m, o)
		for _, n := range leaves(x) {
			if at, ask, e := dtree.Sift(x, o, x.Nodes[n].Access); at != n || len(ask) > 0 || e != api.OK {
				t.Fatalf("Sift of %v in %v returns %d, %v, %d", x.Nodes[n].Access, x, at, ask, e)
			}
		}
		for range 30 {
			u, v := r.word(2, 0, 4), r.word(2, 0, 4)
			a, _, _ := dtree.Sift(x, o, u)
			b, _, _ := dtree.Sift(x, o, v)
			n := parted(x, a, b)
			if n == a || n == b {
				alike++
				continue
			}
			parts++
			suffix := x.Nodes[n].Suffix
			if x.Nodes[a].Leaf && x.Nodes[b].Leaf {
				suffix, _ = dtree.Common(x, a, b)
			}
			_, s, _ := mealy.From(m, m.Start, u)
			_, q, _ := mealy.From(m, m.Start, v)
			first, _, _ := mealy.From(m, s, suffix)
			if second, _, _ := mealy.From(m, q, suffix); slices.Equal(first, second) {
				t.Fatalf("%v and %v have the same outputs %v for %v in %v", u, v, first, suffix, m)
			}
		}
	}
	if parts < 1000 || alike < 1000 {
		t.Error(parts, alike)
	}
}

// P26.2, P26.3: the greatest trees with the longest words in a reasonable time.
func TestMost(t *testing.T) {
	long := make([]int, api.MaxWord)
	x := tree(inner(long[1:]...))
	for i := 1; i < api.MaxNodes; i++ {
		outs, w := slices.Clone(long[1:]), slices.Clone(long)
		outs[len(outs)-1], w[len(w)-1], w[len(w)-2] = i, i%64, i/64
		x.Nodes[0] = kid(x.Nodes[0], i, outs...)
		x.Nodes = append(x.Nodes, leaf(w...))
	}
	out := slices.Clone(long)
	out[len(out)-1] = 4000
	o := obs(1, trace(long, out))
	if n, ask, e := dtree.Sift(x, o, []int{0}); n != 4000 || len(ask) > 0 || e != api.OK {
		t.Error("Sift returns", n, ask, e)
	}
	if w, e := dtree.Common(x, 1, 4000); len(w) != len(long)-1 || e != api.OK {
		t.Error("Common returns", w, e)
	}
}
