package dtree_test

import (
	"math"
	"slices"
	"testing"

	"learner/api"
	"learner/dtree"
)

// P26.4: the children stay in order, and the new node is the last one.
func TestGrow(t *testing.T) {
	x := tree(kid(kid(inner(0, 0), 1, 0, 9), 2, 1, 0), leaf(1), leaf(2))
	grown := func(root api.DNode) api.DTree { return tree(root, leaf(1), leaf(2), leaf(3, 3)) }
	four := cloned(deep())
	four.Nodes[4] = kid(kid(kid(inner(1, 0), 3, 0, 0), 6, 0, 1), 5, 1, 0)
	four.Nodes = append(four.Nodes, leaf())
	four.Nodes[1].Access, four.Nodes[6].Access = []int{0}, nil
	zero := cloned(deep())
	zero.Nodes[1].Access = []int{0}
	long := make([]int, api.MaxWord)
	for i, c := range []struct {
		x            api.DTree
		node         int
		outs, access []int
		want         api.DTree
	}{
		{small(), 0, []int{1}, []int{1, 1}, tree(kid(kid(kid(inner(1), 1, 0), 3, 1), 2, 2), leaf(), leaf(0), leaf(1, 1))},
		{x, 0, []int{0, 8}, []int{3, 3}, grown(kid(kid(kid(inner(0, 0), 3, 0, 8), 1, 0, 9), 2, 1, 0))},
		{x, 0, []int{0, 10}, []int{3, 3}, grown(kid(kid(kid(inner(0, 0), 1, 0, 9), 3, 0, 10), 2, 1, 0))},
		{x, 0, []int{1, 1}, []int{3, 3}, grown(kid(kid(kid(inner(0, 0), 1, 0, 9), 2, 1, 0), 3, 1, 1))},
		{zero, 4, []int{0, 1}, nil, four},
		{tree(inner(0)), 0, []int{0}, nil, tree(kid(inner(0), 1, 0), leaf())},
		{tree(inner(0)), 0, []int{api.MaxOutput}, []int{63}, tree(kid(inner(0), 1, api.MaxOutput), leaf(63))},
		{tree(inner(long...)), 0, long, long, tree(kid(inner(long...), 1, long...), leaf(long...))},
		{wide(api.MaxNodes - 1), 0, []int{api.MaxNodes - 1}, []int{63, 63}, wide(api.MaxNodes)},
	} {
		y, e := dtree.Grow(c.x, c.node, c.outs, c.access)
		if !same(y, c.want) || e != api.OK || dtree.Valid(y) != api.OK {
			t.Errorf("case %d: Grow returns %v, %d", i, y, e)
		}
	}
}

// P26.4: the errors and their order. The tree is returned unchanged.
func TestGrowErrors(t *testing.T) {
	long := make([]int, api.MaxWord+1)
	for i, c := range []struct {
		x            api.DTree
		node         int
		outs, access []int
		want         api.Errno
	}{
		{api.DTree{}, 0, nil, nil, api.ErrEmpty},
		{tree(leaf(), leaf(0)), 5, []int{-1}, []int{64}, api.ErrInvalid},
		{tree(kid(kid(inner(1), 1, 0), 2, 1), leaf(), leaf()), 0, []int{2}, []int{1}, api.ErrExists},
		{small(), 3, nil, long, api.ErrRange},
		{small(), -1, []int{1}, []int{1}, api.ErrRange},
		{small(), math.MinInt, []int{1}, []int{1}, api.ErrRange},
		{small(), math.MaxInt, []int{1}, []int{1}, api.ErrRange},
		{small(), 1, nil, long, api.ErrState},
		{small(), 2, []int{1}, []int{1}, api.ErrState},
		{dtree.New(), 0, []int{1}, []int{1}, api.ErrState},
		{small(), 0, nil, long, api.ErrInvalid},
		{small(), 0, []int{-1, 0}, long, api.ErrInvalid},
		{small(), 0, []int{-1}, long, api.ErrRange},
		{small(), 0, []int{api.MaxOutput + 1}, []int{64}, api.ErrRange},
		{deep(), 4, []int{0, math.MaxInt}, nil, api.ErrRange},
		{small(), 0, []int{0}, long, api.ErrExists},
		{small(), 0, []int{2}, []int{64}, api.ErrExists},
		{deep(), 4, []int{1, 0}, long, api.ErrExists},
		{small(), 0, []int{1}, long, api.ErrTooLong},
		{small(), 0, []int{1}, []int{64}, api.ErrInvalid},
		{small(), 0, []int{1}, []int{0, -1}, api.ErrInvalid},
		{small(), 0, []int{1}, nil, api.ErrExists},
		{small(), 0, []int{1}, []int{0}, api.ErrExists},
		{deep(), 0, []int{1, 1}, []int{1, 1}, api.ErrExists},
		{deep(), 4, []int{1, 1}, []int{2}, api.ErrExists},
		{wide(api.MaxNodes), 0, []int{0}, []int{0, 1}, api.ErrExists},
		{wide(api.MaxNodes), 0, []int{0}, []int{64}, api.ErrInvalid},
		{wide(api.MaxNodes), 0, []int{0}, nil, api.ErrLimit},
		{high(api.MaxNodes), 7, []int{1}, []int{1}, api.ErrLimit},
	} {
		before := cloned(c.x)
		y, e := dtree.Grow(c.x, c.node, c.outs, c.access)
		if e != c.want || !same(y, before) || !same(c.x, before) {
			t.Errorf("case %d: Grow returns a tree of %d nodes, %d, not %d", i, len(y.Nodes), e, c.want)
		}
	}
}

// P26.5: the leaf becomes an inner node, whose children are in order of their outputs.
func TestSplit(t *testing.T) {
	x := cloned(deep())
	x.Nodes[2] = kid(kid(inner(7, 7), 7, 0, 1), 6, 0, 2)
	x.Nodes = append(x.Nodes, leaf(2), leaf(3))
	y := cloned(deep())
	y.Nodes[5] = kid(kid(inner(0), 6, 0), 7, 1)
	y.Nodes = append(y.Nodes, leaf(1, 1), leaf(0, 0))
	long := make([]int, api.MaxWord)
	zero := append(make([]int, api.MaxWord-1), api.MaxOutput)
	for i, c := range []struct {
		x                           api.DTree
		leaf                        int
		suffix, outs, access, other []int
		want                        api.DTree
	}{
		{dtree.New(), 0, []int{1}, []int{0}, []int{0}, []int{2}, small()},
		{dtree.New(), 0, []int{1}, []int{2}, []int{0}, []int{0}, tree(kid(kid(inner(1), 2, 0), 1, 2), leaf(), leaf(0))},
		{tree(leaf(5)), 0, []int{1, 0}, []int{0, 1}, nil, []int{0, 0}, tree(kid(kid(inner(1, 0), 2, 0, 0), 1, 0, 1), leaf(5), leaf())},
		{deep(), 2, []int{7, 7}, []int{0, 2}, []int{3}, []int{0, 1}, x},
		{deep(), 5, []int{0}, []int{0}, []int{0, 0}, []int{1}, y},
		{dtree.New(), 0, long, zero, long, long, tree(kid(kid(inner(long...), 2, long...), 1, zero...), leaf(), leaf(long...))},
	} {
		y, e := dtree.Split(c.x, c.leaf, c.suffix, c.outs, c.access, c.other)
		if !same(y, c.want) || e != api.OK || dtree.Valid(y) != api.OK {
			t.Errorf("case %d: Split returns %v, %d", i, y, e)
		}
	}
	most, e := dtree.Split(wide(api.MaxNodes-2), api.MaxNodes-3, []int{0}, []int{0}, []int{0}, []int{1})
	if len(most.Nodes) != api.MaxNodes || e != api.OK || dtree.Valid(most) != api.OK {
		t.Error("Split returns", len(most.Nodes), "nodes", e)
	}
}

// P26.5: the errors and their order. The tree is returned unchanged.
func TestSplitErrors(t *testing.T) {
	long := make([]int, api.MaxWord+1)
	two := []int{1, 1}
	for i, c := range []struct {
		x                           api.DTree
		leaf                        int
		suffix, outs, access, other []int
		want                        api.Errno
	}{
		{api.DTree{}, 0, []int{0}, []int{0}, []int{0}, []int{1}, api.ErrEmpty},
		{tree(leaf(), leaf(0)), 5, nil, nil, long, nil, api.ErrInvalid},
		{tree(kid(kid(inner(1), 1, 0), 2, 1), leaf(), leaf()), 1, []int{0}, []int{0}, []int{0}, []int{1}, api.ErrExists},
		{small(), 3, nil, two, long, two, api.ErrRange},
		{small(), -1, []int{0}, []int{0}, two, []int{1}, api.ErrRange},
		{small(), math.MaxInt, []int{0}, []int{0}, two, []int{1}, api.ErrRange},
		{small(), 0, nil, two, long, two, api.ErrState},
		{deep(), 4, []int{0}, []int{0}, two, []int{1}, api.ErrState},
		{small(), 1, nil, two, long, two, api.ErrEmpty},
		{small(), 1, []int{}, nil, two, nil, api.ErrEmpty},
		{small(), 1, long, two, long, two, api.ErrTooLong},
		{small(), 1, []int{64}, two, long, two, api.ErrInvalid},
		{small(), 1, []int{64}, []int{0}, two, []int{1}, api.ErrInvalid},
		{small(), 1, []int{-1}, []int{-1}, long, two, api.ErrInvalid},
		{small(), 1, []int{0}, two, long, two, api.ErrInvalid},
		{small(), 1, []int{0}, nil, long, nil, api.ErrInvalid},
		{small(), 1, []int{0}, []int{-1}, long, two, api.ErrRange},
		{small(), 1, two, []int{0, api.MaxOutput + 1}, long, nil, api.ErrRange},
		{small(), 1, []int{0}, []int{0}, long, two, api.ErrTooLong},
		{small(), 1, []int{0}, []int{0}, []int{64}, two, api.ErrInvalid},
		{small(), 1, []int{0}, []int{0}, []int{0, math.MinInt}, two, api.ErrInvalid},
		{small(), 1, []int{0}, []int{0}, nil, two, api.ErrExists},
		{small(), 1, []int{0}, []int{0}, []int{0}, []int{-1}, api.ErrExists},
		{small(), 2, []int{0}, []int{0}, []int{0}, []int{0}, api.ErrExists},
		{dtree.New(), 0, []int{0}, []int{0}, []int{}, []int{1}, api.ErrExists},
		{small(), 1, []int{0}, []int{0}, two, two, api.ErrInvalid},
		{small(), 1, []int{0}, []int{0}, two, nil, api.ErrInvalid},
		{small(), 1, two, two, two, []int{1, 1, 1}, api.ErrInvalid},
		{small(), 1, []int{0}, []int{0}, two, []int{-1}, api.ErrRange},
		{small(), 1, []int{0}, []int{0}, two, []int{api.MaxOutput + 1}, api.ErrRange},
		{small(), 1, []int{0}, []int{0}, two, []int{0}, api.ErrConflict},
		{small(), 2, two, two, two, two, api.ErrConflict},
		{wide(api.MaxNodes), 1, []int{0}, []int{0}, nil, []int{0}, api.ErrConflict},
		{wide(api.MaxNodes), 1, []int{0}, []int{0}, nil, []int{1}, api.ErrLimit},
		{wide(api.MaxNodes - 1), 1, []int{0}, []int{0}, nil, []int{1}, api.ErrLimit},
		{high(api.MaxNodes - 1), api.MaxNodes - 2, []int{0}, []int{0}, []int{0}, []int{1}, api.ErrLimit},
	} {
		before := cloned(c.x)
		y, e := dtree.Split(c.x, c.leaf, c.suffix, c.outs, c.access, c.other)
		if e != c.want || !same(y, before) || !same(c.x, before) {
			t.Errorf("case %d: Split returns a tree of %d nodes, %d, not %d", i, len(y.Nodes), e, c.want)
		}
	}
}

// R1: no trees and observations make a function panic.
func TestNotValid(t *testing.T) {
	odd := []api.Trace{{}, trace([]int{0, 1}, nil), trace(nil, []int{1}), trace([]int{-1, 5}, []int{7, 8}), trace([]int{0}, []int{1, 2, 3}), trace(make([]int, api.MaxWord+2), []int{0}), trace([]int{1, 1, 1}, []int{-1, math.MaxInt, 0})}
	nodes := []api.DNode{leaf(), {}, inner(1), kid(inner(1), 1, 0), kid(inner(1), 0, 2), kid(inner(0), -1, 0), kid(kid(inner(0), 1, 0), 2, 0), {Leaf: true, Kids: []int{7}}, {Suffix: []int{0}, Kids: []int{1}}, {Suffix: []int{0}, Outs: [][]int{nil}}}
	trees := []api.DTree{{}, small(), deep(), high(api.MaxNodes), wide(api.MaxNodes)}
	for _, n := range nodes {
		for _, k := range nodes {
			trees = append(trees, tree(n, k), tree(n, k, leaf(0)), tree(n))
		}
	}
	words := [][]int{nil, {0}, {1, 1}, {-1}, {math.MaxInt, 0}, make([]int, api.MaxWord+1)}
	for _, x := range trees {
		dtree.Valid(x)
		dtree.Leaves(x)
		for n := range 4 {
			for i, w := range words {
				dtree.Common(x, n-1, i)
				dtree.Grow(x, n-1, w, words[(i+n)%len(words)])
				dtree.Split(x, n-1, words[(i+n)%len(words)], w, words[(i+1)%len(words)], words[(i+2)%len(words)])
				dtree.Sift(x, obs(n, append(slices.Clone(odd[i:]), odd[:i]...)...), w)
			}
		}
	}
}

// spoil changes all numbers of a word and its spare capacity.
func spoil(w []int) {
	w = append(w, -5)
	w = w[:cap(w)]
	for i := range w {
		w[i] = -7
	}
}

// spoilTree changes all parts of a tree and their spare capacity, one after the other. The parts that are spoilt later must not have changed.
func spoilTree(t *testing.T, x api.DTree) {
	want := cloned(x)
	for i := range x.Nodes {
		if !same(tree(x.Nodes[i:]...), tree(want.Nodes[i:]...)) {
			t.Error("the nodes of a tree share memory")
		}
		n := &x.Nodes[i]
		spoil(n.Access)
		spoil(n.Suffix)
		spoil(n.Kids)
		for k := range n.Outs {
			if !slices.Equal(n.Outs[k], want.Nodes[i].Outs[k]) {
				t.Error("the outputs of a node share memory")
			}
			spoil(n.Outs[k])
		}
		n.Outs = append(n.Outs, nil)
		clear(n.Outs[:cap(n.Outs)])
	}
	x.Nodes = append(x.Nodes, leaf(9))
	clear(x.Nodes[:cap(x.Nodes)])
}

// spare returns a word with spare capacity, in which there is the number 8.
func spare(w ...int) []int {
	return append(w, 8)[:len(w)]
}

// roomy returns a copy of a tree in which all parts have spare capacity.
func roomy(x api.DTree) api.DTree {
	y := tree(append(cloned(x).Nodes, leaf(77))[:len(x.Nodes)]...)
	for i := range y.Nodes {
		n := &y.Nodes[i]
		n.Access, n.Suffix, n.Kids = spare(n.Access...), spare(n.Suffix...), spare(n.Kids...)
		for k := range n.Outs {
			n.Outs[k] = spare(n.Outs[k]...)
		}
		n.Outs = append(n.Outs, []int{88})[:len(n.Outs)]
	}
	return y
}

// untouched reports whether a tree of roomy is as before, also in its spare capacity.
func untouched(y, x api.DTree) bool {
	kept := func(w []int) bool { return w[:len(w)+1][len(w)] == 8 }
	for _, n := range y.Nodes {
		if !kept(n.Access) || !kept(n.Suffix) || !kept(n.Kids) || !slices.Equal(n.Outs[:len(n.Outs)+1][len(n.Outs)], []int{88}) {
			return false
		}
		for _, outs := range n.Outs {
			if !kept(outs) {
				return false
			}
		}
	}
	last := y.Nodes[:len(y.Nodes)+1][len(y.Nodes)]
	return same(y, x) && last.Leaf && slices.Equal(last.Access, []int{77})
}

// P26.1 to P26.7, R5: results are new memory, and arguments do not change.
func TestMemory(t *testing.T) {
	x := roomy(deep())
	outs, suffix, access, other := spare(1, 1), spare(0, 1), spare(0), spare(0, 0)
	grown, e := dtree.Grow(x, 4, outs, access)
	divided, f := dtree.Split(x, 3, suffix, outs, access, other)
	if e != api.OK || f != api.OK {
		t.Fatal(e, f)
	}
	before := cloned(divided)
	spoilTree(t, grown)
	if !same(divided, before) {
		t.Error("two results share memory")
	}
	spoilTree(t, divided)
	leaves := dtree.Leaves(x)
	for i, w := range leaves {
		if !slices.Equal(w, [][]int{nil, {1}, {2}, {1, 1}}[i]) {
			t.Error("the words of a list share memory")
		}
		spoil(w)
	}
	common, _ := dtree.Common(x, 3, 5)
	spoil(common)
	o := obs(2, trace(spare(0, 0, 1), spare(9, 3, 4)))
	_, ask, _ := dtree.Sift(x, o, access)
	if !slices.Equal(ask, []int{0, 1, 0}) {
		t.Error("the query is", ask)
	}
	spoil(ask)
	dtree.Valid(x)
	if !untouched(x, deep()) {
		t.Error("the tree has become", x)
	}
	for i, w := range [][]int{outs, suffix, access, other, o.Traces[0].In, o.Traces[0].Out} {
		if want := [][]int{{1, 1, 8}, {0, 1, 8}, {0, 8}, {0, 0, 8}, {0, 0, 1, 8}, {9, 3, 4, 8}}[i]; !slices.Equal(w[:len(w)+1], want) {
			t.Error("an argument has become", w[:len(w)+1])
		}
	}
	first := dtree.New()
	spoilTree(t, first)
	if !same(dtree.New(), tree(leaf())) {
		t.Error("New returns", dtree.New())
	}
}
