package dtree_test

import (
	"math"
	"slices"
	"testing"

	"learner/api"
	"learner/dtree"
	"learner/observe"
)

// gate returns the gate of the document.
func gate() api.Mealy {
	return api.Mealy{Inputs: 2, Next: [][]int{{1, 0}, {1, 0}}, Out: [][]int{{1, 0}, {1, 2}}}
}

// trace returns a trace.
func trace(in, out []int) api.Trace {
	return api.Trace{In: in, Out: out}
}

// obs returns observations.
func obs(inputs int, traces ...api.Trace) api.Obs {
	return api.Obs{Inputs: inputs, Traces: traces}
}

// collected returns the observations of traces in any order.
func collected(inputs int, traces ...api.Trace) api.Obs {
	o := obs(inputs)
	for _, t := range traces {
		var e api.Errno
		if o, e = observe.Add(o, t); e != api.OK {
			panic("traces that contradict each other")
		}
	}
	return o
}

// tree returns a tree.
func tree(nodes ...api.DNode) api.DTree {
	return api.DTree{Nodes: nodes}
}

// leaf returns a leaf.
func leaf(access ...int) api.DNode {
	return api.DNode{Leaf: true, Access: access}
}

// inner returns an inner node without children.
func inner(suffix ...int) api.DNode {
	return api.DNode{Suffix: suffix}
}

// kid returns a node with one child more.
func kid(n api.DNode, to int, outs ...int) api.DNode {
	n.Outs, n.Kids = append(slices.Clone(n.Outs), outs), append(slices.Clone(n.Kids), to)
	return n
}

// small returns the tree of the first example.
func small() api.DTree {
	return tree(kid(kid(inner(1), 1, 0), 2, 2), leaf(), leaf(0))
}

// deep returns a tree with two inner nodes. The second one is the node 4.
func deep() api.DTree {
	return tree(kid(kid(kid(inner(0, 1), 1, 0, 5), 4, 3, 4), 2, 3, 5), leaf(), leaf(2), leaf(1), kid(kid(inner(1, 0), 3, 0, 0), 5, 1, 0), leaf(1, 1))
}

// same reports whether two trees are equal.
func same(a, b api.DTree) bool {
	return slices.EqualFunc(a.Nodes, b.Nodes, func(n, k api.DNode) bool {
		return n.Leaf == k.Leaf && slices.Equal(n.Access, k.Access) && slices.Equal(n.Suffix, k.Suffix) && equal(n.Outs, k.Outs) && slices.Equal(n.Kids, k.Kids)
	})
}

// equal reports whether two lists have equal words.
func equal(a, b [][]int) bool {
	return slices.EqualFunc(a, b, slices.Equal[[]int])
}

// cloned returns a tree in new memory.
func cloned(t api.DTree) api.DTree {
	x := tree()
	for _, n := range t.Nodes {
		outs := slices.Clone(n.Outs)
		for i, w := range outs {
			outs[i] = slices.Clone(w)
		}
		x.Nodes = append(x.Nodes, api.DNode{Leaf: n.Leaf, Access: slices.Clone(n.Access), Suffix: slices.Clone(n.Suffix), Outs: outs, Kids: slices.Clone(n.Kids)})
	}
	return x
}

// wide returns a valid tree with n nodes, of which all but the root are leaves.
func wide(n int) api.DTree {
	root := inner(0)
	nodes := []api.DNode{root}
	for i := 1; i < n; i++ {
		root.Outs, root.Kids = append(root.Outs, []int{i}), append(root.Kids, i)
		nodes = append(nodes, leaf(i/64, i%64))
	}
	nodes[0] = root
	return tree(nodes...)
}

// high returns a valid tree with n nodes, each of which is the only child of the one before.
func high(n int) api.DTree {
	var nodes []api.DNode
	for i := 1; i < n; i++ {
		nodes = append(nodes, kid(inner(0), i, 0))
	}
	return tree(append(nodes, leaf())...)
}

// repeated returns a node with the children of n, and with its last one so often.
func repeated(n api.DNode, count int) api.DNode {
	for i := range count {
		n = kid(n, 1, i)
	}
	return n
}

// P26.1
func TestNew(t *testing.T) {
	if x := dtree.New(); !same(x, tree(leaf())) || dtree.Valid(x) != api.OK {
		t.Error("New returns", x)
	}
}

// P26.2: trees of all forms, up to the limits.
func TestValid(t *testing.T) {
	long := make([]int, api.MaxWord)
	for i, x := range []api.DTree{
		small(),
		deep(),
		tree(leaf()),
		tree(leaf(long...)),
		tree(leaf(api.MaxInputs-1, 0)),
		// The empty word need not be an access word, and inner nodes need not have children.
		tree(leaf(1)),
		tree(inner(0)),
		tree(inner(long...)),
		tree(kid(inner(0), 1, 0), inner(0)),
		tree(kid(inner(0), 1, 0), leaf(1)),
		tree(kid(inner(api.MaxInputs-1), 1, api.MaxOutput), leaf(1)),
		// A child can come before its parent in the list.
		tree(kid(inner(0), 2, 0), leaf(), kid(inner(1), 1, 0)),
		// Outputs are in dictionary order; those of different nodes have nothing to do with each other.
		tree(kid(kid(inner(0, 0), 2, 0, 9), 1, 1, 0), leaf(), kid(inner(0, 0), 3, 0, 0), leaf(0)),
		// An empty list is as good as none.
		tree(api.DNode{Leaf: true, Access: []int{}, Suffix: []int{}, Outs: [][]int{}, Kids: []int{}}),
		tree(api.DNode{Access: []int{}, Suffix: []int{0}, Outs: [][]int{}, Kids: []int{}}),
		wide(api.MaxNodes),
		high(api.MaxNodes),
	} {
		if e := dtree.Valid(x); e != api.OK {
			t.Errorf("case %d: Valid returns %d", i, e)
		}
	}
}

// P26.2: the errors and their order.
func TestValidErrors(t *testing.T) {
	long := make([]int, api.MaxWord+1)
	odd := api.DNode{Leaf: true, Access: []int{64}, Suffix: []int{0}}
	for i, c := range []struct {
		x    api.DTree
		want api.Errno
	}{
		{api.DTree{}, api.ErrEmpty},
		{tree([]api.DNode{}...), api.ErrEmpty},
		{wide(api.MaxNodes + 1), api.ErrLimit},
		{high(api.MaxNodes + 1), api.ErrLimit},
		{tree(slices.Repeat([]api.DNode{odd}, api.MaxNodes+1)...), api.ErrLimit},
		// Leaves.
		{tree(odd), api.ErrInvalid},
		{tree(api.DNode{Leaf: true, Suffix: []int{0}}), api.ErrInvalid},
		{tree(api.DNode{Leaf: true, Outs: [][]int{nil}}), api.ErrInvalid},
		{tree(api.DNode{Leaf: true, Access: long, Outs: [][]int{{0}}}), api.ErrInvalid},
		{tree(api.DNode{Leaf: true, Kids: []int{0}}), api.ErrInvalid},
		{tree(api.DNode{Leaf: true, Access: long, Kids: []int{1}}, leaf()), api.ErrInvalid},
		{tree(leaf(64)), api.ErrInvalid},
		{tree(leaf(0, -1)), api.ErrInvalid},
		{tree(leaf(long...)), api.ErrTooLong},
		// Inner nodes: each error, with all later ones.
		{tree(api.DNode{Access: []int{0}, Outs: [][]int{nil}}), api.ErrInvalid},
		{tree(api.DNode{Access: []int{0}}), api.ErrInvalid},
		{tree(api.DNode{Access: []int{0}, Suffix: []int{0}}), api.ErrInvalid},
		{tree(api.DNode{Outs: [][]int{nil}}), api.ErrEmpty},
		{tree(api.DNode{}), api.ErrEmpty},
		{tree(api.DNode{Outs: [][]int{nil, nil}, Kids: []int{1, 2}}, leaf(), leaf(0)), api.ErrEmpty},
		{tree(inner(long...)), api.ErrTooLong},
		{tree(api.DNode{Suffix: long, Kids: []int{5}}), api.ErrTooLong},
		{tree(api.DNode{Suffix: []int{64}, Kids: []int{5}}), api.ErrInvalid},
		{tree(inner(64)), api.ErrInvalid},
		{tree(inner(0, -1)), api.ErrInvalid},
		{tree(api.DNode{Suffix: []int{0}, Outs: [][]int{{-1}}}), api.ErrInvalid},
		{tree(api.DNode{Suffix: []int{0}, Kids: []int{5}}), api.ErrInvalid},
		{tree(api.DNode{Suffix: []int{0}, Outs: [][]int{{0}}, Kids: []int{1, 2}}, leaf(), leaf(0)), api.ErrInvalid},
		{tree(kid(inner(0), 5, -1, 0)), api.ErrInvalid},
		{tree(kid(inner(0, 0), 5, -1)), api.ErrInvalid},
		{tree(kid(inner(0), 5)), api.ErrInvalid},
		{tree(kid(inner(0), 5, -1)), api.ErrRange},
		{tree(kid(inner(0), 1, -1), leaf()), api.ErrRange},
		{tree(kid(inner(0), 1, api.MaxOutput+1), leaf()), api.ErrRange},
		{tree(kid(inner(0, 0), 1, 0, math.MinInt), leaf()), api.ErrRange},
		{tree(kid(kid(inner(0), 1, 3), 2, -1), leaf(), leaf(0)), api.ErrRange},
		{tree(kid(kid(inner(0), 1, 3), 9, 3), leaf(), leaf(0)), api.ErrState},
		{tree(kid(kid(inner(0), 1, 3), 2, 3), leaf(), leaf(0)), api.ErrState},
		{tree(kid(kid(inner(0), 1, 3), 2, 2), leaf(), leaf(0)), api.ErrState},
		{tree(kid(kid(inner(0, 0), 1, 1, 0), 2, 0, 9), leaf(), leaf(0)), api.ErrState},
		{tree(kid(kid(kid(inner(0), 1, 0), 2, 2), 3, 1), leaf(), leaf(0), leaf(1)), api.ErrState},
		{tree(kid(kid(kid(inner(0), 1, 1), 2, 2), 3, 1), leaf(), leaf(0), leaf(1)), api.ErrState},
		{tree(kid(inner(0), 1, 0)), api.ErrRange},
		{tree(kid(inner(0), -1, 0), leaf()), api.ErrRange},
		{tree(kid(inner(0), math.MaxInt, 0), leaf()), api.ErrRange},
		{tree(kid(inner(0), math.MinInt, 0), leaf()), api.ErrRange},
		// The children are examined one after the other, and so are the nodes.
		{tree(kid(kid(inner(0), 9, 3), 1, 3, 3), leaf()), api.ErrRange},
		{tree(kid(kid(inner(0), 1, 3), 9, 3), leaf(64)), api.ErrState},
		{tree(kid(kid(inner(0), 1, 3, 3), 9, 2), leaf(64)), api.ErrInvalid},
		{tree(kid(inner(0), 9, 3), leaf(64)), api.ErrRange},
		{tree(kid(inner(0), 1, 3), leaf(long...), api.DNode{}), api.ErrTooLong},
		{tree(kid(inner(0), 1, 3), api.DNode{}, leaf(long...)), api.ErrEmpty},
		// The paths: nodes without one, with several ones, and with any number.
		{tree(leaf(), leaf(0)), api.ErrInvalid},
		{tree(leaf(), leaf()), api.ErrInvalid},
		{tree(inner(0), leaf()), api.ErrInvalid},
		{tree(kid(inner(0), 0, 0)), api.ErrInvalid},
		{tree(kid(inner(0), 1, 0), kid(inner(0), 0, 0)), api.ErrInvalid},
		{tree(kid(kid(inner(0), 1, 0), 1, 1), leaf()), api.ErrInvalid},
		{tree(kid(kid(inner(0), 1, 0), 2, 1), leaf(), kid(inner(0), 1, 0)), api.ErrInvalid},
		{tree(kid(inner(0), 1, 0), leaf(), kid(inner(0), 2, 0)), api.ErrInvalid},
		{tree(kid(inner(0), 1, 0), leaf(), kid(inner(0), 3, 0), kid(inner(0), 2, 0)), api.ErrInvalid},
		{tree(leaf(), kid(inner(0), 0, 0)), api.ErrInvalid},
		{tree(kid(inner(0), 2, 0), leaf(), kid(inner(0), 2, 0)), api.ErrInvalid},
		{tree(repeated(inner(0), 2000), leaf()), api.ErrInvalid},
		// The access words.
		{tree(kid(inner(0), 2, 0), leaf(), leaf()), api.ErrInvalid},
		{tree(kid(kid(inner(0), 1, 0), 2, 1), leaf(), leaf()), api.ErrExists},
		{tree(kid(kid(inner(0), 1, 0), 2, 1), leaf(3, 4), leaf(3, 4)), api.ErrExists},
		{tree(kid(kid(kid(inner(0), 1, 0), 2, 1), 3, 2), leaf(3, 4), leaf(3), leaf(3, 4)), api.ErrExists},
		{tree(kid(kid(inner(0), 1, 0), 2, 1), leaf(3, 4), kid(kid(inner(0), 3, 0), 4, 7), leaf(5), leaf(3, 4)), api.ErrExists},
	} {
		before := cloned(c.x)
		if e := dtree.Valid(c.x); e != c.want || !same(c.x, before) {
			t.Errorf("case %d: Valid returns %d, not %d", i, e, c.want)
		}
	}
	twice := wide(api.MaxNodes)
	twice.Nodes[4000].Access = []int{0, 1}
	if e := dtree.Valid(twice); e != api.ErrExists {
		t.Error("Valid returns", e)
	}
}

// P26.3: leaves, inner nodes and queries.
func TestSift(t *testing.T) {
	o, _ := observe.Of(gate(), [][]int{{1, 0, 1}, {0, 1, 1}})
	other := collected(2, trace([]int{0, 1, 0}, []int{9, 1, 0}), trace([]int{1, 0, 1}, []int{7, 3, 4}), trace([]int{1, 0, 0, 1}, []int{7, 3, 3, 4}), trace([]int{1, 1, 0, 1}, []int{7, 0, 0, 5}), trace([]int{0, 0, 0, 1}, []int{9, 3, 3, 4}), trace([]int{0, 0, 1, 0}, []int{9, 3, 4, 4}), trace([]int{0, 0, 0, 0, 1}, []int{9, 3, 3, 3, 5}))
	long := make([]int, api.MaxWord)
	for i, c := range []struct {
		x    api.DTree
		o    api.Obs
		w    []int
		want int
		ask  []int
	}{
		{dtree.New(), obs(2), nil, 0, nil},
		{dtree.New(), obs(2), long, 0, nil},
		{tree(leaf(5)), obs(2), []int{1}, 0, nil},
		{small(), o, nil, 1, nil},
		{small(), o, []int{}, 1, nil},
		{small(), o, []int{0}, 2, nil},
		{small(), o, []int{1, 0}, 2, nil},
		{small(), o, []int{0, 1}, 1, nil},
		{small(), o, []int{1}, 0, []int{1, 1}},
		{small(), o, []int{0, 0}, 0, []int{0, 0, 1}},
		{small(), obs(2), nil, 0, []int{1}},
		{small(), obs(2, trace([]int{1, 0}, []int{0, 1})), []int{1, 0}, 0, []int{1, 0, 1}},
		{small(), obs(2), long[1:], 0, append(make([]int, api.MaxWord-1), 1)},
		{small(), obs(2, trace(append(make([]int, api.MaxWord-1), 1), long)), long[1:], 1, nil},
		// There is no child for the outputs.
		{tree(inner(1)), o, nil, 0, nil},
		{small(), obs(2, trace([]int{1}, []int{1})), nil, 0, nil},
		{small(), obs(2, trace([]int{1}, []int{3})), nil, 0, nil},
		{deep(), obs(2, trace([]int{0, 1}, []int{5, 0})), nil, 0, nil},
		{deep(), other, nil, 0, nil},
		{deep(), other, []int{0, 0}, 4, nil},
		// Only the last outputs count.
		{deep(), obs(2, trace([]int{0, 1}, []int{0, 5})), nil, 1, nil},
		{deep(), obs(2, trace([]int{0, 1}, []int{3, 5})), nil, 2, nil},
		{deep(), other, []int{0}, 5, nil},
		{deep(), other, []int{1}, 3, nil},
		{deep(), other, []int{1, 1}, 1, nil},
		{deep(), other, []int{0, 0, 0}, 2, nil},
		// The second query is needed only if the first one leads to the second inner node.
		{deep(), other, []int{1, 0}, 0, []int{1, 0, 1, 0}},
		{deep(), other, []int{0, 1}, 0, []int{0, 1, 0, 1}},
		{deep(), obs(2, trace([]int{0, 1}, []int{3, 4})), nil, 0, []int{1, 0}},
	} {
		n, ask, e := dtree.Sift(c.x, c.o, c.w)
		valid := dtree.Valid(c.x) == api.OK && observe.Valid(c.o) == api.OK
		if !valid || n != c.want || !slices.Equal(ask, c.ask) || e != api.OK {
			t.Errorf("case %d: Sift returns %d, %v, %d, not %d, %v", i, n, ask, e, c.want, c.ask)
		}
	}
}

// P26.3: the errors and their order.
func TestSiftErrors(t *testing.T) {
	long := make([]int, api.MaxWord+1)
	// The suffix of the second inner node is a word of six inputs.
	six := tree(kid(kid(inner(0), 1, 0), 2, 1), leaf(), kid(inner(5), 3, 0), leaf(0))
	for i, c := range []struct {
		x    api.DTree
		o    api.Obs
		w    []int
		want api.Errno
	}{
		{api.DTree{}, obs(2), []int{7}, api.ErrEmpty},
		{tree(leaf(64)), obs(2), long, api.ErrInvalid},
		{tree(inner(0), leaf()), obs(0), long, api.ErrInvalid},
		{tree(kid(kid(inner(1), 1, 0), 2, 1), leaf(), leaf()), obs(2), nil, api.ErrExists},
		{dtree.New(), obs(2), []int{2}, api.ErrInvalid},
		{dtree.New(), obs(2), []int{0, -1}, api.ErrInvalid},
		{dtree.New(), obs(2), long, api.ErrTooLong},
		{dtree.New(), obs(0), nil, api.ErrRange},
		{small(), obs(2), append([]int{2}, long...), api.ErrTooLong},
		{small(), obs(2), append([]int{2}, long[2:]...), api.ErrInvalid},
		{small(), obs(2), long[1:], api.ErrTooLong},
		{small(), obs(1), nil, api.ErrInvalid},
		{small(), obs(1, trace([]int{0}, []int{0})), []int{0}, api.ErrInvalid},
		{small(), obs(1), long[1:], api.ErrTooLong},
		{tree(inner(long[1:]...)), obs(1), nil, api.OK},
		{tree(inner(long[1:]...)), obs(1), []int{0}, api.ErrTooLong},
		{six, obs(2), nil, api.OK},
		{six, obs(2, trace([]int{0}, []int{0})), nil, api.OK},
		{six, obs(2, trace([]int{0}, []int{2})), nil, api.OK},
		{six, obs(2, trace([]int{0}, []int{1})), nil, api.ErrInvalid},
		{six, obs(6, trace([]int{0}, []int{1})), nil, api.OK},
	} {
		if n, ask, e := dtree.Sift(c.x, c.o, c.w); e != c.want || e != api.OK && (n != 0 || len(ask) != 0) {
			t.Errorf("case %d: Sift returns %d, %d symbols, %d, not %d", i, n, len(ask), e, c.want)
		}
	}
}

// P26.6
func TestLeaves(t *testing.T) {
	for i, c := range []struct {
		x    api.DTree
		want [][]int
	}{
		{dtree.New(), [][]int{nil}},
		{tree(inner(0)), nil},
		{small(), [][]int{nil, {0}}},
		{deep(), [][]int{nil, {1}, {2}, {1, 1}}},
		{tree(kid(kid(kid(inner(0), 1, 0), 2, 1), 3, 2), leaf(1, 0), leaf(2), leaf(0, 3)), [][]int{{2}, {0, 3}, {1, 0}}},
		// Trees that are not valid.
		{api.DTree{}, nil},
		{tree(leaf(), leaf(0)), nil},
		{tree(leaf(64)), nil},
		{tree(kid(kid(inner(1), 1, 0), 2, 1), leaf(), leaf()), nil},
	} {
		if l := dtree.Leaves(c.x); !equal(l, c.want) {
			t.Errorf("case %d: Leaves returns %v", i, l)
		}
	}
	if l := dtree.Leaves(wide(api.MaxNodes)); len(l) != api.MaxNodes-1 || !slices.IsSortedFunc(l, slices.Compare[[]int]) {
		t.Error("Leaves returns", len(l), "words")
	}
	if l := dtree.Leaves(wide(api.MaxNodes + 1)); len(l) != 0 {
		t.Error("Leaves returns", len(l), "words")
	}
}

// P26.7: the suffix of the last common inner node, and the errors in their order.
func TestCommon(t *testing.T) {
	// The nodes 2 and 6 are inner ones below the root, and 4 is one below 2.
	x := tree(kid(kid(kid(inner(0), 1, 0), 2, 1), 6, 2), leaf(), kid(kid(inner(1), 3, 0), 4, 1), leaf(0), kid(kid(inner(0, 0), 5, 0, 0), 7, 0, 1), leaf(1), kid(kid(inner(1, 1), 8, 0, 0), 9, 0, 1), leaf(0, 0), leaf(0, 1), leaf(1, 0))
	for i, c := range []struct {
		x    api.DTree
		a, b int
		want []int
		e    api.Errno
	}{
		{small(), 1, 2, []int{1}, api.OK},
		{small(), 2, 1, []int{1}, api.OK},
		{x, 1, 3, []int{0}, api.OK},
		{x, 1, 9, []int{0}, api.OK},
		{x, 3, 5, []int{1}, api.OK},
		{x, 7, 3, []int{1}, api.OK},
		{x, 5, 7, []int{0, 0}, api.OK},
		{x, 7, 8, []int{0}, api.OK},
		{x, 9, 8, []int{1, 1}, api.OK},
		{deep(), 3, 5, []int{1, 0}, api.OK},
		{deep(), 5, 2, []int{0, 1}, api.OK},
		{api.DTree{}, 0, 0, nil, api.ErrEmpty},
		{tree(leaf(), leaf(0)), 0, 5, nil, api.ErrInvalid},
		{tree(kid(kid(inner(1), 1, 0), 2, 1), leaf(), leaf()), 1, 2, nil, api.ErrExists},
		{x, 10, 0, nil, api.ErrRange},
		{x, 0, 10, nil, api.ErrRange},
		{x, -1, -1, nil, api.ErrRange},
		{x, 1, math.MinInt, nil, api.ErrRange},
		{x, math.MaxInt, 1, nil, api.ErrRange},
		{x, 0, 1, nil, api.ErrState},
		{x, 1, 4, nil, api.ErrState},
		{x, 2, 2, nil, api.ErrState},
		{x, 5, 5, nil, api.ErrNotFound},
		{dtree.New(), 0, 0, nil, api.ErrNotFound},
		{dtree.New(), 0, 1, nil, api.ErrRange},
		{tree(inner(0)), 0, 0, nil, api.ErrState},
	} {
		w, e := dtree.Common(c.x, c.a, c.b)
		if !slices.Equal(w, c.want) || e != c.e {
			t.Errorf("case %d: Common returns %v, %d, not %v, %d", i, w, e, c.want, c.e)
		}
	}
}
