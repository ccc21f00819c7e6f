package dtree

import (
	"slices"

	"learner/api"
	"learner/word"
)

// Grow adds a leaf.
func Grow(t api.DTree, node int, outs, access []int) (api.DTree, api.Errno) {
	if e := growable(t, node, outs, access); e != api.OK {
		return t, e
	}
	grown := copied(t)
	addLeaf(&grown, node, outs, access)
	return grown, api.OK
}

// growable checks the arguments of Grow.
func growable(t api.DTree, node int, outs, access []int) api.Errno {
	if e := Valid(t); e != api.OK {
		return e
	}
	if !isNode(t, node) {
		return api.ErrRange
	}
	if t.Nodes[node].Leaf {
		return api.ErrState
	}
	if e := validOuts(outs, t.Nodes[node].Suffix); e != api.OK {
		return e
	}
	if _, found := child(t.Nodes[node], outs); found {
		return api.ErrExists
	}
	if e := newAccess(t, access); e != api.OK {
		return e
	}
	return room(t, 1)
}

// Split replaces a leaf by an inner node with two leaves.
func Split(t api.DTree, leaf int, suffix, outs, access, other []int) (api.DTree, api.Errno) {
	if e := divisible(t, leaf, suffix, outs, access, other); e != api.OK {
		return t, e
	}
	grown := copied(t)
	old := grown.Nodes[leaf].Access
	grown.Nodes[leaf] = api.DNode{Suffix: slices.Clone(suffix)}
	addLeaf(&grown, leaf, outs, old)
	addLeaf(&grown, leaf, other, access)
	return grown, api.OK
}

// divisible checks the arguments of Split.
func divisible(t api.DTree, leaf int, suffix, outs, access, other []int) api.Errno {
	if e := Valid(t); e != api.OK {
		return e
	}
	if !isNode(t, leaf) {
		return api.ErrRange
	}
	if !t.Nodes[leaf].Leaf {
		return api.ErrState
	}
	if e := validSuffix(suffix); e != api.OK {
		return e
	}
	if e := validOuts(outs, suffix); e != api.OK {
		return e
	}
	if e := newAccess(t, access); e != api.OK {
		return e
	}
	if e := validOuts(other, suffix); e != api.OK {
		return e
	}
	if slices.Equal(outs, other) {
		return api.ErrConflict
	}
	return room(t, 2)
}

// newAccess checks that an access word can be that of a new leaf.
func newAccess(t api.DTree, access []int) api.Errno {
	if e := word.Check(access, api.MaxInputs); e != api.OK {
		return e
	}
	taken := func(n api.DNode) bool { return n.Leaf && slices.Equal(n.Access, access) }
	if slices.ContainsFunc(t.Nodes, taken) {
		return api.ErrExists
	}
	return api.OK
}

// room checks that there can be so many nodes more.
func room(t api.DTree, more int) api.Errno {
	if len(t.Nodes)+more > api.MaxNodes {
		return api.ErrLimit
	}
	return api.OK
}

// addLeaf adds a leaf as the last node of t, which is changed, and makes it the child of a node for these outputs.
func addLeaf(t *api.DTree, node int, outs, access []int) {
	n := &t.Nodes[node]
	place, _ := child(*n, outs)
	n.Outs = slices.Insert(n.Outs, place, slices.Clone(outs))
	n.Kids = slices.Insert(n.Kids, place, len(t.Nodes))
	t.Nodes = append(t.Nodes, api.DNode{Leaf: true, Access: slices.Clone(access)})
}

// copied returns a tree in new memory.
func copied(t api.DTree) api.DTree {
	nodes := slices.Clone(t.Nodes)
	for i, n := range nodes {
		nodes[i].Access, nodes[i].Suffix = slices.Clone(n.Access), slices.Clone(n.Suffix)
		nodes[i].Kids, nodes[i].Outs = slices.Clone(n.Kids), slices.Clone(n.Outs)
		for k, outs := range n.Outs {
			nodes[i].Outs[k] = slices.Clone(outs)
		}
	}
	return api.DTree{Nodes: nodes}
}
