package dtree

import (
	"slices"

	"learner/api"
	"learner/word"
)

// Valid checks a tree.
func Valid(t api.DTree) api.Errno {
	if len(t.Nodes) == 0 {
		return api.ErrEmpty
	}
	if len(t.Nodes) > api.MaxNodes {
		return api.ErrLimit
	}
	for _, n := range t.Nodes {
		if e := validNode(t, n); e != api.OK {
			return e
		}
	}
	if !connected(t) {
		return api.ErrInvalid
	}
	words := accessWords(t)
	if len(slices.CompactFunc(words, slices.Equal[[]int])) < len(words) {
		return api.ErrExists
	}
	return api.OK
}

// validNode checks a node of t.
func validNode(t api.DTree, n api.DNode) api.Errno {
	if n.Leaf {
		return validLeaf(n)
	}
	if len(n.Access) > 0 {
		return api.ErrInvalid
	}
	if e := validSuffix(n.Suffix); e != api.OK {
		return e
	}
	if len(n.Outs) != len(n.Kids) {
		return api.ErrInvalid
	}
	for i, outs := range n.Outs {
		if e := validOuts(outs, n.Suffix); e != api.OK {
			return e
		}
		// The children before the last one were compared with each other already.
		if i > 0 && word.Lex(n.Outs[i-1], outs) >= 0 {
			return api.ErrState
		}
		if !isNode(t, n.Kids[i]) {
			return api.ErrRange
		}
	}
	return api.OK
}

// validLeaf checks a leaf.
func validLeaf(n api.DNode) api.Errno {
	if len(n.Suffix) > 0 || len(n.Outs) > 0 || len(n.Kids) > 0 {
		return api.ErrInvalid
	}
	return word.Check(n.Access, api.MaxInputs)
}

// validSuffix checks the suffix of an inner node.
func validSuffix(suffix []int) api.Errno {
	if len(suffix) == 0 {
		return api.ErrEmpty
	}
	return word.Check(suffix, api.MaxInputs)
}

// validOuts checks the outputs of a child for a suffix.
func validOuts(outs, suffix []int) api.Errno {
	if len(outs) != len(suffix) {
		return api.ErrInvalid
	}
	for _, output := range outs {
		if output < 0 || output > api.MaxOutput {
			return api.ErrRange
		}
	}
	return api.OK
}

// connected reports whether each node is reached from the root by exactly one path.
func connected(t api.DTree) bool {
	seen := make([]bool, len(t.Nodes))
	seen[0] = true
	found := []int{0}
	for i := 0; i < len(found); i++ {
		for _, kid := range t.Nodes[found[i]].Kids {
			if seen[kid] {
				return false
			}
			seen[kid] = true
			found = append(found, kid)
		}
	}
	return len(found) == len(t.Nodes)
}
