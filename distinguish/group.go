package distinguish

import (
	"cmp"
	"slices"

	"learner/api"
)

// group contains initial states in ascending order, and the current state of each of them.
type group struct {
	states  []int
	current []int
}

// branch is the group of the initial states that have the same output.
type branch struct {
	out int
	group
}

// whole returns the group of all states before any input.
func whole(m api.Mealy) group {
	var g group
	for s := range m.Next {
		g.add(s, s)
	}
	return g
}

// add adds an initial state with its current state.
func (g *group) add(state, current int) {
	g.states = append(g.states, state)
	g.current = append(g.current, current)
}

// branches returns the groups after an input, ascending by output.
func (g group) branches(m api.Mealy, input int) []branch {
	var found []branch
	for i, s := range g.current {
		out := m.Out[s][input]
		k, known := slices.BinarySearchFunc(found, out, func(x branch, out int) int { return cmp.Compare(x.out, out) })
		if !known {
			found = slices.Insert(found, k, branch{out: out})
		}
		found[k].add(g.states[i], m.Next[s][input])
	}
	return found
}

// apart reports whether the current states are different.
func (g group) apart() bool {
	var seen [api.MaxStates]bool
	for _, s := range g.current {
		if seen[s] {
			return false
		}
		seen[s] = true
	}
	return true
}
