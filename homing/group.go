package homing

import (
	"slices"

	"learner/api"
)

// set is a set of states, in ascending order.
type set []int

// groups are the current states of those groups of a word that have several of them, in the dictionary order of the output words. A group that has one never has several again.
type groups []set

// all returns all states of m.
func all(m api.Mealy) set {
	var states set
	for s := range m.Next {
		states = append(states, s)
	}
	return states
}

// after returns the states to which an input leads from those that answer it with an output.
func (x set) after(m api.Mealy, input, output int) set {
	next := make(set, len(x))
	// The set is needed again for the other outputs, so that a copy is changed.
	copy(next, x)
	next = slices.DeleteFunc(next, func(s int) bool { return m.Out[s][input] != output })
	for i, s := range next {
		next[i] = m.Next[s][input]
	}
	slices.Sort(next)
	return slices.Compact(next)
}

// outputs returns the different outputs that the states have for an input, in ascending order.
func (x set) outputs(m api.Mealy, input int) []int {
	var found []int
	for _, s := range x {
		found = append(found, m.Out[s][input])
	}
	slices.Sort(found)
	return slices.Compact(found)
}

// begin returns the groups of the empty word.
func begin(m api.Mealy) groups {
	var found groups
	found.add(all(m))
	return found
}

// add adds a group after the others, if it has several current states.
func (x *groups) add(states set) {
	if len(states) > 1 {
		*x = append(*x, states)
	}
}

// after returns the groups after the inputs of a word.
func (x groups) after(m api.Mealy, w []int) groups {
	for _, input := range w {
		x = x.split(m, input)
	}
	return x
}

// split returns the groups after one more input. If each group is split in the order of the outputs, all groups stay in dictionary order.
func (x groups) split(m api.Mealy, input int) groups {
	var finer groups
	for _, states := range x {
		for _, output := range states.outputs(m, input) {
			finer.add(states.after(m, input, output))
		}
	}
	return finer
}
