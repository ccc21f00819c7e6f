package cover

import (
	"slices"

	"learner/api"
)

// search lists states in the shortlex order of the first words that lead to them from the first one.
type search []arrival

// arrival is a state, the index of the arrival before it, and the input that leads from there to the state.
type arrival struct {
	state  int
	before int
	input  int
}

// explore returns the search for all states that words lead to from the state s.
func explore(m api.Mealy, s int) search {
	found, _ := seek(m, s, func(state, input int) bool { return false })
	return found
}

// seek returns the search from the state s. It ends with the first transition that is wanted, and true, if there is one.
func seek(m api.Mealy, s int, wanted func(state, input int) bool) (search, bool) {
	found := search{{state: s}}
	var seen [api.MaxStates]bool
	seen[s] = true
	ok := false
examine:
	// If the states are examined in the order of the first words that lead to them, the new ones are found in that order.
	for i := 0; i < len(found); i++ {
		for input, next := range m.Next[found[i].state] {
			ok = wanted(found[i].state, input)
			if ok || !seen[next] {
				seen[next] = true
				found = append(found, arrival{next, i, input})
			}
			if ok {
				break examine
			}
		}
	}
	return found, ok
}

// states returns the states that were found.
func (f search) states() []int {
	var states []int
	for _, x := range f {
		states = append(states, x.state)
	}
	return states
}

// word returns the first word that leads to the arrival with the index i.
func (f search) word(i int) []int {
	var w []int
	for ; i > 0; i = f[i].before {
		w = append(w, f[i].input)
	}
	slices.Reverse(w)
	return w
}
