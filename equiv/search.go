package equiv

import (
	"slices"

	"learner/api"
)

// pair is a state of a first machine and one of a second machine, which the same word reaches.
type pair struct {
	a int
	b int
}

// arrival is a pair, the index of the arrival before it, and the input that leads from there to the pair.
type arrival struct {
	at     pair
	before int
	input  int
}

// first returns the first word in shortlex order with different output words from the two states of the pair start.
func first(a, b api.Mealy, start pair) ([]int, bool) {
	// If the pairs are examined in the order of the first words that reach them, the new ones are found in that order.
	found := []arrival{{at: start}}
	var seen [api.MaxStates][api.MaxStates]bool
	seen[start.a][start.b] = true
	for i := 0; i < len(found); i++ {
		p := found[i].at
		for input := range a.Inputs {
			if a.Out[p.a][input] != b.Out[p.b][input] {
				return append(access(found, i), input), true
			}
			next := pair{a.Next[p.a][input], b.Next[p.b][input]}
			if !seen[next.a][next.b] {
				seen[next.a][next.b] = true
				found = append(found, arrival{next, i, input})
			}
		}
	}
	return nil, false
}

// access returns the first word that leads from the first pair that was found to the one with the index i.
func access(found []arrival, i int) []int {
	var w []int
	for start := found[0].at; found[i].at != start; i = found[i].before {
		w = append(w, found[i].input)
	}
	slices.Reverse(w)
	return w
}
