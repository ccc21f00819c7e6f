package dfa

import (
	"slices"

	"learner/api"
)

// pair is two states, or a state and a number, that the same word reaches.
type pair [2]int

// pairs are those that words reach: a symbol leads from a pair p to step(p, symbol).
type pairs struct {
	inputs int
	start  pair
	step   func(p pair, symbol int) pair
}

// automaton returns the trimmed automaton whose states are the pairs. It returns ErrLimit if there are too many of them.
func (x pairs) automaton(accept func(pair) bool) (api.DFA, api.Errno) {
	d := api.DFA{Inputs: x.inputs}
	found := begin(x.start)
	for i := 0; i < len(found.list); i++ {
		p := found.list[i]
		row := make([]int, x.inputs)
		for symbol := range row {
			row[symbol] = found.number(x.step(p, symbol), origin{i, symbol})
		}
		if len(found.list) > api.MaxStates {
			return api.DFA{}, api.ErrLimit
		}
		d.Next = append(d.Next, row)
		d.Accept = append(d.Accept, accept(p))
	}
	return d, api.OK
}

// search returns the first word in shortlex order that reaches a wanted pair.
func (x pairs) search(wanted func(pair) bool) ([]int, bool) {
	found := begin(x.start)
	for i := 0; i < len(found.list); i++ {
		p := found.list[i]
		if wanted(p) {
			return found.access(i), true
		}
		for symbol := range x.inputs {
			found.number(x.step(p, symbol), origin{i, symbol})
		}
	}
	return nil, false
}

// discovery lists pairs in the order in which they are found. This is the order of their access words, if the steps from each of them are taken in turn.
type discovery struct {
	list    []pair
	origins []origin
	numbers map[pair]int
}

// origin tells how a pair was found first: the pair before it, and the symbol that leads from there.
type origin struct {
	before int
	symbol int
}

// begin returns the discovery of the pair of the empty word, which has the number 0 and whose origin is never used.
func begin(start pair) discovery {
	return discovery{[]pair{start}, []origin{{}}, map[pair]int{start: 0}}
}

// number returns the number of a pair, which is added if it is new.
func (f *discovery) number(p pair, from origin) int {
	n, known := f.numbers[p]
	if !known {
		n = len(f.list)
		f.numbers[p] = n
		f.list = append(f.list, p)
		f.origins = append(f.origins, from)
	}
	return n
}

// access returns the access word of the pair with the number n.
func (f *discovery) access(n int) []int {
	var w []int
	for n > 0 {
		w = append(w, f.origins[n].symbol)
		n = f.origins[n].before
	}
	slices.Reverse(w)
	return w
}
