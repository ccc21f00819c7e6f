package distinguish

import (
	"slices"

	"learner/api"
)

// builder contains the nodes of a tree that are built so far.
type builder struct {
	m     api.Mealy
	twins [][]int
	nodes []api.AdsNode
}

// arrival is a list of current states, the index of the arrival before it, and the input that leads from there to the list.
type arrival struct {
	list   []int
	before int
	input  int
}

// twins returns, for each state and each input, the least state with the same output and the same next state.
func twins(m api.Mealy) [][]int {
	var least [][]int
	for s := range m.Next {
		row := make([]int, m.Inputs)
		for a := range row {
			for m.Out[row[a]][a] != m.Out[s][a] || m.Next[row[a]][a] != m.Next[s][a] {
				row[a]++
			}
		}
		least = append(least, row)
	}
	return least
}

// add adds the node of a group, from which the inputs of a word lead on, and all nodes below it. It returns the number of the node, and false if there are too many nodes.
func (b *builder) add(g group, w []int) (int, bool) {
	number := len(b.nodes)
	if number == api.MaxNodes {
		return 0, false
	}
	b.nodes = append(b.nodes, api.AdsNode{States: g.states, Input: -1})
	if len(w) == 0 && len(g.states) > 1 {
		w = b.search(g.current)
	}
	if len(w) == 0 {
		return number, true
	}
	var kids []api.AdsKid
	for _, x := range g.branches(b.m, w[0]) {
		to, ok := b.add(x.group, w[1:])
		if !ok {
			return 0, false
		}
		kids = append(kids, api.AdsKid{Out: x.out, To: to})
	}
	b.nodes[number].Input, b.nodes[number].Kids = w[0], kids
	return number, true
}

// search returns the first word that is safe for a list of states and does not have the same output word from all of them. It returns the empty word if there is none, or if there are too many lists.
func (b *builder) search(states []int) []int {
	found := []arrival{{list: states}}
	seen := map[string]bool{key(states): true}
	for i := 0; i < len(found); i++ {
		for input := range b.m.Inputs {
			if !b.safe(found[i].list, input) {
				continue
			}
			if b.differs(found[i].list, input) {
				return append(access(found, i), input)
			}
			next := b.after(found[i].list, input)
			if seen[key(next)] {
				continue
			}
			if len(found) == api.MaxNodes {
				return nil
			}
			seen[key(next)] = true
			found = append(found, arrival{next, i, input})
		}
	}
	return nil
}

// safe reports whether no two states of a list have the same output and the same next state.
func (b *builder) safe(list []int, input int) bool {
	var seen [api.MaxStates]bool
	for _, s := range list {
		twin := b.twins[s][input]
		if seen[twin] {
			return false
		}
		seen[twin] = true
	}
	return true
}

// differs reports whether the states of a list do not all have the same output.
func (b *builder) differs(list []int, input int) bool {
	return slices.ContainsFunc(list, func(s int) bool { return b.m.Out[s][input] != b.m.Out[list[0]][input] })
}

// after returns the list of the next states.
func (b *builder) after(list []int, input int) []int {
	next := make([]int, len(list))
	for i, s := range list {
		next[i] = b.m.Next[s][input]
	}
	return next
}

// key returns a text for a list of states, because lists cannot be keys of a map. Each state fits into a byte.
func key(list []int) string {
	text := make([]byte, len(list))
	for i, s := range list {
		text[i] = byte(s)
	}
	return string(text)
}

// access returns the first word that leads to the arrival with the index i.
func access(found []arrival, i int) []int {
	var w []int
	for ; i > 0; i = found[i].before {
		w = append(w, found[i].input)
	}
	slices.Reverse(w)
	return w
}
