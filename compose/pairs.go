package compose

import "learner/api"

// pair is a state of each of two machines.
type pair struct {
	a int
	b int
}

// output is what a machine answers. The zero value is that of a machine which is not asked.
type output struct {
	given bool
	value int
}

// outputs are what both machines of a pair answer.
type outputs struct {
	a output
	b output
}

// pairs are those that words reach from a pair start: an input leads from a pair p to the pair of step(p, input), and the outputs there have a number.
type pairs struct {
	inputs int
	start  pair
	step   func(p pair, input int) (pair, outputs)
	number func(o outputs) int
}

// answer returns the state after an input, and the output.
func answer(m api.Mealy, s, input int) (int, output) {
	return m.Next[s][input], output{true, m.Out[s][input]}
}

// machine returns the machine whose states are the pairs. It returns ErrLimit if there are too many of them, or an output is too great.
func (x pairs) machine() (api.Mealy, api.Errno) {
	m := api.Mealy{Inputs: x.inputs}
	found := []pair{x.start}
	numbers := map[pair]int{x.start: 0}
	// If the pairs are examined in the order of their access words, the new ones are found in that order.
	for i := 0; i < len(found); i++ {
		next, out := make([]int, x.inputs), make([]int, x.inputs)
		for input := range x.inputs {
			p, o := x.step(found[i], input)
			n, known := numbers[p]
			if !known {
				n = len(found)
				numbers[p] = n
				found = append(found, p)
			}
			next[input], out[input] = n, x.number(o)
			if n >= api.MaxStates || out[input] > api.MaxOutput {
				return api.Mealy{}, api.ErrLimit
			}
		}
		m.Next, m.Out = append(m.Next, next), append(m.Out, out)
	}
	return m, api.OK
}
