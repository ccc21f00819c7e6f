package cover

import "learner/api"

// tracker executes a machine, and counts the states that are visited and the transitions that are taken.
type tracker struct {
	m           api.Mealy
	state       int
	visited     [api.MaxStates]bool
	taken       [api.MaxStates][api.MaxInputs]bool
	states      int
	transitions int
}

// visit counts the current state if it has not been visited yet.
func (t *tracker) visit() {
	if !t.visited[t.state] {
		t.visited[t.state] = true
		t.states++
	}
}

// follow applies a word to the current state.
func (t *tracker) follow(w []int) {
	for _, input := range w {
		if !t.taken[t.state][input] {
			t.taken[t.state][input] = true
			t.transitions++
		}
		t.state = t.m.Next[t.state][input]
		t.visit()
	}
}

// nearest returns the first word in shortlex order that leads from the current state and ends with a transition that is not taken yet. All transitions before that one are taken, because the word would end there otherwise.
func (t *tracker) nearest() ([]int, bool) {
	found, ok := seek(t.m, t.state, func(state, input int) bool { return !t.taken[state][input] })
	if !ok {
		return nil, false
	}
	return found.word(len(found) - 1), true
}
