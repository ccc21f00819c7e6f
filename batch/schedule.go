package batch

import (
	"slices"

	"learner/api"
	"learner/cover"
)

// scheduler makes a schedule for a valid machine, and follows it.
type scheduler struct {
	m       api.Mealy
	latency api.Latency
	moves   []api.Move
	time    int
	state   int              // the state in which the last word has ended
	returns map[int]api.Move // for states in which words have ended, a move without a word
}

// add appends a move for a word.
func (s *scheduler) add(w []int) {
	move := api.Move{Reset: true}
	if len(s.moves) > 0 {
		move = s.back()
	}
	move.Word = w
	s.moves = append(s.moves, move)
	s.time += s.beginning(move) + s.cost(w)
	s.state = s.after(w)
}

// back returns a move without a word that leads from the current state to Start: the first path in shortlex order if it takes less time than a reset.
func (s *scheduler) back() api.Move {
	move, known := s.returns[s.state]
	if !known {
		path, found, _ := cover.Path(s.m, s.state, s.m.Start)
		move = api.Move{Path: path}
		if !found || s.cost(path) >= s.latency.Reset {
			move = api.Move{Reset: true}
		}
		s.returns[s.state] = move
	}
	// Each move of the schedule has memory of its own.
	move.Path = slices.Clone(move.Path)
	return move
}

// beginning returns the time that a move needs before its word.
func (s *scheduler) beginning(move api.Move) int {
	if move.Reset {
		return s.latency.Reset
	}
	return s.cost(move.Path)
}

// cost returns the time of the steps of a word.
func (s *scheduler) cost(w []int) int {
	time := 0
	for _, input := range w {
		time += s.latency.Step[input]
	}
	return time
}

// after returns the state that a word reaches.
func (s *scheduler) after(w []int) int {
	state := s.m.Start
	for _, input := range w {
		state = s.m.Next[state][input]
	}
	return state
}
