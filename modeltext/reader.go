package modeltext

import (
	"slices"
	"strings"

	"learner/alphabet"
	"learner/api"
)

// heads is the number of lines before those of the transitions.
const heads = 5

// none stands for the next state and the output of a transition that is not known yet.
const none = -1

// reader builds a model from the lines of a text.
type reader struct {
	model  api.Model
	states api.Alphabet // an alphabet only for its names: there can be more states than a valid one has symbols
	read   int          // lines that were read and not skipped
	open   int          // transitions that are not known yet
}

// line reads a line with its line feed.
func (r *reader) line(line string) api.Errno {
	text, ended := strings.CutSuffix(line, "\n")
	if !ended {
		return api.ErrSyntax
	}
	if text == "" || text[0] == '#' {
		return api.OK
	}
	words := strings.Split(text, " ")
	if slices.Contains(words, "") {
		return api.ErrSyntax
	}
	r.read++
	return r.words(words)
}

// words reads the words of a line. What they have to be depends on the number of lines before it.
func (r *reader) words(words []string) api.Errno {
	e := api.OK
	switch r.read {
	case 1:
		e = r.machine(words)
	case 2:
		r.model.In, e = symbols("inputs", words)
	case 3:
		r.model.Out, e = symbols("outputs", words)
	case 4:
		e = r.stateNames(words)
	case heads:
		e = r.start(words)
	default:
		e = r.transition(words)
	}
	return e
}

// machine reads the line with the name of the model.
func (r *reader) machine(words []string) api.Errno {
	if len(words) != 2 || words[0] != "machine" {
		return api.ErrSyntax
	}
	if !alphabet.Name(words[1]) {
		return api.ErrName
	}
	r.model.Name = words[1]
	return api.OK
}

// symbols reads a line with names of symbols, which begins with a certain word.
func symbols(first string, words []string) (api.Alphabet, api.Errno) {
	if words[0] != first {
		return api.Alphabet{}, api.ErrSyntax
	}
	a := api.Alphabet{Names: words[1:]}
	return a, alphabet.Valid(a)
}

// stateNames reads the line with the names of the states.
func (r *reader) stateNames(words []string) api.Errno {
	if words[0] != "states" {
		return api.ErrSyntax
	}
	names := words[1:]
	if len(names) == 0 {
		return api.ErrEmpty
	}
	if len(names) > api.MaxStates {
		return api.ErrLimit
	}
	for i, name := range names {
		if !alphabet.Name(name) {
			return api.ErrName
		}
		if slices.Contains(names[:i], name) {
			return api.ErrExists
		}
	}
	r.states.Names = names
	r.prepare()
	return api.OK
}

// prepare makes room for the transitions, none of which is known yet.
func (r *reader) prepare() {
	m := &r.model.M
	m.Inputs = len(r.model.In.Names)
	unknown := []int{none}
	for range r.states.Names {
		m.Next = append(m.Next, slices.Repeat(unknown, m.Inputs))
		m.Out = append(m.Out, slices.Repeat(unknown, m.Inputs))
		r.open += m.Inputs
	}
}

// start reads the line with the name of the start state.
func (r *reader) start(words []string) api.Errno {
	if len(words) != 2 || words[0] != "start" {
		return api.ErrSyntax
	}
	s, ok := alphabet.Index(r.states, words[1])
	if !ok {
		return api.ErrNotFound
	}
	r.model.M.Start = s
	return api.OK
}

// transition reads the line of a transition.
func (r *reader) transition(words []string) api.Errno {
	if len(words) != 4 {
		return api.ErrSyntax
	}
	s, isState := alphabet.Index(r.states, words[0])
	a, isInput := alphabet.Index(r.model.In, words[1])
	output, isOutput := alphabet.Index(r.model.Out, words[2])
	next, isNext := alphabet.Index(r.states, words[3])
	if !isState || !isInput || !isOutput || !isNext {
		return api.ErrNotFound
	}
	m := r.model.M
	if m.Next[s][a] != none {
		return api.ErrExists
	}
	m.Next[s][a], m.Out[s][a] = next, output
	r.open--
	return api.OK
}

// complete reports whether no line is missing.
func (r *reader) complete() bool {
	return r.read >= heads && r.open == 0
}
