package separate

import (
	"slices"

	"learner/api"
)

// set is a set of states.
type set [api.MaxStates]bool

// situation is what is left after a word that was applied to a state: the state that it leads to, and those that it leads to from the other states with the same output word.
type situation struct {
	state  int
	others set
}

// arrival is a situation, the index of the arrival before it, the input that leads from there to the situation, and the number of inputs so far.
type arrival struct {
	at     situation
	before int
	input  int
	length int
}

// Uio returns the first word of at most n symbols for which no other state has the output word that s has, and true; false if there is none.
func Uio(m api.Mealy, s, n int) ([]int, bool, api.Errno) {
	if e := check(m); e != api.OK {
		return nil, false, e
	}
	if s < 0 || s >= len(m.Next) || n < 0 || n > api.MaxStates {
		return nil, false, api.ErrRange
	}
	start := begin(m, s)
	if start.unique() {
		return nil, true, api.OK
	}
	return search(m, start, n)
}

// begin returns the situation of the empty word for the state s.
func begin(m api.Mealy, s int) situation {
	start := situation{state: s}
	for t := range m.Next {
		start.others[t] = t != s
	}
	return start
}

// search returns the first word of at most n symbols whose situation is unique, and true; false if there is none. It goes through the words in shortlex order, because the situations are examined in the order of their first words.
func search(m api.Mealy, start situation, n int) ([]int, bool, api.Errno) {
	found := []arrival{{at: start}}
	seen := map[situation]bool{start: true}
	for i := 0; i < len(found) && found[i].length < n; i++ {
		for input := range m.Inputs {
			next := found[i].at.after(m, input)
			if next.unique() {
				return append(access(found, i), input), true, api.OK
			}
			if next.hopeless() || seen[next] {
				continue
			}
			if len(found) == api.MaxNodes {
				return nil, false, api.ErrLimit
			}
			seen[next] = true
			found = append(found, arrival{next, i, input, found[i].length + 1})
		}
	}
	return nil, false, api.OK
}

// after returns the situation after one more input.
func (x situation) after(m api.Mealy, input int) situation {
	next := situation{state: m.Next[x.state][input]}
	for t, there := range x.others {
		if there && m.Out[t][input] == m.Out[x.state][input] {
			next.others[m.Next[t][input]] = true
		}
	}
	return next
}

// unique reports whether no other state has the same output word.
func (x situation) unique() bool {
	return x.others == set{}
}

// hopeless reports whether another state with the same output word has come to the same state, so that no longer word can show a difference.
func (x situation) hopeless() bool {
	return x.others[x.state]
}

// access returns the first word that leads to the arrival with the index i.
func access(found []arrival, i int) []int {
	var w []int
	for ; i > 0; i = found[i].before {
		w = append(w, found[i].input)
	}
	slices.Reverse(w)
	return w
}
