package table

import (
	"slices"

	"learner/api"
	"learner/word"
)

// filled is a complete table with the numbers of its rows. The rows of prefixes have the first numbers, in the order of the first prefixes with these rows.
type filled struct {
	api.Table
	rows       [][][]int // the row of each number
	states     int       // the number of different rows of prefixes
	prefixes   []int     // the number of the row of each prefix
	extensions [][]int   // the number of the row of each prefix followed by each input
}

// fill finds the rows of a table that is complete.
func fill(t api.Table, o api.Obs) (filled, api.Errno) {
	if e := fitting(t, o); e != api.OK {
		return filled{}, e
	}
	f := filled{Table: t}
	found := rowNumbers{suffixes: t.Suffixes, known: collected(o), numbers: map[string]int{}}
	for _, prefix := range t.Prefixes {
		n, ok := found.of(prefix)
		if !ok {
			return filled{}, api.ErrIncomplete
		}
		f.prefixes = append(f.prefixes, n)
	}
	f.states = len(found.rows)
	for _, prefix := range t.Prefixes {
		var numbers []int
		for input := range t.Inputs {
			n, ok := found.of(word.Join(prefix, []int{input}))
			if !ok {
				return filled{}, api.ErrIncomplete
			}
			numbers = append(numbers, n)
		}
		f.extensions = append(f.extensions, numbers)
	}
	f.rows = found.rows
	return f, api.OK
}

// Unclosed returns the first extension whose row is not that of a prefix, and false if the table is closed.
func Unclosed(t api.Table, o api.Obs) ([]int, bool, api.Errno) {
	f, e := fill(t, o)
	if e != api.OK {
		return nil, false, e
	}
	w, open := f.unclosed()
	return w, open, api.OK
}

// unclosed returns the first extension whose row is not that of a prefix.
func (f filled) unclosed() ([]int, bool) {
	// The extensions of sorted prefixes are sorted, too.
	for i, numbers := range f.extensions {
		for input, n := range numbers {
			if n >= f.states {
				return word.Join(f.Prefixes[i], []int{input}), true
			}
		}
	}
	return nil, false
}

// Inconsistent returns the first word after which prefixes with equal rows differ, and false if the table is consistent.
func Inconsistent(t api.Table, o api.Obs) ([]int, bool, api.Errno) {
	f, e := fill(t, o)
	if e != api.OK {
		return nil, false, e
	}
	w, wrong := f.inconsistent()
	return w, wrong, api.OK
}

// inconsistent returns the word for the first pair of prefixes with equal rows that differ after an input.
func (f filled) inconsistent() ([]int, bool) {
	for p, n := range f.prefixes {
		for q := p + 1; q < len(f.prefixes); q++ {
			if f.prefixes[q] != n {
				continue
			}
			if input := word.Common(f.extensions[p], f.extensions[q]); input < f.Inputs {
				suffix := f.difference(f.extensions[p][input], f.extensions[q][input])
				return word.Join([]int{input}, suffix), true
			}
		}
	}
	return nil, false
}

// difference returns the first suffix at which two different rows differ.
func (f filled) difference(n, k int) []int {
	for i, suffix := range f.Suffixes {
		if !slices.Equal(f.rows[n][i], f.rows[k][i]) {
			return suffix
		}
	}
	return nil
}

// Hypothesis returns the hypothesis of a closed and consistent table.
func Hypothesis(t api.Table, o api.Obs) (api.Hyp, api.Errno) {
	f, e := fill(t, o)
	if e != api.OK {
		return api.Hyp{}, e
	}
	_, open := f.unclosed()
	_, wrong := f.inconsistent()
	if open || wrong {
		return api.Hyp{}, api.ErrState
	}
	if f.states > api.MaxStates {
		return api.Hyp{}, api.ErrLimit
	}
	h := api.Hyp{M: api.Mealy{Inputs: t.Inputs}}
	for i, n := range f.prefixes {
		// Only the first prefix with a row has a number that is not there yet.
		if n < len(h.Access) {
			continue
		}
		h.Access = append(h.Access, slices.Clone(t.Prefixes[i]))
		h.M.Next = append(h.M.Next, f.extensions[i])
		// The first suffixes are the words of one symbol.
		h.M.Out = append(h.M.Out, slices.Concat(f.rows[n][:t.Inputs]...))
	}
	return h, api.OK
}
