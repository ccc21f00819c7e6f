package table

import (
	"strconv"

	"learner/api"
	"learner/observe"
	"learner/word"
	"learner/wordset"
)

// Needed returns the cells that are not answered and no proper prefixes of others that are not answered.
func Needed(t api.Table, o api.Obs) ([][]int, api.Errno) {
	if e := fitting(t, o); e != api.OK {
		return nil, e
	}
	// If a cell is not answered, those with a longer suffix that begins with its suffix are not, either.
	suffixes := wordset.Maximal(t.Suffixes)
	var open [][]int
	examine := func(w []int, known answers) {
		for _, suffix := range suffixes {
			if _, ok := known.outputs(suffix); !ok {
				open = append(open, word.Join(w, suffix))
			}
		}
	}
	all := collected(o)
	for _, prefix := range t.Prefixes {
		known := all.after(prefix)
		examine(prefix, known)
		for input := range t.Inputs {
			symbol := []int{input}
			examine(word.Join(prefix, symbol), known.after(symbol))
		}
	}
	return wordset.Maximal(open), api.OK
}

// fitting checks a table, and that the observations have the same inputs.
func fitting(t api.Table, o api.Obs) api.Errno {
	if e := Valid(t); e != api.OK {
		return e
	}
	if t.Inputs != o.Inputs {
		return api.ErrConflict
	}
	return api.OK
}

// Row returns the row of w, and false if it is not known.
func Row(t api.Table, o api.Obs, w []int) ([][]int, bool) {
	if fitting(t, o) != api.OK {
		return nil, false
	}
	return row(t.Suffixes, func(suffix []int) ([]int, bool) {
		answer, ok := observe.Answer(o, word.Join(w, suffix))
		if !ok {
			return nil, false
		}
		return answer[len(w):], true
	})
}

// row returns the outputs for each suffix, and false if those for one of them are not known.
func row(suffixes [][]int, outputs func(suffix []int) ([]int, bool)) ([][]int, bool) {
	var found [][]int
	for _, suffix := range suffixes {
		l, ok := outputs(suffix)
		if !ok {
			return nil, false
		}
		found = append(found, l)
	}
	return found, true
}

// rowNumbers numbers the different rows for some suffixes in the order in which they are found.
type rowNumbers struct {
	suffixes [][]int
	known    answers
	rows     [][][]int // the row of each number; the memory is that of the observations
	numbers  map[string]int
	text     []byte // the key of the last row, whose memory is used again
}

// of returns the number of the row of w, and false if this row is not known.
func (r *rowNumbers) of(w []int) (int, bool) {
	outputs, ok := row(r.suffixes, r.known.after(w).outputs)
	if !ok {
		return 0, false
	}
	r.text = appendKey(r.text[:0], outputs)
	n, found := r.numbers[string(r.text)]
	if !found {
		n = len(r.rows)
		r.numbers[string(r.text)] = n
		r.rows = append(r.rows, outputs)
	}
	return n, true
}

// appendKey appends a text for a row, because lists cannot be keys of a map. The rows of a table have lists of the same lengths, so that the text need not show where these end.
func appendKey(text []byte, outputs [][]int) []byte {
	for _, l := range outputs {
		for _, output := range l {
			text = append(strconv.AppendInt(text, int64(output), 10), ' ')
		}
	}
	return text
}
