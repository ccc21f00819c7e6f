package observe

import (
	"slices"

	"learner/api"
	"learner/word"
)

// Valid checks the traces of observations, their order, and that they fit together.
func Valid(o api.Obs) api.Errno {
	if !permitted(o.Inputs) {
		return api.ErrRange
	}
	if len(o.Traces) > api.MaxTraces {
		return api.ErrLimit
	}
	for i, t := range o.Traces {
		if e := listed(t, o.Inputs); e != api.OK {
			return e
		}
		if i > 0 && word.Compare(o.Traces[i-1].In, t.In) >= 0 {
			return api.ErrState
		}
	}
	return fit(o.Traces)
}

// listed checks that a trace is proper and not empty.
func listed(t api.Trace, inputs int) api.Errno {
	if e := word.Check(t.In, inputs); e != api.OK {
		return e
	}
	if len(t.In) == 0 {
		return api.ErrEmpty
	}
	return answered(t)
}

// proper checks that a trace, which may be empty, has a word of inputs and an output for each of them.
func proper(t api.Trace, inputs int) api.Errno {
	if e := word.Check(t.In, inputs); e != api.OK {
		return e
	}
	return answered(t)
}

// answered checks the outputs of a trace.
func answered(t api.Trace) api.Errno {
	if len(t.Out) != len(t.In) {
		return api.ErrInvalid
	}
	for _, output := range t.Out {
		if output < 0 || output > api.MaxOutput {
			return api.ErrRange
		}
	}
	return api.OK
}

// fit checks, for traces in shortlex order, that none of them is a prefix of another one and no two contradict each other.
func fit(l []api.Trace) api.Errno {
	d := dictionary(l)
	extended, contradicted := make([]bool, len(l)), make([]bool, len(l))
	for p, shared := range d.shared {
		first, second := l[d.order[p]], l[d.order[p+1]]
		if shared == len(first.In) {
			extended[d.order[p]] = true
		}
		agreed := word.Common(first.Out[:shared], second.Out[:shared])
		if agreed == shared {
			continue
		}
		// Each trace that shares the input at which these two differ contradicts one of them. All contradictions are found in this way: between two traces that differ there are neighbours that differ.
		from, to := d.around(p, agreed+1)
		for _, i := range d.order[from:to] {
			contradicted[i] = true
		}
	}
	for i := range l {
		if extended[i] {
			return api.ErrExists
		}
		if contradicted[i] {
			return api.ErrNondet
		}
	}
	return api.OK
}

// sorted contains the indices of traces in dictionary order of the input words, and for each of them but the last one the length of the longest common prefix with the next one. So traces with a common prefix are beside each other.
type sorted struct {
	order  []int
	shared []int
}

// dictionary sorts traces.
func dictionary(l []api.Trace) sorted {
	var d sorted
	for i := range l {
		d.order = append(d.order, i)
	}
	slices.SortFunc(d.order, func(i, j int) int { return word.Lex(l[i].In, l[j].In) })
	for p := 1; p < len(l); p++ {
		d.shared = append(d.shared, word.Common(l[d.order[p-1]].In, l[d.order[p]].In))
	}
	return d
}

// around returns the first position of the traces that share n inputs with the one at the position p, and the position after the last one.
func (d sorted) around(p, n int) (int, int) {
	from, last := p, p
	for from > 0 && d.shared[from-1] >= n {
		from--
	}
	for last < len(d.shared) && d.shared[last] >= n {
		last++
	}
	return from, last + 1
}
