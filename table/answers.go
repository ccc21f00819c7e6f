package table

import (
	"slices"
	"sort"

	"learner/api"
	"learner/word"
)

// answers contains traces that begin with the same word, in dictionary order of their inputs. In this order the first trace that is not before a word begins with it, if any trace does, so that many words are found faster than by observe.Answer.
type answers struct {
	traces []api.Trace
	begun  int // the length of the word with which all traces begin
}

// collected returns the traces of observations, which share the memory of o.
func collected(o api.Obs) answers {
	// Observations that are not valid can have too few outputs.
	incomplete := func(t api.Trace) bool { return len(t.Out) != len(t.In) }
	traces := slices.DeleteFunc(slices.Clone(o.Traces), incomplete)
	slices.SortFunc(traces, func(t, u api.Trace) int { return word.Lex(t.In, u.In) })
	return answers{traces: traces}
}

// place returns the index of the first trace that does not continue with a word before w.
func (l answers) place(w []int) int {
	i, _ := slices.BinarySearchFunc(l.traces, w, func(t api.Trace, w []int) int { return word.Lex(t.In[l.begun:], w) })
	return i
}

// continued reports whether the trace with the index i continues with w.
func (l answers) continued(i int, w []int) bool {
	return word.HasPrefix(l.traces[i].In[l.begun:], w)
}

// after returns the traces that continue with w.
func (l answers) after(w []int) answers {
	from := l.place(w)
	n := sort.Search(len(l.traces)-from, func(i int) bool { return !l.continued(from+i, w) })
	return answers{traces: l.traces[from : from+n], begun: l.begun + len(w)}
}

// outputs returns the outputs with which a trace answers w, and false if there is no such trace.
func (l answers) outputs(w []int) ([]int, bool) {
	i := l.place(w)
	if i == len(l.traces) || !l.continued(i, w) {
		return nil, false
	}
	return l.traces[i].Out[l.begun : l.begun+len(w)], true
}
