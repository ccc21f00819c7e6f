package nondet

import (
	"cmp"
	"slices"

	"learner/api"
	"learner/word"
)

// Clashes returns all words for whose last symbol traces have different outputs after equal ones.
func Clashes(l []api.Trace) []api.Clash {
	sorted := slices.Clone(l)
	slices.SortFunc(sorted, order)
	// Traces that are equal up to an input are beside each other, and sorted by its output. So every clash shows between two neighbours, and first between those with the least and the second least output.
	var all []api.Clash
	for i := 1; i < len(sorted); i++ {
		if c, ok := clash(sorted[i-1], sorted[i]); ok {
			all = append(all, c)
		}
	}
	// Groups with the same word are in dictionary order of their equal outputs. A stable sort keeps this order, so that the first one of each word counts.
	slices.SortStableFunc(all, func(c, d api.Clash) int { return word.Compare(c.Word, d.Word) })
	all = slices.CompactFunc(all, func(c, d api.Clash) bool { return slices.Equal(c.Word, d.Word) })
	for i := range all {
		all[i].Word = slices.Clone(all[i].Word)
	}
	return all
}

// steps returns the number of steps of a trace.
func steps(t api.Trace) int {
	return min(len(t.In), len(t.Out))
}

// shared returns the number of the first steps that are the same in two traces.
func shared(t, u api.Trace) int {
	return min(word.Common(t.In, u.In), word.Common(t.Out, u.Out))
}

// order compares traces by the first step that differs, by its input first. A trace with fewer steps is before those that continue it.
func order(t, u api.Trace) int {
	n := shared(t, u)
	if n == steps(t) || n == steps(u) {
		return cmp.Compare(steps(t), steps(u))
	}
	return cmp.Or(cmp.Compare(t.In[n], u.In[n]), cmp.Compare(t.Out[n], u.Out[n]))
}

// clash returns the clash of two traces, the first one of which is before the second one. Its word is a part of the first one.
func clash(t, u api.Trace) (api.Clash, bool) {
	n := shared(t, u)
	if n == steps(t) || n == steps(u) || t.In[n] != u.In[n] {
		return api.Clash{}, false
	}
	return api.Clash{Word: t.In[:n+1], First: t.Out[n], Second: u.Out[n]}, true
}
