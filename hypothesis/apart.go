package hypothesis

import (
	"slices"

	"learner/api"
	"learner/observe"
	"learner/word"
)

// Apart returns the first word in shortlex order after which u and v were observed to differ, and false if there is none.
func Apart(o api.Obs, u, v []int) ([]int, bool) {
	var first []int
	few, many := ordered(after(o, u), after(o, v))
	for _, t := range few.Traces {
		// The word of a clash is the first one among the prefixes of the inputs of t.
		if c, ok := observe.Clash(many, t); ok {
			first = earlier(first, c.Word)
		}
	}
	return first, first != nil
}

// Lower returns how many words are kept if each one that is apart from all words that have been kept is kept, too.
func Lower(o api.Obs, words [][]int) int {
	var kept []api.Obs
	for _, w := range words {
		rest := after(o, w)
		alike := func(k api.Obs) bool { return !contradict(k, rest) }
		if !slices.ContainsFunc(kept, alike) {
			kept = append(kept, rest)
		}
	}
	return len(kept)
}

// contradict reports whether traces of two observations contradict each other.
func contradict(a, b api.Obs) bool {
	few, many := ordered(a, b)
	return slices.ContainsFunc(few.Traces, func(t api.Trace) bool {
		_, ok := observe.Clash(many, t)
		return ok
	})
}

// ordered returns the one of two observations with fewer traces first, whose traces are then searched in those of the other one.
func ordered(a, b api.Obs) (api.Obs, api.Obs) {
	if len(b.Traces) < len(a.Traces) {
		return b, a
	}
	return a, b
}

// after returns what is observed after a word. The traces share the memory of o; as their beginnings are equal, they remain in shortlex order.
func after(o api.Obs, w []int) api.Obs {
	rest := api.Obs{Inputs: o.Inputs}
	for _, t := range o.Traces {
		// The outputs are compared because observations that are not valid can have too few of them.
		if len(t.In) > len(w) && len(t.Out) == len(t.In) && word.HasPrefix(t.In, w) {
			rest.Traces = append(rest.Traces, api.Trace{In: t.In[len(w):], Out: t.Out[len(w):]})
		}
	}
	return rest
}
