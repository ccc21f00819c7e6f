package nondet

import (
	"slices"
	"sort"

	"learner/api"
	"learner/observe"
	"learner/word"
)

// Settle returns the observations of traces up to the first symbol of each that is uncertain, and all clashes.
func Settle(l []api.Trace, inputs int) (api.Obs, []api.Clash, api.Errno) {
	o, e := observe.New(inputs)
	if e != api.OK {
		return api.Obs{}, nil, e
	}
	for _, t := range l {
		// Added to no other traces, a trace has only errors of its own.
		if _, e := observe.Add(o, t); e != api.OK {
			return api.Obs{}, nil, e
		}
	}
	clashes := Clashes(l)
	uncertain := shortest(clashes)
	var remaining []api.Trace
	for _, t := range l {
		n := certain(t.In, uncertain)
		remaining = append(remaining, api.Trace{In: t.In[:n], Out: t.Out[:n]})
	}
	// Two traces that contradict each other agree up to a clash, at which both were cut. So the maximal ones are the traces of valid observations.
	o.Traces = maximal(remaining)
	if len(o.Traces) > api.MaxTraces {
		return api.Obs{}, nil, api.ErrLimit
	}
	return o, clashes, api.OK
}

// shortest returns the words of clashes of which no other one is a prefix, in dictionary order.
func shortest(clashes []api.Clash) [][]int {
	var words [][]int
	for _, c := range clashes {
		words = append(words, c.Word)
	}
	slices.SortFunc(words, word.Lex)
	var first [][]int
	for _, w := range words {
		// Words with a common prefix follow it, so that only the last one of the list can be a prefix of w.
		if n := len(first); n == 0 || !word.HasPrefix(w, first[n-1]) {
			first = append(first, w)
		}
	}
	return first
}

// certain returns the number of symbols of w before the last symbol of the uncertain word that is a prefix of w, or of all of them if there is none.
func certain(w []int, uncertain [][]int) int {
	// Between a prefix of w and w there are only words with this prefix, and no uncertain word is a prefix of another one. So it can only be the last one that is not after w.
	after := sort.Search(len(uncertain), func(i int) bool { return word.Lex(uncertain[i], w) > 0 })
	if after > 0 && word.HasPrefix(w, uncertain[after-1]) {
		return len(uncertain[after-1]) - 1
	}
	return len(w)
}

// maximal returns copies of those traces that are no prefixes of others, each once and sorted. No two of the traces contradict each other.
func maximal(l []api.Trace) []api.Trace {
	slices.SortFunc(l, func(t, u api.Trace) int { return word.Lex(t.In, u.In) })
	var kept []api.Trace
	for i, t := range l {
		if len(t.In) == 0 || i+1 < len(l) && word.HasPrefix(l[i+1].In, t.In) {
			continue
		}
		kept = append(kept, api.Trace{In: slices.Clone(t.In), Out: slices.Clone(t.Out)})
	}
	slices.SortFunc(kept, func(t, u api.Trace) int { return word.Compare(t.In, u.In) })
	return kept
}
