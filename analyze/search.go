package analyze

import (
	"slices"

	"learner/api"
	"learner/hypothesis"
	"learner/mealy"
	"learner/observe"
	"learner/word"
)

// search finds a break of w between the position 0, which is bad, and the last one, which is good. As long as there are positions between a bad and a good one, next chooses the one that is examined.
func search(h api.Hyp, o api.Obs, w []int, next func(bad, good int) int) (api.Split, []int, api.Errno) {
	predicted, observed, e := refuted(h, o, w)
	if e != api.OK {
		return api.Split{}, nil, e
	}
	// examine returns what was observed for the symbols behind a position, or the query that is needed.
	examine := func(i int) ([]int, []int, api.Errno) {
		access, rest := reached(h, w[:i]), w[i:]
		if len(access)+len(rest) > api.MaxWord {
			return nil, nil, api.ErrTooLong
		}
		outputs, ok := answer(o, access, rest)
		if !ok {
			return nil, word.Join(access, rest), api.OK
		}
		return outputs, nil, api.OK
	}
	bad, good := 0, len(w)
	for good-bad > 1 {
		i := next(bad, good)
		outputs, query, e := examine(i)
		if e != api.OK || query != nil {
			return api.Split{}, query, e
		}
		// The machine is in the state of the position, so that it goes on with the outputs that it has for the whole word.
		if slices.Equal(outputs, predicted[i:]) {
			good = i
		} else {
			bad, observed = i, outputs
		}
	}
	if observed[0] != predicted[bad] {
		return api.Split{}, nil, api.ErrConflict
	}
	return api.Split{Prefix: reached(h, w[:bad]), Symbol: w[bad], Suffix: slices.Clone(w[bad+1:])}, nil, api.OK
}

// refuted returns the outputs of a hypothesis for w, and the different ones that were observed.
func refuted(h api.Hyp, o api.Obs, w []int) ([]int, []int, api.Errno) {
	if e := fitting(h, o); e != api.OK {
		return nil, nil, e
	}
	predicted, e := mealy.Run(h.M, w)
	if e != api.OK {
		return nil, nil, e
	}
	observed, ok := observe.Answer(o, w)
	if !ok {
		return nil, nil, api.ErrIncomplete
	}
	if slices.Equal(observed, predicted) {
		return nil, nil, api.ErrNotFound
	}
	return predicted, observed, api.OK
}

// reached returns the access word of the state that w, which is known to be a word of the hypothesis, reaches.
func reached(h api.Hyp, w []int) []int {
	access, _ := hypothesis.State(h, w)
	return access
}
