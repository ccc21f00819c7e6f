package lstar

import (
	"learner/api"
	"learner/equiv"
	"learner/mealy"
	"learner/observe"
	"learner/table"
)

// Learn learns a machine from a perfect teacher. It returns the last hypothesis, the observations, and the number of hypotheses.
func Learn(m api.Mealy, mode int) (api.Hyp, api.Obs, int, api.Errno) {
	if e := mealy.Valid(m); e != api.OK {
		return api.Hyp{}, api.Obs{}, 0, e
	}
	if mode != byPrefixes && mode != bySuffixes {
		return api.Hyp{}, api.Obs{}, 0, api.ErrRange
	}
	first, e := table.New(m.Inputs)
	if e != api.OK {
		return api.Hyp{}, api.Obs{}, 0, e
	}
	l := lesson{teacher: m, table: first, obs: api.Obs{Inputs: m.Inputs}}
	for rounds := 1; ; rounds++ {
		h, refuted, e := l.round(mode)
		if e != api.OK {
			return api.Hyp{}, api.Obs{}, 0, e
		}
		if !refuted {
			return h, l.obs, rounds, api.OK
		}
	}
}

// lesson is what is known about the machine of a perfect teacher.
type lesson struct {
	teacher api.Mealy
	table   api.Table
	obs     api.Obs
}

// round finds and tests a hypothesis. If it is refuted, the counterexample is taken into account, and round returns true.
func (l *lesson) round(mode int) (api.Hyp, bool, api.Errno) {
	if e := l.settle(); e != api.OK {
		return api.Hyp{}, false, e
	}
	h, e := table.Hypothesis(l.table, l.obs)
	if e != api.OK {
		return api.Hyp{}, false, e
	}
	w, refuted, e := equiv.Distinguish(h.M, l.teacher)
	if e != api.OK || !refuted {
		return h, false, e
	}
	if e := l.ask([][]int{w}); e != api.OK {
		return api.Hyp{}, false, e
	}
	l.table, e = Refine(l.table, w, mode)
	return h, true, e
}

// settle repairs the table until it is complete, closed and consistent.
func (l *lesson) settle() api.Errno {
	first := filling
	for {
		changed, words, done, e := repair(first, l.table, l.obs)
		if e != api.OK || done {
			return e
		}
		l.table, first = changed, filling
		if len(words) > 0 {
			if e := l.ask(words); e != api.OK {
				return e
			}
			// Now all cells are answered.
			first = closing
		}
	}
}

// ask adds the answers of the teacher for words to the observations.
func (l *lesson) ask(words [][]int) api.Errno {
	// The traces are added together, because each addition copies all of them. The error, ErrLimit, is the same: more than MaxWords words that are needed would be more than MaxTraces traces.
	answers, e := observe.Of(l.teacher, words)
	if e != api.OK {
		return e
	}
	l.obs, e = observe.Merge(l.obs, answers)
	return e
}
