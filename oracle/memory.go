package oracle

import (
	"learner/api"
	"learner/observe"
)

// memory is observations, with traces that are added to them later and all at once, because each addition copies all of them.
type memory struct {
	old   api.Obs
	fresh api.Obs // valid observations that can be added to the old ones without an error
}

// add remembers a trace whose input word is after those of the fresh ones in shortlex order, and does not have any of them as a prefix.
func (m *memory) add(t api.Trace) api.Errno {
	full := len(m.old.Traces)+len(m.fresh.Traces) >= api.MaxTraces
	if !full && !clashes(m.old, t) && !clashes(m.fresh, t) {
		m.fresh.Traces = append(m.fresh.Traces, t)
		return api.OK
	}
	if len(m.fresh.Traces) > 0 {
		m.old, m.fresh.Traces = m.all(), nil
	}
	// Whether there is an error now, and which one, is decided by observe.Add alone.
	var e api.Errno
	m.old, e = observe.Add(m.old, t)
	return e
}

// clashes reports whether observations contradict a trace.
func clashes(o api.Obs, t api.Trace) bool {
	_, found := observe.Clash(o, t)
	return found
}

// all returns all observations in new memory.
func (m *memory) all() api.Obs {
	o, _ := observe.Merge(m.old, m.fresh)
	return o
}
