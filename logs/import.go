package logs

import (
	"learner/api"
	"learner/observe"
)

// Import returns the observations that contain traces, besides. With an error it returns the index of the first trace that cannot be added.
func Import(o api.Obs, l []api.Trace) (api.Obs, int, api.Errno) {
	if all, e := with(o, l); e == api.OK {
		return all, 0, api.OK
	}
	// If the first traces cannot be added, no more of them can. So the index is found by bisection: those before from are known, and those before to cannot be added.
	known, from, to := o, 0, len(l)
	for to-from > 1 {
		middle := from + (to-from)/2
		if more, e := with(known, l[from:middle]); e == api.OK {
			known, from = more, middle
		} else {
			to = middle
		}
	}
	_, e := with(known, l[from:to])
	return o, from, e
}

// with returns the observations that contain traces, besides. If they cannot be added, the error is that of one of them.
func with(o api.Obs, l []api.Trace) (api.Obs, api.Errno) {
	if len(l) == 1 {
		return observe.Add(o, l[0])
	}
	all, e := together(o.Inputs, l)
	if e != api.OK {
		return api.Obs{}, e
	}
	return observe.Merge(o, all)
}

// together returns observations of traces. They are merged by halves, because each call of observe.Add copies all of the observations.
func together(inputs int, l []api.Trace) (api.Obs, api.Errno) {
	switch len(l) {
	case 0:
		return api.Obs{Inputs: inputs}, api.OK
	case 1:
		return observe.Add(api.Obs{Inputs: inputs}, l[0])
	}
	half := len(l) / 2
	first, e := together(inputs, l[:half])
	if e != api.OK {
		return api.Obs{}, e
	}
	second, e := together(inputs, l[half:])
	if e != api.OK {
		return api.Obs{}, e
	}
	return observe.Merge(first, second)
}
