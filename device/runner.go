package device

import (
	"learner/api"
	"learner/random"
)

// lost is the result of a step whose output was not received.
const lost = -1

// runner executes a valid device. A reset or step that returns an error does not change it.
type runner struct {
	api.Device
}

// query resets the device and applies the inputs of a word. It ends with the first fault that shows.
func (r *runner) query(w []int) ([]int, api.Errno) {
	if e := r.reset(); e != api.OK {
		return nil, e
	}
	var outputs []int
	for i, input := range w {
		output, e := r.step(input)
		if e != api.OK {
			return nil, e
		}
		// A crash after the last input does not matter, because the word is answered then.
		last := i == len(w)-1
		if output == lost || !r.Ready && !last {
			return nil, api.ErrFault
		}
		outputs = append(outputs, output)
	}
	return outputs, api.OK
}

// reset brings the device to its start.
func (r *runner) reset() api.Errno {
	if r.Resets >= maxCount || !r.affords(r.Latency.Reset) {
		return api.ErrLimit
	}
	r.Resets++
	r.Time += r.Latency.Reset
	r.State = r.M.Start
	r.Ready = true
	return api.OK
}

// step applies an input and returns the output, as far as it is received.
func (r *runner) step(input int) (int, api.Errno) {
	if !r.Ready {
		return 0, api.ErrState
	}
	if input < 0 || input >= r.M.Inputs {
		return 0, api.ErrRange
	}
	if r.Steps >= maxCount || !r.affords(r.Latency.Step[input]) {
		return 0, api.ErrLimit
	}
	r.Steps++
	r.Time += r.Latency.Step[input]
	output := r.M.Out[r.State][input]
	r.State = r.M.Next[r.State][input]
	return r.disturb(output), api.OK
}

// affords reports whether the time is permitted after a cost.
func (r *runner) affords(cost int) bool {
	return r.Time <= api.MaxTime-cost
}

// disturb draws whether a fault occurs, and returns what is received of an output.
func (r *runner) disturb(output int) int {
	var x int
	x, r.Seed, _ = random.Below(r.Seed, api.Scale)
	switch {
	case x < r.Faults.Lost:
		return lost
	case x < r.Faults.Lost+r.Faults.Wrong:
		return wrong(output)
	case x < r.Faults.Lost+r.Faults.Wrong+r.Faults.Crash:
		r.Ready = false
	}
	return output
}

// wrong returns the output that is received in place of another one.
func wrong(output int) int {
	if output == api.MaxOutput {
		return output - 1
	}
	return output + 1
}
