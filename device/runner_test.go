package device_test

import (
	"math"
	"slices"
	"testing"

	"learner/api"
	"learner/device"
	"learner/mealy"
	"learner/random"
	"learner/word"
)

// stride is the difference between the states of the random numbers before and after a draw.
const stride uint64 = 0x9e3779b97f4a7c15

// seedOf returns a seed from which x is drawn below Scale.
func seedOf(x int) uint64 {
	for seed := uint64(0); ; seed++ {
		if y, _, _ := random.Below(seed, api.Scale); y == x {
			return seed
		}
	}
}

// ready returns a device with the gate that is ready, after a change.
func ready(change func(d *api.Device)) api.Device {
	d := made(func(d *api.Device) { d.Ready = true })
	change(&d)
	return d
}

// P19.3: the device is ready and in the state Start; the counters increase, and no number is drawn.
func TestReset(t *testing.T) {
	for i, d := range []api.Device{
		made(unchanged),
		ready(unchanged),
		ready(func(d *api.Device) { d.State = 1 }),
		made(func(d *api.Device) { d.State = 1 }),
		made(func(d *api.Device) { d.M.Start = 1 }),
		made(func(d *api.Device) { d.Latency.Reset = 0 }),
		made(func(d *api.Device) { d.Steps, d.Resets, d.Time = 4, 5, 6 }),
		made(func(d *api.Device) { d.Steps, d.Resets, d.Time = maxCount, maxCount-1, api.MaxTime-100 }),
		made(func(d *api.Device) { d.Time, d.Latency.Reset = api.MaxTime, 0 }),
		faulty(api.Faults{Lost: api.Scale}),
		faulty(api.Faults{Crash: api.Scale}),
		greatest(),
		drawn(5),
	} {
		want := clone(d)
		want.State, want.Ready = d.M.Start, true
		want.Resets, want.Time = d.Resets+1, d.Time+d.Latency.Reset
		if x, e := device.Reset(d); !same(x, want) || e != api.OK {
			t.Errorf("case %d: Reset returns %v, %d, not %v", i, x, e, want)
		}
	}
}

// P19.3: a counter that would not be permitted any more.
func TestResetLimit(t *testing.T) {
	for i, change := range []func(d *api.Device){
		func(d *api.Device) { d.Resets = maxCount },
		func(d *api.Device) { d.Time = api.MaxTime },
		func(d *api.Device) { d.Time = api.MaxTime - 99 },
		func(d *api.Device) { d.Time, d.Latency.Reset = api.MaxTime-api.MaxCost+1, api.MaxCost },
		func(d *api.Device) { d.Resets, d.Time = maxCount, api.MaxTime },
		func(d *api.Device) { d.Resets, d.Latency.Reset = maxCount, 0 },
	} {
		d := made(change)
		d.State = 1
		if x, e := device.Reset(d); !same(x, d) || e != api.ErrLimit {
			t.Errorf("case %d: Reset returns %v, %d", i, x, e)
		}
	}
}

// P19.4: without faults, every transition of machines.
func TestStep(t *testing.T) {
	for _, m := range []api.Mealy{gate(), drawn(3).M, drawn(4).M} {
		d := api.Device{M: m, Ready: true, Seed: 99, Steps: 7, Resets: 8, Time: 9}
		for a := range m.Inputs {
			d.Latency.Step = append(d.Latency.Step, 3*a)
		}
		for s := range m.Next {
			for a := range m.Inputs {
				d.State = s
				want := clone(d)
				want.State = m.Next[s][a]
				want.Steps, want.Time, want.Seed = 8, 9+3*a, 99+stride
				if x, o, e := device.Step(d, a); !same(x, want) || o != m.Out[s][a] || e != api.OK {
					t.Errorf("Step of %d in the state %d returns %v, %d, %d", a, s, x, o, e)
				}
			}
		}
	}
}

// P19.4: the number that is drawn decides which fault occurs, with sharp bounds.
func TestFaults(t *testing.T) {
	f := api.Faults{Lost: 1000, Wrong: 200, Crash: 30}
	for i, c := range []struct {
		f     api.Faults
		x     int
		want  int
		ready bool
	}{
		{f, 0, -1, true},
		{f, 999, -1, true},
		{f, 1000, 3, true},
		{f, 1199, 3, true},
		{f, 1200, 2, false},
		{f, 1229, 2, false},
		{f, 1230, 2, true},
		{f, 9999, 2, true},
		{api.Faults{}, 0, 2, true},
		{api.Faults{}, 9999, 2, true},
		{api.Faults{Lost: 1}, 0, -1, true},
		{api.Faults{Lost: 1}, 1, 2, true},
		{api.Faults{Wrong: 1}, 0, 3, true},
		{api.Faults{Wrong: 1}, 1, 2, true},
		{api.Faults{Crash: 1}, 0, 2, false},
		{api.Faults{Crash: 1}, 1, 2, true},
		{api.Faults{Lost: 9999}, 9999, 2, true},
		{api.Faults{Lost: api.Scale}, 9999, -1, true},
		{api.Faults{Wrong: api.Scale}, 9999, 3, true},
		{api.Faults{Crash: api.Scale}, 9999, 2, false},
		{api.Faults{Lost: 5000, Wrong: 4999, Crash: 1}, 9999, 2, false},
		{api.Faults{Lost: 5000, Wrong: 4999, Crash: 1}, 9998, 3, true},
	} {
		d := ready(func(d *api.Device) { d.Faults, d.State, d.Seed = c.f, 1, seedOf(c.x) })
		want := clone(d)
		want.State, want.Ready, want.Steps, want.Time, want.Seed = 0, c.ready, 1, 3, d.Seed+stride
		if x, o, e := device.Step(d, 1); !same(x, want) || o != c.want || e != api.OK {
			t.Errorf("case %d: Step returns %v, %d, %d", i, x, o, e)
		}
	}
}

// P19.4: a wrong output is one more, or one less than the greatest one.
func TestWrong(t *testing.T) {
	for output, want := range map[int]int{0: 1, 1: 2, api.MaxOutput - 1: api.MaxOutput, api.MaxOutput: api.MaxOutput - 1} {
		d := ready(func(d *api.Device) { d.M.Out[0][1], d.Faults.Wrong = output, api.Scale })
		if x, o, e := device.Step(d, 1); o != want || !x.Ready || e != api.OK {
			t.Errorf("in place of %d Step returns %d, %d", output, o, e)
		}
	}
}

// P19.4: one number is drawn below Scale, for which random numbers are rejected if need be.
func TestStepRejected(t *testing.T) {
	for seed, c := range map[uint64]struct {
		x     int
		draws uint64
	}{
		0x31628af67b2131ab: {6833, 2}, // 2^64 - 1
		0x19f3eacc8e15ab6d: {5314, 2}, // 2^64 - 1616
		0x3ddae2c0160d3250: {9999, 1}, // 2^64 - 1617
	} {
		for lost, want := range map[int]int{c.x: 1, c.x + 1: -1} {
			d := ready(func(d *api.Device) { d.Seed, d.Faults.Lost = seed, lost })
			if x, o, e := device.Step(d, 0); x.Seed != seed+c.draws*stride || o != want || e != api.OK {
				t.Errorf("from the seed %x Step returns %d, and the seed is %x", seed, o, x.Seed)
			}
		}
	}
}

// P19.4: the errors and their order.
func TestStepErrors(t *testing.T) {
	for i, c := range []struct {
		d    api.Device
		a    int
		want api.Errno
	}{
		{made(unchanged), 0, api.ErrState},
		{made(unchanged), 2, api.ErrState},
		{made(func(d *api.Device) { d.Steps = maxCount }), 0, api.ErrState},
		{ready(unchanged), 2, api.ErrRange},
		{ready(unchanged), -1, api.ErrRange},
		{ready(unchanged), math.MaxInt, api.ErrRange},
		{ready(unchanged), math.MinInt, api.ErrRange},
		{ready(func(d *api.Device) { d.Steps, d.Time = maxCount, api.MaxTime }), 2, api.ErrRange},
		{ready(func(d *api.Device) { d.Steps = maxCount }), 0, api.ErrLimit},
		{ready(func(d *api.Device) { d.Time = api.MaxTime }), 1, api.ErrLimit},
		{ready(func(d *api.Device) { d.Time = api.MaxTime - 4 }), 0, api.ErrLimit},
		{ready(func(d *api.Device) { d.Steps, d.Faults.Lost = maxCount, api.Scale }), 0, api.ErrLimit},
	} {
		if x, o, e := device.Step(c.d, c.a); !same(x, c.d) || o != 0 || e != c.want {
			t.Errorf("case %d: Step returns %v, %d, %d, not %d", i, x, o, e, c.want)
		}
	}
}

// P19.4: counters that are still permitted.
func TestStepLimit(t *testing.T) {
	for i, d := range []api.Device{
		ready(func(d *api.Device) { d.Steps, d.Resets, d.Time = maxCount-1, maxCount, api.MaxTime-5 }),
		ready(func(d *api.Device) { d.Latency.Step[0], d.Time = 0, api.MaxTime }),
		ready(func(d *api.Device) { d.Latency.Step[0], d.Time = api.MaxCost, api.MaxTime-api.MaxCost }),
	} {
		x, o, e := device.Step(d, 0)
		if x.Steps != d.Steps+1 || x.Resets != d.Resets || x.Time != api.MaxTime || o != 1 || e != api.OK {
			t.Errorf("case %d: Step returns %v, %d, %d", i, x, o, e)
		}
	}
}

// P19.5: the outputs, and what was done before an error.
func TestQuery(t *testing.T) {
	for i, c := range []struct {
		f     api.Faults
		w     []int
		out   []int
		e     api.Errno
		state int
		ready bool
		steps int
		time  int
	}{
		{api.Faults{}, nil, nil, api.OK, 0, true, 0, 100},
		{api.Faults{}, []int{1, 0, 1}, []int{0, 1, 2}, api.OK, 0, true, 3, 111},
		{api.Faults{}, []int{0, 0}, []int{1, 1}, api.OK, 1, true, 2, 110},
		{api.Faults{Lost: api.Scale}, nil, nil, api.OK, 0, true, 0, 100},
		{api.Faults{Lost: api.Scale}, []int{1, 0, 1}, nil, api.ErrFault, 0, true, 1, 103},
		{api.Faults{Lost: api.Scale}, []int{0}, nil, api.ErrFault, 1, true, 1, 105},
		{api.Faults{Wrong: api.Scale}, []int{1, 0, 1}, []int{1, 2, 3}, api.OK, 0, true, 3, 111},
		{api.Faults{Crash: api.Scale}, nil, nil, api.OK, 0, true, 0, 100},
		{api.Faults{Crash: api.Scale}, []int{0}, []int{1}, api.OK, 1, false, 1, 105},
		{api.Faults{Crash: api.Scale}, []int{0, 1}, nil, api.ErrFault, 1, false, 1, 105},
		{api.Faults{Crash: api.Scale}, []int{1, 0, 1}, nil, api.ErrFault, 0, false, 1, 103},
	} {
		d := faulty(c.f)
		want := clone(d)
		want.State, want.Ready, want.Steps, want.Resets, want.Time = c.state, c.ready, c.steps, 1, c.time
		want.Seed += uint64(c.steps) * stride
		if x, w, e := device.Query(d, c.w); !same(x, want) || !slices.Equal(w, c.out) || e != c.e {
			t.Errorf("case %d: Query returns %v, %v, %d", i, x, w, e)
		}
	}
}

// P19.5: errors with which nothing is done, in their order.
func TestQueryErrors(t *testing.T) {
	long := make([]int, api.MaxWord+1)
	for i, c := range []struct {
		d    api.Device
		w    []int
		want api.Errno
	}{
		{made(unchanged), long, api.ErrTooLong},
		{made(unchanged), slices.Repeat([]int{2}, api.MaxWord+1), api.ErrTooLong},
		{made(unchanged), []int{2}, api.ErrInvalid},
		{ready(unchanged), []int{0, 1, 1, -1}, api.ErrInvalid},
		{faulty(api.Faults{Lost: api.Scale}), []int{0, 2}, api.ErrInvalid},
		{made(func(d *api.Device) { d.Resets = maxCount }), []int{0, math.MaxInt}, api.ErrInvalid},
		{made(func(d *api.Device) { d.Resets = maxCount }), []int{0}, api.ErrLimit},
		{made(func(d *api.Device) { d.Resets, d.State = maxCount, 1 }), nil, api.ErrLimit},
		{ready(func(d *api.Device) { d.Time, d.State = api.MaxTime-99, 1 }), []int{0}, api.ErrLimit},
	} {
		if x, w, e := device.Query(c.d, c.w); !same(x, c.d) || len(w) != 0 || e != c.want {
			t.Errorf("case %d: Query returns %v, %v, %d, not %d", i, x, w, e, c.want)
		}
	}
}

// P19.5, P19.7: a counter that is exhausted by a step; what was done before is kept.
func TestQueryLimit(t *testing.T) {
	w := []int{0, 1, 1, 0}
	for done := range w {
		spent := []int{100, 105, 108, 111}[done]
		for i, change := range []func(d *api.Device){
			func(d *api.Device) { d.Steps = maxCount - done },
			func(d *api.Device) { d.Time = api.MaxTime - spent },
			func(d *api.Device) { d.Time = api.MaxTime - spent - 2 },
		} {
			d := made(change)
			want := clone(d)
			want.State, want.Ready = []int{0, 1, 0, 0}[done], true
			want.Steps, want.Resets, want.Time, want.Seed = d.Steps+done, 1, d.Time+spent, d.Seed+uint64(done)*stride
			if x, o, e := device.Query(d, w); !same(x, want) || len(o) != 0 || e != api.ErrLimit {
				t.Errorf("case %d after %d steps: Query returns %v, %v, %d", i, done, x, o, e)
			}
		}
	}
	d := made(func(d *api.Device) { d.Steps, d.Resets, d.Time = maxCount-4, maxCount-1, api.MaxTime-116 })
	if x, o, e := device.Query(d, w); x.Steps != maxCount || x.Resets != maxCount || x.Time != api.MaxTime || !slices.Equal(o, []int{1, 2, 0, 1}) || e != api.OK {
		t.Errorf("Query returns %v, %v, %d", x, o, e)
	}
}

// asked returns what Query has to return, by Reset and Step.
func asked(d api.Device, w []int) (api.Device, []int, api.Errno) {
	d, e := device.Reset(d)
	if e != api.OK {
		return d, nil, e
	}
	var outputs []int
	for i, a := range w {
		var o int
		d, o, e = device.Step(d, a)
		if e != api.OK {
			return d, nil, e
		}
		if o == -1 || i < len(w)-1 && !d.Ready {
			return d, nil, api.ErrFault
		}
		outputs = append(outputs, o)
	}
	return d, outputs, api.OK
}

// P19.5, P19.8: a query is a reset and steps; the transitions do not depend on the faults, and outputs are right, or wrong by one.
func TestQueries(t *testing.T) {
	answered, failed := 0, 0
	for seed := range uint64(300) {
		d := drawn(seed)
		for length := range 12 {
			w, _, _ := random.Word(seed+uint64(length), d.M.Inputs, length)
			want, outputs, code := asked(d, w)
			x, o, e := device.Query(d, w)
			if !same(x, want) || !slices.Equal(o, outputs) || e != code {
				t.Fatalf("Query of %v returns %v, %v, %d, not %v, %v, %d", w, x, o, e, want, outputs, code)
			}
			right, end, _ := mealy.From(d.M, d.M.Start, w[:x.Steps-d.Steps])
			if x.State != end || e == api.OK && len(o) != length {
				t.Fatalf("Query of %v ends in the state %d, not %d", w, x.State, end)
			}
			for i := range o {
				if o[i] != right[i] && o[i] != right[i]+1 && (right[i] != api.MaxOutput || o[i] != right[i]-1) {
					t.Fatalf("Query of %v returns %v, and the machine %v", w, o, right)
				}
			}
			if e == api.OK {
				answered++
			} else {
				failed++
			}
			d = x
		}
	}
	if answered < 500 || failed < 500 {
		t.Errorf("%d queries were answered, and %d failed", answered, failed)
	}
}

// P19.7: without faults the outputs are those of the machine, and the counters tell what was done.
func TestWithoutFaults(t *testing.T) {
	for seed := range uint64(200) {
		d := drawn(seed)
		d.Faults = api.Faults{}
		for length := range 12 {
			w, _, _ := random.Word(seed+uint64(length), d.M.Inputs, length)
			want, _ := mealy.Run(d.M, w)
			cost, _ := device.Cost(d.Latency, w)
			x, o, e := device.Query(d, w)
			if !slices.Equal(o, want) || e != api.OK || !x.Ready {
				t.Fatalf("Query of %v returns %v, %d, not %v", w, o, e, want)
			}
			if x.Time != d.Time+cost || x.Steps != d.Steps+length || x.Resets != d.Resets+1 {
				t.Fatalf("after %v the counters of %v are those of %v", w, d, x)
			}
			d = x
		}
	}
}

// P19.7: the longest word.
func TestLongest(t *testing.T) {
	d, w := greatest(), slices.Repeat([]int{api.MaxInputs - 1}, api.MaxWord)
	want, _ := mealy.Run(d.M, w)
	if x, o, e := device.Query(d, w); !slices.Equal(o, want) || x.Steps != api.MaxWord || x.Time != (api.MaxWord+1)*api.MaxCost || e != api.OK {
		t.Errorf("Query of the longest word returns %d outputs, %d", len(o), e)
	}
}

// P19.8: the same device answers a query again in the same way; a device that was changed need not.
func TestSameDevice(t *testing.T) {
	differs := false
	for seed := range uint64(100) {
		d := drawn(seed)
		w, _, _ := random.Word(seed, d.M.Inputs, 8)
		x, o, e := device.Query(d, w)
		y, p, f := device.Query(clone(d), slices.Clone(w))
		if !same(x, y) || !slices.Equal(o, p) || e != f {
			t.Errorf("Query of %v returns %v, %v, %d, and then %v, %v, %d", w, x, o, e, y, p, f)
		}
		_, p, f = device.Query(x, w)
		differs = differs || !slices.Equal(o, p) || e != f
	}
	if !differs {
		t.Error("the faults are always the same")
	}
}

// P19.8: if all outputs are lost, every query of a word that is not empty fails.
func TestAllLost(t *testing.T) {
	d := faulty(api.Faults{Lost: api.Scale})
	for w, ok := []int{0}, true; ok && len(w) < 7; w, ok = word.Next(w, 2) {
		x, o, e := device.Query(d, w)
		if len(o) != 0 || e != api.ErrFault || x.Steps != d.Steps+1 || x.Resets != d.Resets+1 {
			t.Fatalf("Query of %v returns %v, %v, %d", w, x, o, e)
		}
		d = x
	}
	d.Steps = maxCount
	if _, o, e := device.Query(d, []int{0}); len(o) != 0 || e != api.ErrLimit {
		t.Errorf("Query of a device that is exhausted returns %v, %d", o, e)
	}
}

// P19.4: rates are the chances of faults.
func TestRates(t *testing.T) {
	d := ready(func(d *api.Device) { d.Faults = api.Faults{Lost: 1000, Wrong: 2000, Crash: 3000} })
	counts := map[string]int{}
	for range api.Scale {
		want := d.M.Out[d.State][0]
		x, o, _ := device.Step(d, 0)
		switch {
		case o == -1:
			counts["lost"]++
		case o != want:
			counts["wrong"]++
		case !x.Ready:
			counts["crash"]++
		}
		d = x
		d.Ready = true
	}
	for name, want := range map[string]int{"lost": 1000, "wrong": 2000, "crash": 3000} {
		if n := counts[name]; n < want-200 || n > want+200 {
			t.Errorf("the fault %s occurs %d times", name, n)
		}
	}
}
