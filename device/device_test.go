package device_test

import (
	"math"
	"slices"
	"testing"

	"learner/api"
	"learner/device"
	"learner/mealy"
	"learner/random"
)

// maxCount is the greatest number of steps, and of resets.
const maxCount = 1 << 50

// gate returns the gate of the document.
func gate() api.Mealy {
	return api.Mealy{Inputs: 2, Next: [][]int{{1, 0}, {1, 0}}, Out: [][]int{{1, 0}, {1, 2}}}
}

// costs returns the costs of the examples.
func costs() api.Latency {
	return api.Latency{Step: []int{5, 3}, Reset: 100}
}

// made returns a device with the gate that has done nothing, after a change.
func made(change func(d *api.Device)) api.Device {
	d := api.Device{M: gate(), Latency: costs(), Seed: 7}
	change(&d)
	return d
}

// unchanged leaves a device as it is.
func unchanged(d *api.Device) {}

// faulty returns a device with the gate and faults.
func faulty(f api.Faults) api.Device {
	return made(func(d *api.Device) { d.Faults = f })
}

// same reports whether two devices have equal fields.
func same(a, b api.Device) bool {
	lists := mealy.Same(a.M, b.M) && slices.Equal(a.Latency.Step, b.Latency.Step)
	position := a.State == b.State && a.Ready == b.Ready && a.Seed == b.Seed
	counters := a.Steps == b.Steps && a.Resets == b.Resets && a.Time == b.Time
	return lists && position && counters && a.Latency.Reset == b.Latency.Reset && a.Faults == b.Faults
}

// clone returns a device in new memory.
func clone(d api.Device) api.Device {
	copies := func(l [][]int) [][]int {
		l = slices.Clone(l)
		for i := range l {
			l[i] = slices.Clone(l[i])
		}
		return l
	}
	d.M.Next, d.M.Out = copies(d.M.Next), copies(d.M.Out)
	d.Latency.Step = slices.Clone(d.Latency.Step)
	return d
}

// greatest returns a device with as many states and inputs as possible, and the greatest costs.
func greatest() api.Device {
	d := api.Device{M: api.Mealy{Inputs: api.MaxInputs, Start: api.MaxStates - 1}, State: 5}
	for s := range api.MaxStates {
		d.M.Next = append(d.M.Next, slices.Repeat([]int{(s * 5) % api.MaxStates}, api.MaxInputs))
		d.M.Out = append(d.M.Out, slices.Repeat([]int{api.MaxOutput}, api.MaxInputs))
	}
	d.Latency = api.Latency{Step: slices.Repeat([]int{api.MaxCost}, api.MaxInputs), Reset: api.MaxCost}
	return d
}

// drawn returns a device with a random machine, random costs and random faults.
func drawn(seed uint64) api.Device {
	below := func(n int) int {
		var x int
		x, seed, _ = random.Below(seed, n)
		return x
	}
	states := 1 + below(5)
	d := api.Device{M: api.Mealy{Inputs: 1 + below(3), Start: below(states)}}
	for range states {
		var next, out []int
		for range d.M.Inputs {
			next = append(next, below(states))
			out = append(out, []int{0, 1, 2, 3, api.MaxOutput - 1, api.MaxOutput}[below(6)])
		}
		d.M.Next, d.M.Out = append(d.M.Next, next), append(d.M.Out, out)
	}
	for range d.M.Inputs {
		d.Latency.Step = append(d.Latency.Step, below(50))
	}
	d.Latency.Reset = below(1000)
	d.Faults = api.Faults{Lost: below(2000), Wrong: below(4000), Crash: below(2000)}
	d.State, d.Ready, d.Seed = below(states), below(3) > 0, uint64(below(1<<30))
	d.Steps, d.Resets, d.Time = below(1000), below(1000), below(1000)
	return d
}

// invalid is a change that makes a device invalid, and the error of Valid.
type invalid struct {
	change func(d *api.Device)
	want   api.Errno
}

// invalidParts are changes of what New is given.
func invalidParts() map[string]invalid {
	return map[string]invalid{
		"no machine":            {func(d *api.Device) { d.M = api.Mealy{} }, api.ErrRange},
		"no states":             {func(d *api.Device) { d.M.Next = nil }, api.ErrEmpty},
		"no outputs":            {func(d *api.Device) { d.M.Out = nil }, api.ErrInvalid},
		"no start":              {func(d *api.Device) { d.M.Start, d.State = 2, 2 }, api.ErrRange},
		"an output":             {func(d *api.Device) { d.M.Out[1][1] = api.MaxOutput + 1 }, api.ErrRange},
		"too many states":       {func(d *api.Device) { d.M.Next = make([][]int, api.MaxStates+1) }, api.ErrLimit},
		"machine and latency":   {func(d *api.Device) { d.M.Next, d.Latency.Step = nil, nil }, api.ErrEmpty},
		"machine and cost":      {func(d *api.Device) { d.M.Out, d.Latency.Reset = nil, -1 }, api.ErrInvalid},
		"no costs":              {func(d *api.Device) { d.Latency.Step = nil }, api.ErrInvalid},
		"too few costs":         {func(d *api.Device) { d.Latency.Step = []int{1} }, api.ErrInvalid},
		"too many costs":        {func(d *api.Device) { d.Latency.Step = []int{1, 2, 3} }, api.ErrInvalid},
		"fit and cost":          {func(d *api.Device) { d.Latency = api.Latency{Step: []int{-1}, Reset: -1} }, api.ErrInvalid},
		"fit and rate":          {func(d *api.Device) { d.Latency.Step, d.Faults.Lost = nil, -1 }, api.ErrInvalid},
		"negative step":         {func(d *api.Device) { d.Latency.Step[0] = -1 }, api.ErrRange},
		"far step":              {func(d *api.Device) { d.Latency.Step[0] = math.MinInt }, api.ErrRange},
		"great step":            {func(d *api.Device) { d.Latency.Step[1] = api.MaxCost + 1 }, api.ErrRange},
		"greatest step":         {func(d *api.Device) { d.Latency.Step[1] = math.MaxInt }, api.ErrRange},
		"negative reset":        {func(d *api.Device) { d.Latency.Reset = -1 }, api.ErrRange},
		"great reset":           {func(d *api.Device) { d.Latency.Reset = api.MaxCost + 1 }, api.ErrRange},
		"negative Lost":         {func(d *api.Device) { d.Faults.Lost = -1 }, api.ErrRange},
		"negative Wrong":        {func(d *api.Device) { d.Faults.Wrong = -1 }, api.ErrRange},
		"negative Crash":        {func(d *api.Device) { d.Faults.Crash = math.MinInt }, api.ErrRange},
		"negative with others":  {func(d *api.Device) { d.Faults = api.Faults{Lost: 5000, Wrong: -1, Crash: 5000} }, api.ErrRange},
		"negative after others": {func(d *api.Device) { d.Faults = api.Faults{Lost: 5000, Wrong: 5000, Crash: -1} }, api.ErrRange},
		"great Lost":            {func(d *api.Device) { d.Faults.Lost = api.Scale + 1 }, api.ErrRange},
		"great Wrong":           {func(d *api.Device) { d.Faults.Wrong = api.Scale + 1 }, api.ErrRange},
		"great Crash":           {func(d *api.Device) { d.Faults.Crash = api.Scale + 1 }, api.ErrRange},
		"great and negative":    {func(d *api.Device) { d.Faults = api.Faults{Lost: api.Scale + 1, Wrong: -1} }, api.ErrRange},
		"great sum":             {func(d *api.Device) { d.Faults = api.Faults{Lost: 5000, Wrong: 5000, Crash: 1} }, api.ErrRange},
		"great sum of two":      {func(d *api.Device) { d.Faults = api.Faults{Lost: 1, Crash: api.Scale} }, api.ErrRange},
		"greatest sum":          {func(d *api.Device) { d.Faults = api.Faults{Lost: math.MaxInt, Wrong: math.MaxInt, Crash: 2} }, api.ErrRange},
	}
}

// invalidRest are changes of what New does not get.
func invalidRest() map[string]invalid {
	return map[string]invalid{
		"nothing":           {func(d *api.Device) { *d = api.Device{} }, api.ErrRange},
		"negative state":    {func(d *api.Device) { d.State = -1 }, api.ErrRange},
		"great state":       {func(d *api.Device) { d.State = 2 }, api.ErrRange},
		"greatest state":    {func(d *api.Device) { d.State = math.MaxInt }, api.ErrRange},
		"machine and state": {func(d *api.Device) { d.M.Out, d.State = nil, 2 }, api.ErrInvalid},
		"states and state":  {func(d *api.Device) { d.M.Next, d.State = nil, 9 }, api.ErrEmpty},
		"state and fit":     {func(d *api.Device) { d.State, d.Latency.Step = 2, nil }, api.ErrRange},
		"fit and counter":   {func(d *api.Device) { d.Latency.Step, d.Time = nil, -1 }, api.ErrInvalid},
		"negative Steps":    {func(d *api.Device) { d.Steps = -1 }, api.ErrRange},
		"great Steps":       {func(d *api.Device) { d.Steps = maxCount + 1 }, api.ErrRange},
		"negative Resets":   {func(d *api.Device) { d.Resets = math.MinInt }, api.ErrRange},
		"great Resets":      {func(d *api.Device) { d.Resets = maxCount + 1 }, api.ErrRange},
		"negative Time":     {func(d *api.Device) { d.Time = -1 }, api.ErrRange},
		"great Time":        {func(d *api.Device) { d.Time = api.MaxTime + 1 }, api.ErrRange},
		"greatest Time":     {func(d *api.Device) { d.Time = math.MaxInt }, api.ErrRange},
	}
}

// P19.1: a new device is in the state Start, not ready, and has done nothing.
func TestNew(t *testing.T) {
	m := gate()
	m.Start = 1
	for i, want := range []api.Device{
		made(unchanged),
		made(func(d *api.Device) { d.M, d.State = m, 1 }),
		made(func(d *api.Device) { d.Seed = 0 }),
		made(func(d *api.Device) { d.Seed = math.MaxUint64 }),
		faulty(api.Faults{Lost: 1, Wrong: 2, Crash: 3}),
		faulty(api.Faults{Crash: api.Scale}),
		made(func(d *api.Device) { d.Latency = api.Latency{Step: []int{0, api.MaxCost}} }),
	} {
		d, e := device.New(want.M, want.Latency, want.Faults, want.Seed)
		if !same(d, want) || e != api.OK {
			t.Errorf("case %d: New returns %v, %d", i, d, e)
		}
	}
}

// P19.1: the errors, with which there is no device.
func TestNewErrors(t *testing.T) {
	for name, c := range invalidParts() {
		x := made(c.change)
		if d, e := device.New(x.M, x.Latency, x.Faults, x.Seed); !same(d, api.Device{}) || e != c.want {
			t.Errorf("%s: New returns %v, %d, not %d", name, d, e, c.want)
		}
	}
}

// P19.2: devices that are valid, up to the limits.
func TestValid(t *testing.T) {
	for i, d := range []api.Device{
		made(unchanged),
		made(func(d *api.Device) { d.State, d.Ready = 1, true }),
		made(func(d *api.Device) { d.Seed = math.MaxUint64 }),
		made(func(d *api.Device) { d.Latency = api.Latency{Step: []int{0, 0}} }),
		made(func(d *api.Device) { d.Steps, d.Resets, d.Time = maxCount, maxCount, api.MaxTime }),
		made(func(d *api.Device) { d.Latency = api.Latency{Step: []int{api.MaxCost, 0}, Reset: api.MaxCost} }),
		faulty(api.Faults{Lost: api.Scale}),
		faulty(api.Faults{Wrong: api.Scale}),
		faulty(api.Faults{Crash: api.Scale}),
		faulty(api.Faults{Lost: 5000, Wrong: 4999, Crash: 1}),
		greatest(),
		drawn(1),
	} {
		if e := device.Valid(d); e != api.OK {
			t.Errorf("case %d: Valid returns %d", i, e)
		}
	}
}

// P19.2: the errors and their order. P19.3 to P19.5: they come first, and nothing is done.
func TestInvalidDevices(t *testing.T) {
	for _, table := range []map[string]invalid{invalidParts(), invalidRest()} {
		for name, c := range table {
			d := made(c.change)
			if e := device.Valid(d); e != c.want {
				t.Errorf("%s: Valid returns %d, not %d", name, e, c.want)
			}
			if x, e := device.Reset(d); !same(x, d) || e != c.want {
				t.Errorf("%s: Reset returns %v, %d", name, x, e)
			}
			if x, o, e := device.Step(d, -1); !same(x, d) || o != 0 || e != c.want {
				t.Errorf("%s: Step returns %v, %d, %d", name, x, o, e)
			}
			if x, w, e := device.Query(d, []int{-1}); !same(x, d) || len(w) != 0 || e != c.want {
				t.Errorf("%s: Query returns %v, %v, %d", name, x, w, e)
			}
		}
	}
}

// P19.6: the time of a reset and of steps.
func TestCost(t *testing.T) {
	most := greatest().Latency
	for i, c := range []struct {
		l    api.Latency
		w    []int
		want int
	}{
		{costs(), nil, 100},
		{costs(), []int{0}, 105},
		{costs(), []int{1}, 103},
		{costs(), []int{1, 0, 1}, 111},
		{api.Latency{Step: []int{0}}, []int{0, 0}, 0},
		{api.Latency{Step: []int{0, 7}}, []int{0, 1, 0, 1}, 14},
		{api.Latency{Step: []int{0}, Reset: 1}, slices.Repeat([]int{0}, api.MaxWord), 1},
		{most, []int{api.MaxInputs - 1}, 2 * api.MaxCost},
		{most, slices.Repeat([]int{1}, api.MaxWord), (api.MaxWord + 1) * api.MaxCost},
	} {
		if n, e := device.Cost(c.l, c.w); n != c.want || e != api.OK {
			t.Errorf("case %d: Cost returns %d, %d", i, n, e)
		}
	}
}

// P19.6: the errors and their order.
func TestCostErrors(t *testing.T) {
	long := make([]int, api.MaxWord+1)
	for i, c := range []struct {
		l    api.Latency
		w    []int
		want api.Errno
	}{
		{api.Latency{}, nil, api.ErrRange},
		{api.Latency{Step: []int{}, Reset: 5}, []int{0}, api.ErrRange},
		{api.Latency{Step: make([]int, api.MaxInputs+1)}, nil, api.ErrRange},
		{api.Latency{Step: make([]int, api.MaxInputs+1)}, long, api.ErrRange},
		{api.Latency{Step: make([]int, api.MaxLetters+1)}, nil, api.ErrRange},
		{api.Latency{Step: []int{1}, Reset: -1}, nil, api.ErrRange},
		{api.Latency{Step: []int{1}, Reset: api.MaxCost + 1}, []int{5}, api.ErrRange},
		{api.Latency{Step: []int{1, -1}}, []int{0}, api.ErrRange},
		{api.Latency{Step: []int{api.MaxCost + 1, 1}}, long, api.ErrRange},
		{api.Latency{Step: []int{1, math.MaxInt}}, []int{2}, api.ErrRange},
		{costs(), long, api.ErrTooLong},
		{costs(), slices.Repeat([]int{2}, api.MaxWord+1), api.ErrTooLong},
		{costs(), []int{2}, api.ErrInvalid},
		{costs(), []int{0, 1, -1}, api.ErrInvalid},
		{costs(), []int{math.MaxInt}, api.ErrInvalid},
		{greatest().Latency, []int{api.MaxInputs}, api.ErrInvalid},
	} {
		if n, e := device.Cost(c.l, c.w); n != 0 || e != c.want {
			t.Errorf("case %d: Cost returns %d, %d, not %d", i, n, e, c.want)
		}
	}
}

// lists returns all lists of numbers of a device.
func lists(d *api.Device) []*[]int {
	l := []*[]int{&d.Latency.Step}
	for s := range d.M.Next {
		l = append(l, &d.M.Next[s], &d.M.Out[s])
	}
	return l
}

// separate overwrites the lists of a device and the memory behind them, and reports whether no two of them share memory.
func separate(d *api.Device) bool {
	all := lists(d)
	for n, l := range all {
		for i := range *l {
			(*l)[i] = 20 + n
		}
	}
	kept := true
	examine := func() {
		for n, l := range all {
			kept = kept && !slices.ContainsFunc(*l, func(x int) bool { return x != 20+n })
		}
	}
	examine()
	// Appended numbers are examined after that, because lists that share memory may be separated by an append.
	for n, l := range all {
		*l = append(*l, 20+n)
	}
	examine()
	d.M.Next, d.M.Out = append(d.M.Next, []int{8}), append(d.M.Out, []int{8})
	return kept
}

// spacious returns a device whose lists have spare capacity that contains the number 9.
func spacious() api.Device {
	d := made(func(d *api.Device) { d.Ready = true })
	for _, l := range lists(&d) {
		*l = append(*l, 9)[:2]
	}
	d.M.Next, d.M.Out = append(d.M.Next, []int{9})[:2], append(d.M.Out, []int{9})[:2]
	return d
}

// R5: arguments do not change, and the lists of a result share memory neither with each other nor with an argument.
func TestMemory(t *testing.T) {
	d, w := spacious(), []int{0, 1, 9}
	before := clone(d)
	fresh, _ := device.New(d.M, d.Latency, d.Faults, d.Seed)
	reset, _ := device.Reset(d)
	stepped, _, _ := device.Step(d, 0)
	asked, outputs, _ := device.Query(d, w[:2])
	outputs[0] = 7
	lossy := d
	lossy.Faults.Lost = api.Scale
	failed, _, _ := device.Query(lossy, w[:2])
	for i, x := range []api.Device{fresh, reset, stepped, asked, failed} {
		if !separate(&x) {
			t.Errorf("the lists of the result %d share memory: %v", i, x)
		}
	}
	if !same(d, before) || !slices.Equal(w, []int{0, 1, 9}) {
		t.Error("the arguments have become", d, w)
	}
	for _, l := range lists(&d) {
		if (*l)[:3][2] != 9 {
			t.Error("the memory behind a list has become", (*l)[:3])
		}
	}
	if d.M.Next[:3][2][0] != 9 || d.M.Out[:3][2][0] != 9 {
		t.Error("the memory behind the lists has changed")
	}
}
