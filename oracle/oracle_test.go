package oracle_test

import (
	"math"
	"slices"
	"testing"

	"learner/api"
	"learner/device"
	"learner/mealy"
	"learner/observe"
	"learner/oracle"
	"learner/random"
	"learner/word"
	"learner/wordset"
)

// gate returns the gate of the document.
func gate() api.Mealy {
	return api.Mealy{Inputs: 2, Next: [][]int{{1, 0}, {1, 0}}, Out: [][]int{{1, 0}, {1, 2}}}
}

// gateDevice returns a device with the gate that has done nothing.
func gateDevice(f api.Faults) api.Device {
	return api.Device{M: gate(), Latency: api.Latency{Step: []int{5, 3}, Reset: 100}, Faults: f, Seed: 7}
}

// gateOracle returns an oracle for the gate that has asked nothing.
func gateOracle(f api.Faults, votes, tries int) api.Oracle {
	return api.Oracle{Device: gateDevice(f), Obs: api.Obs{Inputs: 2}, Votes: votes, Tries: tries}
}

// trace returns a trace.
func trace(in, out []int) api.Trace {
	return api.Trace{In: in, Out: out}
}

// knowing returns an oracle with other observations.
func knowing(q api.Oracle, traces ...api.Trace) api.Oracle {
	q.Obs.Traces = traces
	return q
}

// sameDevice reports whether two devices have equal fields.
func sameDevice(a, b api.Device) bool {
	lists := mealy.Same(a.M, b.M) && slices.Equal(a.Latency.Step, b.Latency.Step)
	position := a.State == b.State && a.Ready == b.Ready && a.Seed == b.Seed
	counters := a.Steps == b.Steps && a.Resets == b.Resets && a.Time == b.Time
	return lists && position && counters && a.Latency.Reset == b.Latency.Reset && a.Faults == b.Faults
}

// same reports whether two oracles have equal fields.
func same(a, b api.Oracle) bool {
	numbers := a.Votes == b.Votes && a.Tries == b.Tries && a.Asked == b.Asked && a.Hits == b.Hits
	return numbers && sameDevice(a.Device, b.Device) && observe.Same(a.Obs, b.Obs)
}

// rows returns lists in new memory.
func rows(l [][]int) [][]int {
	l = slices.Clone(l)
	for i := range l {
		l[i] = slices.Clone(l[i])
	}
	return l
}

// cloneDevice returns a device in new memory.
func cloneDevice(d api.Device) api.Device {
	d.M.Next, d.M.Out, d.Latency.Step = rows(d.M.Next), rows(d.M.Out), slices.Clone(d.Latency.Step)
	return d
}

// clone returns an oracle in new memory.
func clone(q api.Oracle) api.Oracle {
	q.Device = cloneDevice(q.Device)
	q.Obs.Traces = slices.Clone(q.Obs.Traces)
	for i, t := range q.Obs.Traces {
		q.Obs.Traces[i] = trace(slices.Clone(t.In), slices.Clone(t.Out))
	}
	return q
}

// drawn returns an oracle for a random machine with random faults, without observations.
func drawn(seed uint64) api.Oracle {
	below := func(n int) int {
		var x int
		x, seed, _ = random.Below(seed, n)
		return x
	}
	states := 1 + below(4)
	d := api.Device{M: api.Mealy{Inputs: 1 + below(3), Start: below(states)}}
	for range states {
		var next, out []int
		for range d.M.Inputs {
			next, out = append(next, below(states)), append(out, below(3))
		}
		d.M.Next, d.M.Out = append(d.M.Next, next), append(d.M.Out, out)
		d.State, d.Ready = below(states), below(2) > 0
	}
	d.Latency = api.Latency{Step: slices.Repeat([]int{1 + below(9)}, d.M.Inputs), Reset: below(90)}
	d.Faults = api.Faults{Lost: below(3) * below(2000), Wrong: below(3) * below(1000), Crash: below(3) * below(1000)}
	d.Seed = uint64(below(1 << 30))
	votes := 1 + below(3)
	return api.Oracle{Device: d, Obs: api.Obs{Inputs: d.M.Inputs}, Votes: votes, Tries: votes + below(4)}
}

// drawnWords returns n random words of at most most symbols.
func drawnWords(state uint64, inputs, n, most int) [][]int {
	var l [][]int
	for range n {
		var length int
		var w []int
		length, state, _ = random.Below(state, most+1)
		w, state, _ = random.Word(state, inputs, length)
		l = append(l, w)
	}
	return l
}

// P21.1: a new oracle has the device as it is, no observations, and has asked nothing.
func TestNew(t *testing.T) {
	used := gateDevice(api.Faults{Lost: 1, Wrong: 2, Crash: 3})
	used.State, used.Ready, used.Steps, used.Resets, used.Time, used.Seed = 1, true, 4, 5, 6, math.MaxUint64
	one := api.Device{M: api.Mealy{Inputs: 1, Next: [][]int{{0}}, Out: [][]int{{9}}}, Latency: api.Latency{Step: []int{0}}}
	for i, c := range []struct {
		d            api.Device
		votes, tries int
	}{
		{gateDevice(api.Faults{}), 1, 1},
		{gateDevice(api.Faults{}), 1, api.MaxTries},
		{gateDevice(api.Faults{Lost: api.Scale}), api.MaxVotes, api.MaxVotes},
		{used, api.MaxVotes, api.MaxTries},
		{one, 3, 4},
	} {
		q, e := oracle.New(c.d, c.votes, c.tries)
		want := api.Oracle{Device: c.d, Obs: api.Obs{Inputs: c.d.M.Inputs}, Votes: c.votes, Tries: c.tries}
		if !same(q, want) || e != api.OK {
			t.Errorf("case %d: New returns %v, %d", i, q, e)
		}
	}
}

// P21.1: the errors and their order, with which there is no oracle.
func TestNewErrors(t *testing.T) {
	empty, costly, late := gateDevice(api.Faults{}), gateDevice(api.Faults{}), gateDevice(api.Faults{})
	empty.M.Next = nil
	costly.Latency.Step = []int{1}
	late.Time = api.MaxTime + 1
	good := gateDevice(api.Faults{})
	for i, c := range []struct {
		d            api.Device
		votes, tries int
		want         api.Errno
	}{
		{api.Device{}, 1, 1, api.ErrRange},
		{empty, 1, 1, api.ErrEmpty},
		{empty, 0, 0, api.ErrEmpty},
		{costly, 1, 1, api.ErrInvalid},
		{costly, 2, 1, api.ErrInvalid},
		{late, 1, 1, api.ErrRange},
		{good, 0, 1, api.ErrRange},
		{good, 0, 0, api.ErrRange},
		{good, -1, -1, api.ErrRange},
		{good, math.MinInt, 5, api.ErrRange},
		{good, api.MaxVotes + 1, api.MaxTries, api.ErrRange},
		{good, math.MaxInt, math.MaxInt, api.ErrRange},
		{good, 3, 2, api.ErrRange},
		{good, 1, 0, api.ErrRange},
		{good, 1, math.MinInt, api.ErrRange},
		{good, api.MaxVotes, api.MaxVotes - 1, api.ErrRange},
		{good, 1, api.MaxTries + 1, api.ErrRange},
		{good, 1, math.MaxInt, api.ErrRange},
	} {
		if q, e := oracle.New(c.d, c.votes, c.tries); !same(q, api.Oracle{}) || e != c.want {
			t.Errorf("case %d: New returns %v, %d, not %d", i, q, e, c.want)
		}
	}
}

// P21.2: a word that the observations answer is not given to the device, and Hits is 1 greater.
func TestAskKnown(t *testing.T) {
	// The outputs are not those of the gate, so that they can only be those of the observations.
	traces := []api.Trace{trace([]int{1}, []int{7}), trace([]int{0, 0, 1}, []int{5, 6, 8})}
	for i, c := range []struct{ w, want []int }{
		{nil, nil},
		{[]int{}, nil},
		{[]int{0}, []int{5}},
		{[]int{1}, []int{7}},
		{[]int{0, 0}, []int{5, 6}},
		{[]int{0, 0, 1}, []int{5, 6, 8}},
	} {
		for _, hits := range []int{0, 41, -3, math.MaxInt} {
			q := knowing(gateOracle(api.Faults{Lost: api.Scale}, 1, 5), traces...)
			q.Asked, q.Hits = 11, hits
			want := q
			want.Hits++
			x, answer, e := oracle.Ask(q, c.w)
			if !same(x, want) || !slices.Equal(answer, c.want) || e != api.OK {
				t.Errorf("case %d: Ask returns %v, %v, %d", i, x, answer, e)
			}
		}
	}
	q := gateOracle(api.Faults{}, 1, 1)
	q.Hits = math.MaxInt
	if q, _, _ = oracle.Ask(q, nil); q.Hits != math.MinInt {
		t.Error("behind 2^63 - 1 comes", q.Hits)
	}
}

// wrongWords are lists of words over two symbols with the error of the first word that has one.
func wrongWords() map[string]struct {
	words [][]int
	want  api.Errno
} {
	long := make([]int, api.MaxWord+1)
	return map[string]struct {
		words [][]int
		want  api.Errno
	}{
		"great symbol":     {[][]int{{2}}, api.ErrInvalid},
		"negative symbol":  {[][]int{{0, 1, -1}}, api.ErrInvalid},
		"far symbol":       {[][]int{{0}, nil, {math.MaxInt}}, api.ErrInvalid},
		"long":             {[][]int{long}, api.ErrTooLong},
		"long with symbol": {[][]int{slices.Repeat([]int{2}, api.MaxWord+1)}, api.ErrTooLong},
		"first long":       {[][]int{{1}, long, {2}}, api.ErrTooLong},
		"first symbol":     {[][]int{{1}, {0, 2}, long}, api.ErrInvalid},
		"not in order":     {[][]int{long, {2}}, api.ErrTooLong},
	}
}

// P21.2, P21.4: words are checked first, and an oracle that has been given others is unchanged.
func TestWrongWords(t *testing.T) {
	q := knowing(gateOracle(api.Faults{}, 2, 3), trace([]int{0}, []int{1}))
	q.Asked, q.Hits = 4, 5
	for name, c := range wrongWords() {
		wrong := slices.IndexFunc(c.words, func(w []int) bool { return word.Check(w, 2) != api.OK })
		if x, answer, e := oracle.Ask(q, c.words[wrong]); !same(x, q) || len(answer) != 0 || e != c.want {
			t.Errorf("%s: Ask returns %v, %v, %d, not %d", name, x, answer, e, c.want)
		}
		if x, e := oracle.All(q, c.words); !same(x, q) || e != c.want {
			t.Errorf("%s: All returns %v, %d, not %d", name, x, e, c.want)
		}
	}
}

// asked is what Ask does with a gate: the device is used so often.
type asked struct {
	votes, tries int
	faults       api.Faults
	w, want      []int
	e            api.Errno
	queries      int
	steps        int
}

// P21.3: the number of queries and the answers, for faults that are certain or do not occur.
func TestAsk(t *testing.T) {
	lost, wrong, crash := api.Faults{Lost: api.Scale}, api.Faults{Wrong: api.Scale}, api.Faults{Crash: api.Scale}
	for i, c := range []asked{
		{1, 1, api.Faults{}, []int{1, 0, 1}, []int{0, 1, 2}, api.OK, 1, 3},
		{1, 64, api.Faults{}, []int{1, 0, 1}, []int{0, 1, 2}, api.OK, 1, 3},
		{2, 2, api.Faults{}, []int{0, 1}, []int{1, 2}, api.OK, 2, 4},
		{9, 64, api.Faults{}, []int{0, 1}, []int{1, 2}, api.OK, 9, 18},
		{9, 9, api.Faults{}, make([]int, api.MaxWord), slices.Repeat([]int{1}, api.MaxWord), api.OK, 9, 9 * api.MaxWord},
		{1, 1, lost, []int{0}, nil, api.ErrFault, 1, 1},
		{1, 5, lost, []int{0, 1, 1}, nil, api.ErrFault, 5, 5},
		{9, 64, lost, []int{1}, nil, api.ErrFault, 64, 64},
		{3, 7, wrong, []int{1, 0, 1}, []int{1, 2, 3}, api.OK, 3, 9},
		{4, 7, crash, []int{0}, []int{1}, api.OK, 4, 4},
		{4, 7, crash, []int{0, 0}, nil, api.ErrFault, 7, 7},
	} {
		q := gateOracle(c.faults, c.votes, c.tries)
		q.Asked, q.Hits = 30, 20
		x, answer, e := oracle.Ask(q, c.w)
		if !slices.Equal(answer, c.want) || e != c.e || x.Asked != 30+c.queries || x.Hits != 20 {
			t.Errorf("case %d: Ask returns %v, %v, %d", i, x, answer, e)
		}
		if x.Device.Resets != c.queries || x.Device.Steps != c.steps || x.Votes != c.votes || x.Tries != c.tries {
			t.Errorf("case %d: the oracle has become %v", i, x)
		}
		var o api.Obs
		o, _ = observe.New(2)
		if c.e == api.OK {
			o, _ = observe.Add(o, trace(c.w, c.want))
		}
		if !observe.Same(x.Obs, o) {
			t.Errorf("case %d: the observations have become %v", i, x.Obs)
		}
	}
}

// P21.3: Asked counts modulo 2^64.
func TestAskedOverflow(t *testing.T) {
	q := gateOracle(api.Faults{}, 3, 3)
	q.Asked = math.MaxInt - 1
	q, _, e := oracle.Ask(q, []int{0})
	if q.Asked != math.MinInt+1 || e != api.OK {
		t.Error("Asked has become", q.Asked, e)
	}
}

// P21.3: a counter that is exhausted yields no output words, but the queries before it do.
func TestAskExhausted(t *testing.T) {
	for i, c := range []struct {
		left int // the time that is left; a query of the word needs 108
		want api.Errno
	}{
		{0, api.ErrFault},
		{107, api.ErrFault},
		{108, api.ErrNondet},
		{323, api.ErrNondet},
		{324, api.OK},
	} {
		q := gateOracle(api.Faults{}, 3, 9)
		q.Device.Time = api.MaxTime - c.left
		x, answer, e := oracle.Ask(q, []int{0, 1})
		if e != c.want || (len(answer) == 2) != (e == api.OK) || len(x.Obs.Traces) != len(answer)/2 {
			t.Errorf("case %d: Ask returns %v, %v, %d", i, x, answer, e)
		}
		if queries := x.Asked; queries != 9 && e != api.OK || queries != 3 && e == api.OK {
			t.Errorf("case %d: there are %d queries", i, queries)
		}
		if x.Device.Time <= q.Device.Time && c.left >= 100 {
			t.Errorf("case %d: the device has done nothing", i)
		}
	}
	q := gateOracle(api.Faults{}, 1, 2)
	q.Device.Resets = 1 << 50
	want := q
	want.Asked = 2
	if x, _, e := oracle.Ask(q, []int{0}); !same(x, want) || e != api.ErrFault {
		t.Error("without resets Ask returns", x, e)
	}
}

// P21.3, P21.5: an answer that contradicts the observations is an error; the device and Asked are those after the queries.
func TestAskContradiction(t *testing.T) {
	q := knowing(gateOracle(api.Faults{}, 2, 4), trace([]int{1}, []int{0}), trace([]int{0, 0}, []int{1, 5}))
	for _, w := range [][]int{{0, 0, 1}, {0, 0, 0, 0}} {
		want := q
		want.Device, _, _ = device.Query(want.Device, w)
		want.Device, _, _ = device.Query(want.Device, w)
		want.Asked = 2
		if x, answer, e := oracle.Ask(q, w); !same(x, want) || len(answer) != 0 || e != api.ErrNondet {
			t.Errorf("Ask of %v returns %v, %v, %d", w, x, answer, e)
		}
		if x, e := oracle.All(q, [][]int{{1}, w}); !same(x, want) || e != api.ErrNondet {
			t.Errorf("All of %v returns %v, %d", w, x, e)
		}
	}
	// Only the common prefix counts.
	if x, answer, e := oracle.Ask(q, []int{0, 1}); !slices.Equal(answer, []int{1, 2}) || len(x.Obs.Traces) != 3 || e != api.OK {
		t.Error("Ask of 0 1 returns", x, answer, e)
	}
}

// crowded returns an oracle whose observations are n traces of three inputs of a machine with one state.
func crowded(n int) api.Oracle {
	m := api.Mealy{Inputs: api.MaxInputs, Next: [][]int{make([]int, api.MaxInputs)}, Out: [][]int{make([]int, api.MaxInputs)}}
	d := api.Device{M: m, Latency: api.Latency{Step: make([]int, api.MaxInputs), Reset: 1}}
	q := api.Oracle{Device: d, Obs: api.Obs{Inputs: api.MaxInputs}, Votes: 1, Tries: 1}
	for i := range n {
		q.Obs.Traces = append(q.Obs.Traces, trace(crowdedWord(i), make([]int, 3)))
	}
	return q
}

// crowdedWord returns the i-th word of three symbols.
func crowdedWord(i int) []int {
	const k = api.MaxInputs
	return []int{i / (k * k), i / k % k, i % k}
}

// P21.3: the observations can become too many, but a trace can replace another one.
func TestAskTooMany(t *testing.T) {
	for i, c := range []struct {
		traces int
		w      []int
		want   api.Errno
	}{
		{api.MaxTraces - 1, []int{63}, api.OK},
		{api.MaxTraces, []int{63}, api.ErrLimit},
		{api.MaxTraces, []int{0, 0, 0}, api.OK},
		{api.MaxTraces, []int{0, 0, 0, 5}, api.OK},
		{api.MaxTraces, []int{63, 0, 0, 5}, api.ErrLimit},
	} {
		q := crowded(c.traces)
		x, answer, e := oracle.Ask(q, c.w)
		if e != c.want || (len(answer) > 0) != (e == api.OK) || len(x.Obs.Traces) > api.MaxTraces || x.Asked+x.Hits != 1 {
			t.Errorf("case %d: Ask returns %d traces, %v, %d", i, len(x.Obs.Traces), answer, e)
		}
		if e != api.OK && !observe.Same(x.Obs, q.Obs) || x.Device.Resets != x.Asked {
			t.Errorf("case %d: the oracle has not become what it has to", i)
		}
	}
}

// P21.5: without faults the answer is the output word of the machine. P21.7: it needs Votes queries, or none.
func TestWithoutFaults(t *testing.T) {
	for state := range uint64(200) {
		q := drawn(state)
		q.Device.Faults = api.Faults{}
		inputs := q.Device.M.Inputs
		for _, w := range drawnWords(state, inputs, 15, 6) {
			queries := q.Votes
			if observe.Known(q.Obs, w) == len(w) {
				queries = 0
			}
			x, answer, e := oracle.Ask(q, w)
			right, _ := mealy.Run(q.Device.M, w)
			if !slices.Equal(answer, right) || e != api.OK || x.Asked != q.Asked+queries || x.Device.Resets != q.Device.Resets+queries {
				t.Fatalf("Ask of %v by %v returns %v, %v, %d", w, q, x, answer, e)
			}
			q = x
		}
		words := drawnWords(state+1000, inputs, 20, 6)
		q, e := oracle.All(q, words)
		if all, _ := observe.Of(q.Device.M, append(words, drawnWords(state, inputs, 15, 6)...)); !observe.Same(q.Obs, all) || e != api.OK {
			t.Fatalf("All of %v returns %v, %d", words, q, e)
		}
	}
}

// P21.6: a word that was answered, and its prefixes, are answered again in the same way, without the device. P21.7: at most Tries queries.
func TestAgain(t *testing.T) {
	answered := 0
	for state := range uint64(300) {
		q := drawn(state)
		for _, w := range drawnWords(state, q.Device.M.Inputs, 6, 5) {
			x, answer, e := oracle.Ask(q, w)
			if n := x.Asked - q.Asked; n < 0 || n > q.Tries || x.Device.Resets-q.Device.Resets != n {
				t.Fatalf("Ask of %v by %v uses the device %d times", w, q, n)
			}
			q = x
			if e != api.OK {
				continue
			}
			answered++
			for _, p := range wordset.Prefixes([][]int{w}) {
				again, part, e := oracle.Ask(q, p)
				q.Hits++
				if !same(again, q) || !slices.Equal(part, answer[:len(p)]) || e != api.OK {
					t.Fatalf("Ask of %v after %v returns %v, %v, %d", p, w, again, part, e)
				}
			}
		}
	}
	if answered < 500 {
		t.Error("only", answered, "words are answered")
	}
}
