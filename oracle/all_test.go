package oracle_test

import (
	"fmt"
	"math"
	"slices"
	"testing"

	"learner/api"
	"learner/batch"
	"learner/device"
	"learner/observe"
	"learner/oracle"
	"learner/random"
)

// literalAsk does what Ask has to do with a word that is valid, literally.
func literalAsk(q api.Oracle, w []int) (api.Oracle, []int, api.Errno) {
	if answer, known := observe.Answer(q.Obs, w); known {
		q.Hits++
		return q, answer, api.OK
	}
	counts := map[string]int{}
	for range q.Tries {
		d, outputs, e := device.Query(q.Device, w)
		q.Device = d
		q.Asked++
		if e != api.OK {
			continue
		}
		text := fmt.Sprint(outputs)
		counts[text]++
		if counts[text] == q.Votes {
			o, e := observe.Add(q.Obs, trace(w, outputs))
			if e != api.OK {
				return q, nil, e
			}
			q.Obs = o
			return q, outputs, api.OK
		}
	}
	if len(counts) > 0 {
		return q, nil, api.ErrNondet
	}
	return q, nil, api.ErrFault
}

// literalAll does what All has to do with words that are valid, and returns besides whether the last query had an answer.
func literalAll(q api.Oracle, words [][]int) (api.Oracle, bool, api.Errno) {
	plan, _ := batch.Plan(q.Obs, words)
	for _, w := range plan {
		before := q.Obs
		x, _, e := literalAsk(q, w)
		if e != api.OK {
			// If observations without traces accept the answer, the error is that of observe.Add.
			q.Obs = api.Obs{Inputs: before.Inputs}
			_, _, alone := literalAsk(q, w)
			return x, alone == api.OK, e
		}
		q = x
	}
	return q, true, api.OK
}

// P21.2, P21.3: with faults Ask does what the document says, in all cases that can occur.
func TestAskFaults(t *testing.T) {
	seen := map[string]int{}
	for state := range uint64(1500) {
		q := drawn(state)
		for _, w := range drawnWords(state+7000, q.Device.M.Inputs, 8, 4) {
			want, right, failure := literalAsk(q, w)
			x, answer, e := oracle.Ask(q, w)
			if !same(x, want) || !slices.Equal(answer, right) || e != failure {
				t.Fatalf("Ask of %v by %v returns %v, %v, %d, not %v, %v, %d", w, q, x, answer, e, want, right, failure)
			}
			switch n := x.Asked - q.Asked; {
			case n == 0:
				seen["known"]++
			case e == api.OK && n > q.Votes:
				seen["late"]++
			case e == api.ErrNondet && n < q.Tries:
				seen["contradiction"]++
			default:
				seen[fmt.Sprint("error ", e)]++
			}
			q = x
		}
	}
	for _, name := range []string{"known", "late", "contradiction", "error 0", "error 13", "error 14"} {
		if seen[name] < 100 {
			t.Errorf("%s: only %d cases", name, seen[name])
		}
	}
}

// P21.4: the words of the plan are asked, in their order.
func TestAll(t *testing.T) {
	some := knowing(gateOracle(api.Faults{}, 2, 2), trace([]int{1, 0}, []int{0, 1}))
	for i, c := range []struct {
		q       api.Oracle
		words   [][]int
		queries int
		traces  []api.Trace
	}{
		{gateOracle(api.Faults{}, 1, 1), nil, 0, nil},
		{gateOracle(api.Faults{}, 1, 1), [][]int{nil, {}}, 0, nil},
		{gateOracle(api.Faults{}, 1, 1), [][]int{{0}, {0, 1}, {1}}, 2, []api.Trace{trace([]int{1}, []int{0}), trace([]int{0, 1}, []int{1, 2})}},
		{gateOracle(api.Faults{}, 3, 4), [][]int{{0}, {0}, {0}}, 3, []api.Trace{trace([]int{0}, []int{1})}},
		{some, [][]int{{1}, {1, 0}, nil}, 0, some.Obs.Traces},
		{some, [][]int{{1, 0, 1}, {1, 1}}, 4, []api.Trace{trace([]int{1, 1}, []int{0, 0}), trace([]int{1, 0, 1}, []int{0, 1, 2})}},
	} {
		x, e := oracle.All(c.q, c.words)
		if x.Asked != c.queries || x.Device.Resets != c.queries || x.Hits != 0 || e != api.OK {
			t.Errorf("case %d: All returns %v, %d", i, x, e)
		}
		if !observe.Same(x.Obs, api.Obs{Inputs: 2, Traces: c.traces}) {
			t.Errorf("case %d: the observations have become %v", i, x.Obs)
		}
	}
}

// P21.4: the number of words is checked before the words.
func TestAllTooMany(t *testing.T) {
	q := gateOracle(api.Faults{}, 1, 1)
	most := slices.Repeat([][]int{{0}}, api.MaxWords)
	if x, e := oracle.All(q, most); x.Asked != 1 || e != api.OK {
		t.Error("All of 10000 words returns", x, e)
	}
	for _, w := range [][]int{{0}, {2}, make([]int, api.MaxWord+1)} {
		if x, e := oracle.All(q, append(most[:api.MaxWords:api.MaxWords], w)); !same(x, q) || e != api.ErrLimit {
			t.Error("All of 10001 words returns", x, e)
		}
		most[5] = w
	}
}

// P21.4: after the first error no word is asked any more, and the answers before it are kept.
func TestAllErrors(t *testing.T) {
	q := knowing(gateOracle(api.Faults{}, 1, 2), trace([]int{1}, []int{0}), trace([]int{0, 0}, []int{1, 5}))
	words := [][]int{{1, 1}, {0, 0, 0}, {1, 0, 0, 0}, {0, 1}}
	x, e := oracle.All(q, words)
	want := []api.Trace{trace([]int{0, 0}, []int{1, 5}), trace([]int{0, 1}, []int{1, 2}), trace([]int{1, 1}, []int{0, 0})}
	if x.Asked != 3 || x.Device.Steps != 7 || !observe.Same(x.Obs, api.Obs{Inputs: 2, Traces: want}) || e != api.ErrNondet {
		t.Error("All returns", x, e)
	}
	// The time is enough for the first word only.
	q = gateOracle(api.Faults{}, 1, 2)
	q.Device.Time = api.MaxTime - 250
	x, e = oracle.All(q, words)
	if x.Asked != 4 || len(x.Obs.Traces) != 2 || e != api.ErrFault {
		t.Error("All returns", x, e)
	}
	q = gateOracle(api.Faults{Lost: api.Scale}, 1, 3)
	x, e = oracle.All(q, words)
	if x.Asked != 3 || len(x.Obs.Traces) != 0 || e != api.ErrFault {
		t.Error("All returns", x, e)
	}
}

// P21.4: with faults All does the same as Ask for the words of the plan, in all cases that can occur.
func TestAllFaults(t *testing.T) {
	seen := map[string]int{}
	for state := range uint64(1500) {
		q := drawn(state)
		inputs := q.Device.M.Inputs
		for round := range uint64(3) {
			n, next, _ := random.Below(state*3+round, 14)
			words := drawnWords(next, inputs, n, 4)
			want, answered, failure := literalAll(q, words)
			x, e := oracle.All(q, words)
			if !same(x, want) || e != failure {
				t.Fatalf("All of %v by %v returns %v, %d, not %v, %d", words, q, x, e, want, failure)
			}
			kept := len(x.Obs.Traces) > len(q.Obs.Traces)
			seen[fmt.Sprint(e, answered, kept)]++
			q = x
		}
	}
	for _, name := range []string{"0 true true", "0 true false", "13 true true", "13 true false", "13 false true", "13 false false", "14 false true", "14 false false"} {
		if seen[name] < 20 {
			t.Errorf("%s: only %d cases", name, seen[name])
		}
	}
}

// P21.4: near the greatest number of traces All does the same as Ask, also for traces that replace others, and for contradictions.
func TestAllFull(t *testing.T) {
	extended := func(i int, more ...int) []int { return append(crowdedWord(i), more...) }
	free := crowdedWord(api.MaxTraces)
	for i, c := range []struct {
		traces int
		words  [][]int
		want   api.Errno
	}{
		{api.MaxTraces - 2, [][]int{{60}, {61}}, api.OK},
		{api.MaxTraces - 2, [][]int{{60}, {61}, {62}}, api.ErrLimit},
		{api.MaxTraces - 2, [][]int{{60}, extended(5, 1), extended(6, 1), {61}}, api.OK},
		{api.MaxTraces - 2, [][]int{{60}, {61}, extended(5, 1), extended(6, 1)}, api.OK},
		{api.MaxTraces - 2, [][]int{extended(5, 1), extended(5, 2), extended(5, 3)}, api.OK},
		{api.MaxTraces - 2, [][]int{extended(5, 1), extended(5, 2), extended(5, 3), extended(5, 4)}, api.ErrLimit},
		{api.MaxTraces - 2, [][]int{{60}, extended(5, 1), extended(6, 1), extended(6, 2)}, api.OK},
		{api.MaxTraces - 2, [][]int{{60}, extended(5, 1), extended(6, 1), extended(6, 2, 0), extended(7, 1, 1), free}, api.ErrLimit},
		{api.MaxTraces, [][]int{extended(5, 1), extended(6, 1), extended(7, 1)}, api.OK},
		{api.MaxTraces, [][]int{extended(5, 1), extended(6, 1), extended(6, 2), extended(7, 1)}, api.ErrLimit},
		{api.MaxTraces, [][]int{{0, 0, 0}, {63}}, api.ErrLimit},
		{api.MaxTraces, [][]int{{0, 0, 0}, {0, 0}}, api.OK},
		{0, nil, api.OK},
	} {
		q := crowded(c.traces)
		want, _, failure := literalAll(q, c.words)
		if x, e := oracle.All(q, c.words); !same(x, want) || e != failure || e != c.want {
			t.Errorf("case %d: All returns %d traces after %d queries, %d", i, len(x.Obs.Traces), x.Asked, e)
		}
	}
	q := crowded(api.MaxTraces - 1)
	q.Obs.Traces[40].Out[1] = 1
	words := [][]int{extended(3, 1), extended(40, 1), extended(50, 1), {60}}
	want, _, _ := literalAll(q, words)
	if x, e := oracle.All(q, words); !same(x, want) || x.Asked != 3 || e != api.ErrNondet {
		t.Error("All returns", x.Asked, e)
	}
}

// P21.4: as many words as possible, which are as many traces as possible, in a reasonable time.
func TestAllMost(t *testing.T) {
	q := crowded(0)
	var words [][]int
	for i := range api.MaxWords {
		words = append(words, crowdedWord(api.MaxWords-1-i))
	}
	x, e := oracle.All(q, words)
	if !observe.Same(x.Obs, crowded(api.MaxWords).Obs) || x.Asked != api.MaxWords || e != api.OK {
		t.Errorf("All returns %d traces after %d queries, %d", len(x.Obs.Traces), x.Asked, e)
	}
}

// R1: all functions end, and do not panic, also for oracles that are not valid.
func TestNotValid(t *testing.T) {
	numbers := []int{math.MinInt, -1, 0, 1, 3, api.MaxTries + 1, math.MaxInt}
	odd := []api.Trace{{}, trace([]int{0, 1}, nil), trace(nil, []int{1}), trace([]int{-1, 5}, []int{7, 8}), trace([]int{0}, []int{1, 2, 3}), trace([]int{0, 0}, []int{-1, -1})}
	for _, d := range []api.Device{{}, gateDevice(api.Faults{}), gateDevice(api.Faults{Lost: api.Scale}), {M: gate()}, {M: api.Mealy{Inputs: 2}}} {
		for _, votes := range numbers {
			for _, tries := range numbers {
				for i := range odd {
					q := api.Oracle{Device: d, Obs: api.Obs{Inputs: i, Traces: odd[i:]}, Votes: votes, Tries: tries}
					for _, w := range [][]int{nil, {0}, {0, 1, 1}, {1}, {-1, 5}} {
						oracle.Ask(q, w)
					}
					oracle.All(q, [][]int{{0}, {0, 1, 1}, {1, 0}})
				}
			}
		}
	}
}

// overwrite changes all lists of an oracle, and what is behind them.
func overwrite(q *api.Oracle) {
	fill := func(l []int) {
		l = l[:cap(l)]
		for i := range l {
			l[i] = -77
		}
	}
	for _, l := range slices.Concat(q.Device.M.Next, q.Device.M.Out, [][]int{q.Device.Latency.Step}) {
		fill(l)
	}
	for _, t := range q.Obs.Traces {
		fill(t.In)
		fill(t.Out)
	}
	clear(q.Device.M.Next[:cap(q.Device.M.Next)])
	clear(q.Device.M.Out[:cap(q.Device.M.Out)])
	clear(q.Obs.Traces[:cap(q.Obs.Traces)])
}

// spacious returns an oracle whose lists have more capacity than they need.
func spacious(q api.Oracle) api.Oracle {
	q = clone(q)
	q.Device.M.Next, q.Device.M.Out = slices.Grow(q.Device.M.Next, 3), slices.Grow(q.Device.M.Out, 3)
	q.Device.Latency.Step = slices.Grow(q.Device.Latency.Step, 3)
	q.Obs.Traces = slices.Grow(q.Obs.Traces, 3)
	for i, t := range q.Obs.Traces {
		q.Obs.Traces[i] = trace(slices.Grow(t.In, 3), slices.Grow(t.Out, 3))
	}
	return q
}

// R5: arguments do not change, and an oracle that has changed shares no memory with the one before.
func TestMemory(t *testing.T) {
	late := gateOracle(api.Faults{}, 1, 3)
	late.Device.Time = api.MaxTime - 110
	start := knowing(gateOracle(api.Faults{}, 1, 1), trace([]int{1}, []int{0}), trace([]int{0, 0}, []int{1, 5}))
	for i, q := range []api.Oracle{start, late, knowing(gateOracle(api.Faults{Lost: api.Scale}, 1, 2), start.Obs.Traces...)} {
		for _, words := range [][][]int{{{1}}, {{0, 0}}, {{1, 1}}, {{0, 0, 1}}, {{0, 1, 1}, {1, 0}}, {{0, 1, 1}, {0, 0, 0}}} {
			kept, w := spacious(q), slices.Clone(words[0])
			x, answer, _ := oracle.Ask(kept, w)
			before := clone(x)
			slices.Reverse(answer)
			clear(answer)
			clear(w)
			if !same(x, before) {
				t.Errorf("case %d: the oracle has changed with a word: %v", i, x)
			}
			overwrite(&x)
			if !same(kept, q) || len(kept.Obs.Traces) > 0 && slices.ContainsFunc(kept.Obs.Traces[0].In[:cap(kept.Obs.Traces[0].In)], negative) {
				t.Errorf("case %d: Ask has changed %v", i, kept)
			}
			list := rows(words)
			if x, _ = oracle.All(kept, list); x.Asked == 0 {
				// The oracle is unchanged, and may be the argument.
				continue
			}
			overwrite(&x)
			if !same(kept, q) || !slices.EqualFunc(list, words, slices.Equal[[]int]) {
				t.Errorf("case %d: All has changed %v", i, kept)
			}
		}
	}
	d := gateDevice(api.Faults{})
	q, _ := oracle.New(d, 1, 1)
	overwrite(&q)
	if !sameDevice(d, gateDevice(api.Faults{})) {
		t.Error("New keeps the device", d)
	}
}

// negative reports whether a number is below 0.
func negative(n int) bool { return n < 0 }
