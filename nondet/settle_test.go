package nondet_test

import (
	"math"
	"slices"
	"testing"

	"learner/api"
	"learner/nondet"
	"learner/observe"
	"learner/word"
)

// settled returns what Settle has to return: every trace is cut as often as it begins with a clash, and added.
func settled(l []api.Trace, inputs int) api.Obs {
	uncertain := clashes(l)
	o := obs(inputs)
	for _, t := range l {
		for {
			i := slices.IndexFunc(uncertain, func(c api.Clash) bool { return word.HasPrefix(t.In, c.Word) })
			if i < 0 {
				break
			}
			n := len(uncertain[i].Word) - 1
			t = trace(t.In[:n], t.Out[:n])
		}
		o, _ = observe.Add(o, t)
	}
	return o
}

// P18.4: ordinary lists.
func TestSettle(t *testing.T) {
	for i, c := range []struct {
		l, want []api.Trace
	}{
		{nil, nil},
		{[]api.Trace{{}, {}}, nil},
		{[]api.Trace{trace(list{0}, list{1}), {}, trace(list{0, 1}, list{1, 2})}, []api.Trace{trace(list{0, 1}, list{1, 2})}},
		{[]api.Trace{trace(list{0, 1}, list{1, 2}), trace(list{1}, list{api.MaxOutput}), trace(list{0, 1}, list{1, 2})}, []api.Trace{trace(list{1}, list{api.MaxOutput}), trace(list{0, 1}, list{1, 2})}},
		// A clash cuts all traces that begin with it, whatever their outputs are.
		{[]api.Trace{trace(list{0, 0}, list{1, 1}), trace(list{0, 0}, list{1, 2}), trace(list{0, 0, 1, 1}, list{1, 1, 0, 0}), trace(list{1, 0, 0}, list{0, 0, 0})}, []api.Trace{trace(list{0}, list{1}), trace(list{1, 0, 0}, list{0, 0, 0})}},
		// The shortest clash counts.
		{[]api.Trace{trace(list{1, 0, 0}, list{0, 1, 1}), trace(list{1, 0, 0}, list{0, 1, 2}), trace(list{1, 0, 0, 0}, list{0, 2, 0, 0})}, []api.Trace{trace(list{1}, list{0})}},
		// Several clashes, none of which is a prefix of another one.
		{[]api.Trace{trace(list{0, 1}, list{0, 0}), trace(list{0, 1}, list{0, 1}), trace(list{1, 1, 0}, list{0, 0, 0}), trace(list{1, 1, 0}, list{0, 0, 1}), trace(list{0, 0}, list{0, 0})}, []api.Trace{trace(list{0, 0}, list{0, 0}), trace(list{1, 1}, list{0, 0})}},
		// What was cut may be contained in another trace.
		{[]api.Trace{trace(list{0, 1, 1}, list{0, 0, 0}), trace(list{0, 1, 1}, list{0, 0, 1}), trace(list{0, 1, 0}, list{0, 0, 5})}, []api.Trace{trace(list{0, 1, 0}, list{0, 0, 5})}},
	} {
		o, x, e := nondet.Settle(c.l, 2)
		if !observe.Same(o, obs(2, c.want...)) || !same(x, nondet.Clashes(c.l)) || e != api.OK {
			t.Errorf("case %d: Settle returns %v, %v, %d", i, o, x, e)
		}
	}
}

// P18.4: errors of the number of inputs and of the traces, in their order.
func TestSettleErrors(t *testing.T) {
	long := make(list, api.MaxWord+1)
	good := trace(list{0, 1}, list{1, api.MaxOutput})
	for i, c := range []struct {
		inputs int
		want   api.Errno
		l      []api.Trace
	}{
		{0, api.ErrRange, nil},
		{-1, api.ErrRange, []api.Trace{trace(list{5}, nil)}},
		{api.MaxInputs + 1, api.ErrRange, nil},
		{math.MinInt, api.ErrRange, nil},
		{math.MaxInt, api.ErrRange, []api.Trace{good}},
		{2, api.ErrTooLong, []api.Trace{trace(long, nil)}},
		{2, api.ErrTooLong, []api.Trace{trace(slices.Repeat(list{2}, api.MaxWord+1), nil)}},
		{2, api.ErrInvalid, []api.Trace{trace(list{2}, list{0})}},
		{1, api.ErrInvalid, []api.Trace{good}},
		{2, api.ErrInvalid, []api.Trace{trace(list{-1}, list{-1})}},
		{2, api.ErrInvalid, []api.Trace{trace(list{0, 1}, list{-1})}},
		{2, api.ErrInvalid, []api.Trace{trace(list{0}, list{-1, 0})}},
		{2, api.ErrInvalid, []api.Trace{trace(nil, list{0})}},
		{2, api.ErrRange, []api.Trace{trace(list{0, 0}, list{0, -1})}},
		{2, api.ErrRange, []api.Trace{trace(list{0}, list{api.MaxOutput + 1})}},
		{2, api.ErrRange, []api.Trace{good, {}, trace(list{0}, list{math.MinInt}), trace(list{2}, nil)}},
		{2, api.ErrTooLong, []api.Trace{good, trace(long, nil), trace(list{0}, list{-1})}},
		{2, api.ErrInvalid, []api.Trace{good, trace(list{0}, list{5}), trace(list{0, 2}, list{-1, 0}), trace(list{0}, list{-1})}},
	} {
		if o, x, e := nondet.Settle(c.l, c.inputs); !observe.Same(o, api.Obs{}) || len(x) != 0 || e != c.want {
			t.Errorf("case %d: Settle returns %v, %v, %d", i, o, x, e)
		}
	}
	most := trace(append(make(list, api.MaxWord-1), api.MaxInputs-1), make(list, api.MaxWord))
	if o, x, e := nondet.Settle([]api.Trace{most}, api.MaxInputs); !observe.Same(o, obs(api.MaxInputs, most)) || len(x) != 0 || e != api.OK {
		t.Error("Settle of the longest trace returns", e)
	}
}

// different returns n traces of which none is a prefix of another one, sorted.
func different(n int) []api.Trace {
	var l []api.Trace
	for w, ok := make(list, 14), true; len(l) < n && ok; w, ok = word.Next(w, 2) {
		l = append(l, trace(w, make(list, 14)))
	}
	return l
}

// P18.4: the number of traces of the result, and not that of the list, is limited.
func TestSettleLimit(t *testing.T) {
	all := different(api.MaxTraces + 1)
	most := all[:api.MaxTraces]
	want := obs(2, most...)
	if o, x, e := nondet.Settle(append(slices.Clone(most), most...), 2); !observe.Same(o, want) || len(x) != 0 || e != api.OK {
		t.Errorf("Settle of most traces returns %d traces, %d", len(o.Traces), e)
	}
	shorter := slices.Clone(most)
	for i, x := range most {
		shorter = append(shorter, trace(x.In[:i%14], x.Out[:i%14]))
	}
	if o, _, e := nondet.Settle(shorter, 2); !observe.Same(o, want) || e != api.OK {
		t.Errorf("Settle of most traces and their prefixes returns %d traces, %d", len(o.Traces), e)
	}
	if o, x, e := nondet.Settle(all, 2); !observe.Same(o, api.Obs{}) || len(x) != 0 || e != api.ErrLimit {
		t.Errorf("Settle of too many traces returns %d traces, %d", len(o.Traces), e)
	}
	// A clash that does not cut enough, and one that does. The errors of a trace count more.
	last := all[api.MaxTraces]
	other := trace(last.In, append(make(list, 13), 1))
	if o, x, e := nondet.Settle(append(slices.Clone(all), other, trace(list{1, 1}, list{0, 0})), 2); !observe.Same(o, api.Obs{}) || len(x) != 0 || e != api.ErrLimit {
		t.Errorf("Settle of too many traces with a clash returns %d traces, %v, %d", len(o.Traces), x, e)
	}
	// The words from the number 2^12 to 2^13 - 1 begin with 0 1.
	want = obs(2, slices.Concat(all[:1<<12], all[1<<13:])...)
	if o, x, e := nondet.Settle(append(slices.Clone(all), trace(list{0, 1}, list{0, 1})), 2); !observe.Same(o, want) || !same(x, []api.Clash{found(list{0, 1}, 0, 1)}) || e != api.OK {
		t.Errorf("Settle of traces that are cut returns %d traces, %v, %d", len(o.Traces), x, e)
	}
	if _, _, e := nondet.Settle(append(slices.Clone(all), trace(list{1}, list{-1})), 2); e != api.ErrRange {
		t.Error("Settle of too many traces and one that is not proper returns", e)
	}
}

// P18.4, P18.7: many random lists.
func TestSettleRandom(t *testing.T) {
	cut := 0
	for state := range uint64(4000) {
		inputs := 1 + int(state%3)
		l := noisy(state, inputs, int(state%43), 1+int(state%7), 20+int(state%180))
		o, x, e := nondet.Settle(l, inputs)
		if !observe.Same(o, settled(l, inputs)) || !same(x, clashes(l)) || e != api.OK {
			t.Fatalf("Settle of %v returns %v, %v, %d", l, o, x, e)
		}
		if e := observe.Valid(o); e != api.OK {
			t.Fatalf("Settle of %v returns observations with the error %d", l, e)
		}
		if len(x) > 0 && len(o.Traces) > 2 {
			cut++
		}
		isCertain(t, l, o, x)
	}
	if cut < 500 {
		t.Error("only", cut, "lists are cut in part")
	}
}

// isCertain checks that observations answer every trace up to its first clash with its own outputs, and no clash.
func isCertain(t *testing.T, l []api.Trace, o api.Obs, x []api.Clash) {
	t.Helper()
	clashed := func(w []int) bool {
		return slices.ContainsFunc(x, func(c api.Clash) bool { return word.HasPrefix(w, c.Word) })
	}
	for _, u := range l {
		n := 0
		for n < len(u.In) && !clashed(u.In[:n+1]) {
			n++
		}
		if answer, ok := observe.Answer(o, u.In[:n]); !ok || !slices.Equal(answer, u.Out[:n]) || observe.Known(o, u.In) != n {
			t.Fatalf("the trace %v is answered by %v", u, o)
		}
	}
	for _, u := range o.Traces {
		if clashed(u.In) {
			t.Fatalf("the clash %v is a prefix of %v", x, u)
		}
	}
}

// P18.4: many long traces, and many clashes.
func TestSettleLarge(t *testing.T) {
	long := noisy(1, 2, 2000, api.MaxWord, 1<<30)
	if o, x, e := nondet.Settle(long, 2); len(o.Traces) < 1500 || len(x) != 0 || e != api.OK {
		t.Errorf("Settle of long traces returns %d traces, %d clashes, %d", len(o.Traces), len(x), e)
	}
	// Every third word has two outputs for its last symbol; what remains of it is a prefix of the word beside it.
	var l, want []api.Trace
	var clashes []api.Clash
	for i, x := range different(1 << 13) {
		l = append(l, x)
		if i%3 != 0 {
			want = append(want, x)
			continue
		}
		l = append(l, trace(append(slices.Clone(x.In), 0), append(slices.Concat(x.Out[:13], list{i + 1}), 0)))
		clashes = append(clashes, found(x.In, 0, i+1))
	}
	slices.Reverse(l)
	if o, x, e := nondet.Settle(l, 2); !observe.Same(o, obs(2, want...)) || !same(x, clashes) || e != api.OK {
		t.Errorf("Settle of many traces returns %d traces, %d clashes, %d", len(o.Traces), len(x), e)
	}
}

// The other examples of the chapter.
func TestExamples(t *testing.T) {
	l := []api.Trace{trace(list{0, 1}, list{1, 2}), trace(list{0, 1, 1}, list{1, 0, 0}), trace(list{0}, list{1})}
	if o, x, e := nondet.Settle(l, 2); !observe.Same(o, obs(2, l[2])) || !same(x, []api.Clash{found(list{0, 1}, 0, 2)}) || e != api.OK {
		t.Error(o, x, e)
	}
	l = []api.Trace{trace(list{0}, list{1}), trace(list{0, 1}, list{2, 0})}
	if o, x, e := nondet.Settle(l, 2); !observe.Same(o, obs(2)) || !same(x, []api.Clash{found(list{0}, 1, 2)}) || e != api.OK {
		t.Error(o, x, e)
	}
}
