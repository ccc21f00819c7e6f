package logs_test

import (
	"math"
	"slices"
	"testing"

	"learner/api"
	"learner/logs"
	"learner/observe"
	"learner/random"
	"learner/word"
)

// obs returns observations.
func obs(inputs int, traces ...api.Trace) api.Obs {
	return api.Obs{Inputs: inputs, Traces: traces}
}

// oneByOne adds traces in order.
func oneByOne(o api.Obs, l []api.Trace) (api.Obs, int, api.Errno) {
	all := o
	for i, t := range l {
		more, e := observe.Add(all, t)
		if e != api.OK {
			return o, i, e
		}
		all = more
	}
	return all, 0, api.OK
}

// imported checks that Import returns what adding the traces one by one does, and returns the error.
func imported(t *testing.T, o api.Obs, l []api.Trace) api.Errno {
	t.Helper()
	want, i, e := oneByOne(o, l)
	if x, n, f := logs.Import(o, l); !observe.Same(x, want) || n != i || f != e {
		t.Errorf("Import of %.300v to %.300v returns %.300v, %d, %d, and not %d, %d", l, o, x, n, f, i, e)
	}
	return e
}

// P17.3: ordinary traces, and one trace with an error among others.
func TestImport(t *testing.T) {
	long := make(list, api.MaxWord+1)
	o := obs(2, trace(list{1}, list{0}), trace(list{0, 1}, list{1, 2}))
	for _, c := range []struct {
		x    api.Trace
		want api.Errno
	}{
		{api.Trace{}, api.OK},
		{trace(list{1}, list{0}), api.OK},
		{trace(list{0}, list{1}), api.OK},
		{trace(list{0, 1, 1}, list{1, 2, 0}), api.OK},
		{trace(list{1, 0}, list{0, api.MaxOutput}), api.OK},
		{trace(long[:api.MaxWord], slices.Repeat(list{1}, api.MaxWord)), api.OK},
		{trace(long, long), api.ErrTooLong},
		{trace(list{2}, list{0}), api.ErrInvalid},
		{trace(list{-1}, list{0}), api.ErrInvalid},
		{trace(list{0, 1}, list{2}), api.ErrInvalid},
		{trace(nil, list{0}), api.ErrInvalid},
		{trace(list{0}, list{-1}), api.ErrRange},
		{trace(list{0}, list{api.MaxOutput + 1}), api.ErrRange},
		{trace(list{0}, list{0}), api.ErrNondet},
		{trace(list{1, 1}, list{1, 1}), api.ErrNondet},
		{trace(list{0, 1, 0}, list{1, 1, 1}), api.ErrNondet},
	} {
		if e := imported(t, o, []api.Trace{c.x}); e != c.want {
			t.Errorf("Import of %v returns %d", c.x, e)
		}
		others := []api.Trace{trace(list{0, 1, 1}, list{1, 2, 0}), trace(list{1, 1}, list{0, 0}), trace(list{1}, list{0}), trace(list{0, 0}, list{1, 1})}
		for i := range len(others) + 1 {
			l := slices.Insert(slices.Clone(others), i, c.x)
			if e := imported(t, o, l); e != c.want {
				t.Errorf("Import of %v returns %d", l, e)
			}
		}
	}
}

// P17.3: no traces, and only traces of the empty word.
func TestImportNothing(t *testing.T) {
	for _, o := range []api.Obs{obs(2), obs(1, trace(list{0}, list{5})), obs(2, trace(list{1}, list{0}), trace(list{0, 1}, list{1, 2}))} {
		for _, l := range [][]api.Trace{nil, {}, {{}}, make([]api.Trace, 5)} {
			if x, n, e := logs.Import(o, l); !observe.Same(x, o) || n != 0 || e != api.OK {
				t.Errorf("Import of %v returns %v, %d, %d", l, x, n, e)
			}
		}
	}
}

// P17.3: of several traces that cannot be added, the first one counts, and not what is wrong with later ones.
func TestImportOrder(t *testing.T) {
	wrong, other, outside := trace(list{0, 1}, list{1, 0}), trace(list{0, 1}, list{1, 2}), trace(list{2}, list{0})
	far := trace(list{0}, list{-1})
	for _, c := range []struct {
		l     []api.Trace
		index int
		want  api.Errno
	}{
		{[]api.Trace{wrong, other, outside, far}, 1, api.ErrNondet},
		{[]api.Trace{wrong, outside, other, far}, 1, api.ErrInvalid},
		{[]api.Trace{far, other, wrong, outside}, 0, api.ErrRange},
		{[]api.Trace{wrong, wrong, wrong, far, other}, 3, api.ErrRange},
		{[]api.Trace{{}, wrong, {}, wrong, {}, wrong, other}, 6, api.ErrNondet},
	} {
		if o, n, e := logs.Import(obs(2), c.l); !observe.Same(o, obs(2)) || n != c.index || e != c.want {
			t.Errorf("Import of %v returns %v, %d, %d", c.l, o, n, e)
		}
	}
}

// P17.3: random traces, of which some contradict each other or are not proper.
func TestImportRandom(t *testing.T) {
	count := map[api.Errno]int{}
	for state := range uint64(3000) {
		// Outputs that depend on the position and the input only do not contradict each other; some are changed.
		l := drawn(state, 2, 2, 1+int(state%40), 1+int(state%6))
		next := state
		for _, x := range l {
			for i, a := range x.In {
				var draw int
				draw, next, _ = random.Below(next, 300)
				x.Out[i] = i + a
				switch draw {
				case 0, 1, 2:
					x.Out[i]++
				case 3:
					x.Out[i] = -1
				case 4:
					x.In[i] = 2
				}
			}
		}
		start, _, _ := oneByOne(obs(2), l[:len(l)/4])
		count[imported(t, start, l[len(l)/4:])]++
	}
	for _, e := range []api.Errno{api.OK, api.ErrNondet, api.ErrRange, api.ErrInvalid} {
		if count[e] < 100 {
			t.Fatal("the lists have the errors", count)
		}
	}
}

// counted returns traces of the n words with a certain length that are first in shortlex order.
func counted(n, length int) []api.Trace {
	var l []api.Trace
	w, ok := make(list, length), true
	for ; len(l) < n && ok; w, ok = word.Next(w, 2) {
		l = append(l, trace(w, make(list, length)))
	}
	return l
}

// P17.3: the number of traces of observations.
func TestImportLimit(t *testing.T) {
	all := counted(api.MaxTraces+3, 14)
	full, n, e := logs.Import(obs(2), all[:api.MaxTraces])
	if len(full.Traces) != api.MaxTraces || observe.Valid(full) != api.OK || n != 0 || e != api.OK {
		t.Fatalf("%d traces are imported: %d, %d", len(full.Traces), n, e)
	}
	if o, n, e := logs.Import(obs(2), all); !observe.Same(o, obs(2)) || n != api.MaxTraces || e != api.ErrLimit {
		t.Errorf("Import of more traces returns %d traces, %d, %d", len(o.Traces), n, e)
	}
	// An error after the limit does not count, and one before it does.
	for i, want := range map[int]api.Errno{api.MaxTraces + 1: api.ErrLimit, api.MaxTraces: api.ErrInvalid, 7777: api.ErrInvalid} {
		l := slices.Insert(slices.Clone(all), i, trace(list{2}, list{0}))
		if _, n, e := logs.Import(obs(2), l); n != min(i, api.MaxTraces) || e != want {
			t.Errorf("Import of a trace that is not proper at %d returns %d, %d", i, n, e)
		}
	}
	// Traces that are contained or continue another one do not make full observations larger; a new one does.
	longer := trace(append(slices.Clone(all[5].In), 1), append(slices.Clone(all[5].Out), 3))
	l := []api.Trace{all[0], cut(all[1], 13), longer, {}, longer, all[5]}
	if o, n, e := logs.Import(full, l); len(o.Traces) != api.MaxTraces || observe.Known(o, longer.In) != 15 || n != 0 || e != api.OK {
		t.Errorf("Import to full observations returns %d traces, %d, %d", len(o.Traces), n, e)
	}
	if o, n, e := logs.Import(full, append(l, all[api.MaxTraces], trace(list{0}, list{1}))); !observe.Same(o, full) || n != len(l) || e != api.ErrLimit {
		t.Errorf("Import of another trace returns %d traces, %d, %d", len(o.Traces), n, e)
	}
}

// cut returns a prefix of a trace.
func cut(t api.Trace, n int) api.Trace {
	return trace(t.In[:n], t.Out[:n])
}

// R1: observations and traces that are not valid do not lead to a panic.
func TestImportInvalid(t *testing.T) {
	for _, inputs := range []int{math.MinInt, -1, 0, 2, 65, math.MaxInt} {
		for _, o := range []api.Obs{obs(inputs), obs(inputs, trace(list{1}, nil), trace(list{-7, 1}, list{1}), trace(nil, list{1})), obs(inputs, make([]api.Trace, api.MaxTraces+1)...)} {
			logs.Import(o, []api.Trace{trace(list{1}, list{2}), trace(list{-7}, list{0}), {}, trace(list{0, 0}, nil)})
			logs.Import(o, []api.Trace{{}, {}, {}})
			logs.Import(o, nil)
		}
	}
}

// R5: arguments do not change, and the result is new memory.
func TestImportMemory(t *testing.T) {
	sample := func() []api.Trace { return []api.Trace{trace(list{1}, list{0}), trace(list{0, 1}, list{1, 2})} }
	o, l := obs(2, append(sample(), api.Trace{})[:2]...), append(sample(), trace(list{0, 1, 0}, list{1, 2, 1}))
	x, _, e := logs.Import(o, l)
	if e != api.OK || len(x.Traces) != 2 {
		t.Fatal(x, e)
	}
	for i := range x.Traces {
		x.Traces[i].In[0], x.Traces[i].Out[0] = 8, 9
	}
	if !equal(o.Traces, sample()) || !equal(l[:2], sample()) || l[2].In[0] != 0 || l[2].Out[0] != 1 {
		t.Error("the arguments have become", o, l)
	}
	if spare := o.Traces[:3][2]; spare.In != nil || spare.Out != nil {
		t.Error("the capacity of an argument has become", spare)
	}
	logs.Import(o, append(l, trace(list{1}, list{1})))
	if !equal(o.Traces, sample()) || !equal(l[:2], sample()) {
		t.Error("an error has changed the arguments to", o, l)
	}
}
