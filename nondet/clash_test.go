package nondet_test

import (
	"math"
	"slices"
	"testing"

	"learner/api"
	"learner/nondet"
	"learner/observe"
	"learner/random"
	"learner/word"
)

// trace returns a trace.
func trace(in, out []int) api.Trace {
	return api.Trace{In: in, Out: out}
}

// found returns a clash.
func found(w []int, first, second int) api.Clash {
	return api.Clash{Word: w, First: first, Second: second}
}

// obs returns observations.
func obs(inputs int, traces ...api.Trace) api.Obs {
	return api.Obs{Inputs: inputs, Traces: traces}
}

// same reports whether two lists of clashes are equal.
func same(a, b []api.Clash) bool {
	return slices.EqualFunc(a, b, func(c, d api.Clash) bool {
		return slices.Equal(c.Word, d.Word) && c.First == d.First && c.Second == d.Second
	})
}

// clashAt returns the clash with a word, as it is defined: by the groups of traces that begin with it.
func clashAt(l []api.Trace, w []int) (api.Clash, bool) {
	var befores [][]int
	var lasts [][]int
	n := len(w)
	for _, t := range l {
		if min(len(t.In), len(t.Out)) < n || !slices.Equal(t.In[:n], w) {
			continue
		}
		i := slices.IndexFunc(befores, func(b []int) bool { return slices.Equal(b, t.Out[:n-1]) })
		if i < 0 {
			i = len(befores)
			befores, lasts = append(befores, t.Out[:n-1]), append(lasts, nil)
		}
		lasts[i] = append(lasts[i], t.Out[n-1])
	}
	best := -1
	for i := range lasts {
		slices.Sort(lasts[i])
		lasts[i] = slices.Compact(lasts[i])
		if len(lasts[i]) > 1 && (best < 0 || word.Lex(befores[i], befores[best]) < 0) {
			best = i
		}
	}
	if best < 0 {
		return api.Clash{}, false
	}
	return found(w, lasts[best][0], lasts[best][1]), true
}

// clashes returns all clashes, by trying all prefixes of input words.
func clashes(l []api.Trace) []api.Clash {
	var words [][]int
	for _, t := range l {
		for n := range t.In {
			words = append(words, t.In[:n+1])
		}
	}
	slices.SortFunc(words, word.Compare)
	var all []api.Clash
	for _, w := range slices.CompactFunc(words, slices.Equal) {
		if c, ok := clashAt(l, w); ok {
			all = append(all, c)
		}
	}
	return all
}

// noisy returns random traces whose outputs depend on the input and the position, but for some at random: at the position i about i + 1 of rate outputs, so that clashes have several lengths.
func noisy(state uint64, inputs, n, most, rate int) []api.Trace {
	var l []api.Trace
	for range n {
		var length int
		var in, out []int
		length, state, _ = random.Below(state, most+1)
		in, state, _ = random.Word(state, inputs, length)
		for i, a := range in {
			var draw int
			draw, state, _ = random.Below(state, rate)
			b := (a*i + i) % 3
			if draw <= i {
				b, state, _ = random.Below(state, 4)
			}
			out = append(out, b)
		}
		l = append(l, trace(in, out))
	}
	return l
}

// uneven returns traces with other lengths of the output words, and other numbers in both words.
func uneven(state uint64, n, most int) []api.Trace {
	l := noisy(state, 2, n, most, 20)
	for i := range l {
		var kind, cut int
		kind, state, _ = random.Below(state, 5)
		cut, state, _ = random.Below(state, len(l[i].In)+1)
		switch kind {
		case 0:
			l[i].Out = l[i].Out[:cut]
		case 1:
			l[i].In = l[i].In[:cut]
		case 2:
			l[i].Out = append(l[i].Out, 7, -1)
		case 3:
			for j := range l[i].In[:cut] {
				l[i].In[j] -= 1 << 40
			}
		}
	}
	return l
}

// P18.3: ordinary lists, and the cases of the definition.
func TestClashes(t *testing.T) {
	for i, c := range []struct {
		l    []api.Trace
		want []api.Clash
	}{
		{nil, nil},
		{[]api.Trace{{}, {}}, nil},
		{[]api.Trace{trace(list{0}, list{1}), trace(list{0}, list{1}), trace(list{0, 1}, list{1, 2})}, nil},
		{[]api.Trace{trace(list{0}, list{1}), trace(list{1}, list{2})}, nil},
		{[]api.Trace{trace(list{0}, list{2}), trace(list{0}, list{1})}, []api.Clash{found(list{0}, 1, 2)}},
		// Three outputs are one clash.
		{[]api.Trace{trace(list{0}, list{9}), trace(list{0}, list{5}), trace(list{0}, list{7}), trace(list{0}, list{5})}, []api.Clash{found(list{0}, 5, 7)}},
		// What follows different outputs does not clash.
		{[]api.Trace{trace(list{0, 1}, list{1, 3}), trace(list{0, 1}, list{2, 4})}, []api.Clash{found(list{0}, 1, 2)}},
		// What follows equal outputs does, behind another clash, too.
		{[]api.Trace{trace(list{0, 1}, list{2, 3}), trace(list{0, 1}, list{1, 0}), trace(list{0, 1}, list{2, 4})}, []api.Clash{found(list{0}, 1, 2), found(list{0, 1}, 3, 4)}},
		// The first group with different outputs counts, and not the one with the least outputs.
		{[]api.Trace{trace(list{0, 0}, list{0, 9}), trace(list{0, 0}, list{2, 1}), trace(list{0, 0}, list{1, 8}), trace(list{0, 0}, list{2, 3}), trace(list{0, 0}, list{1, 7})}, []api.Clash{found(list{0}, 0, 1), found(list{0, 0}, 7, 8)}},
		// Words are sorted by their lengths first.
		{[]api.Trace{trace(list{0, 0}, list{1, 1}), trace(list{0, 0}, list{1, 2}), trace(list{1}, list{3}), trace(list{1}, list{4})}, []api.Clash{found(list{1}, 3, 4), found(list{0, 0}, 1, 2)}},
		// Only the common steps of different traces count.
		{[]api.Trace{trace(list{0}, list{1, 5}), trace(list{0, 1}, list{1}), trace(list{0, 1}, list{1, 6})}, nil},
		{[]api.Trace{trace(list{0, 1}, list{1, 6}), trace(list{0, 1}, list{1}), trace(list{0, 1, 0}, list{1, 5})}, []api.Clash{found(list{0, 1}, 5, 6)}},
		{[]api.Trace{trace(list{0}, nil), trace(nil, list{3}), trace(list{0}, list{3}), trace(list{0}, nil)}, nil},
		{[]api.Trace{trace(list{-3, math.MaxInt}, list{0, math.MaxInt}), trace(list{-3, math.MaxInt}, list{0, math.MinInt})}, []api.Clash{found(list{-3, math.MaxInt}, math.MinInt, math.MaxInt)}},
		{[]api.Trace{trace(list{5000}, list{-1}), trace(list{5000}, list{-2})}, []api.Clash{found(list{5000}, -2, -1)}},
	} {
		if x := nondet.Clashes(c.l); !same(x, c.want) {
			t.Errorf("case %d: the clashes are %v", i, x)
		}
		slices.Reverse(c.l)
		if x := nondet.Clashes(c.l); !same(x, c.want) {
			t.Errorf("case %d: the clashes in the other order are %v", i, x)
		}
	}
}

// P18.3: many random lists. The order of the traces makes no difference.
func TestClashesRandom(t *testing.T) {
	many := 0
	for state := range uint64(4000) {
		l := noisy(state, 1+int(state%3), int(state%53), 1+int(state%6), 2+int(state%29))
		if state%4 == 0 {
			l = uneven(state, int(state%17), 5)
		}
		want := clashes(l)
		if len(want) > 3 {
			many++
		}
		if x := nondet.Clashes(l); !same(x, want) {
			t.Fatalf("the clashes of %v are %v, and not %v", l, x, want)
		}
		order, _, _ := random.Shuffle(state, len(l))
		var other []api.Trace
		for _, i := range order {
			other = append(other, l[i])
		}
		if x := nondet.Clashes(append(other, l...)); !same(x, want) {
			t.Fatalf("the clashes of %v in another order are %v", l, x)
		}
	}
	if many < 500 {
		t.Error("only", many, "lists have many clashes")
	}
}

// P18.3: long words.
func TestClashesLong(t *testing.T) {
	n := 20000
	in, out := make(list, n), make(list, n)
	other := slices.Clone(out)
	other[n-1], other[n/2] = 1, 1
	l := []api.Trace{trace(in, out), trace(in, other), trace(in[:n/2], out), trace(in[:n/2+1], other)}
	if x := nondet.Clashes(l); !same(x, []api.Clash{found(in[:n/2+1], 0, 1)}) {
		t.Errorf("there are %d clashes", len(x))
	}
}

// P18.6: there are clashes exactly if the traces cannot be added to observations.
func TestContradictions(t *testing.T) {
	count := map[bool]int{}
	for state := range uint64(2000) {
		l := noisy(state, 2, 1+int(state%13), 5, 40)
		o, ok := obs(2), true
		for _, x := range l {
			more, e := observe.Add(o, x)
			if e != api.OK && e != api.ErrNondet {
				t.Fatalf("Add of %v returns %d", x, e)
			}
			if o, ok = more, e == api.OK; !ok {
				break
			}
		}
		count[ok]++
		if x := nondet.Clashes(l); (len(x) == 0) != ok {
			t.Fatalf("the clashes of %v are %v", l, x)
		}
		if s, x, e := nondet.Settle(l, 2); ok && (!observe.Same(s, o) || len(x) != 0 || e != api.OK) {
			t.Fatalf("Settle of %v returns %v, %v, %d", l, s, x, e)
		}
	}
	if count[true] < 300 || count[false] < 300 {
		t.Error("lists without and with contradictions:", count)
	}
}

// R5: arguments do not change, and results are new memory.
func TestClashesMemory(t *testing.T) {
	sample := func() []api.Trace {
		return []api.Trace{trace(list{1, 0, 1}, list{0, 2, 0}), trace(list{1, 0}, list{0, 3}), trace(list{1, 0, 1}, list{0, 2, 1}), trace(list{0}, list{2})}
	}
	same := func(a, b []api.Trace) bool {
		return slices.EqualFunc(a, b, func(t, u api.Trace) bool { return slices.Equal(t.In, u.In) && slices.Equal(t.Out, u.Out) })
	}
	l := sample()
	x := nondet.Clashes(l)
	o, y, e := nondet.Settle(l, 2)
	if len(x) != 2 || len(y) != 2 || len(o.Traces) != 2 || e != api.OK {
		t.Fatal(x, o, y, e)
	}
	lists := []list{x[0].Word, x[1].Word, y[0].Word, y[1].Word}
	for _, z := range o.Traces {
		lists = append(lists, z.In, z.Out)
	}
	var want []list
	for i, w := range lists {
		for j := range w {
			w[j] = 10 + i
		}
		want = append(want, append(slices.Clone(w), 50+i))
		lists[i] = append(w, 50+i)
	}
	if !same(l, sample()) {
		t.Error("the traces have become", l)
	}
	if !slices.EqualFunc(lists, want, slices.Equal) {
		t.Error("lists of the results share memory:", lists)
	}
}
