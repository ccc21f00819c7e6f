package compose_test

import (
	"math"
	"slices"
	"testing"

	"learner/api"
	"learner/compose"
	"learner/equiv"
	"learner/mealy"
	"learner/minimize"
	"learner/random"
	"learner/word"
)

// gate returns the gate of the document: the inputs coin and push, and the outputs no, ok and turn.
func gate() api.Mealy {
	return api.Mealy{Inputs: 2, Next: [][]int{{1, 0}, {1, 0}}, Out: [][]int{{1, 0}, {1, 2}}}
}

// changed returns the gate after a change.
func changed(change func(m *api.Mealy)) api.Mealy {
	m := gate()
	change(&m)
	return m
}

// ring returns a machine whose only input leads through all states, with an output from each of them.
func ring(outputs ...int) api.Mealy {
	m := api.Mealy{Inputs: 1}
	for s, output := range outputs {
		m.Next = append(m.Next, []int{(s + 1) % len(outputs)})
		m.Out = append(m.Out, []int{output})
	}
	return m
}

// silent returns a ring of n states with the output 0.
func silent(n int) api.Mealy {
	return ring(make([]int, n)...)
}

// wide returns a machine with one state and n inputs, all with the output x.
func wide(n, x int) api.Mealy {
	return api.Mealy{Inputs: n, Next: rows(1, n, 0), Out: rows(1, n, x)}
}

// rows returns n lists of equal numbers.
func rows(n, inputs, x int) [][]int {
	var l [][]int
	for range n {
		l = append(l, slices.Repeat([]int{x}, inputs))
	}
	return l
}

// spare returns m with one more state, to which no transition leads. Its transitions lead to Start with the output x.
func spare(m api.Mealy, x int) api.Mealy {
	m.Next = append(slices.Clone(m.Next), slices.Repeat([]int{m.Start}, m.Inputs))
	m.Out = append(slices.Clone(m.Out), slices.Repeat([]int{x}, m.Inputs))
	return m
}

// drawn returns a random machine, some of whose states may be unreachable or equivalent.
func drawn(state uint64, inputs, states, outputs int) api.Mealy {
	m := api.Mealy{Inputs: inputs}
	m.Start, state, _ = random.Below(state, states)
	for range states {
		var next, out []int
		next, state, _ = random.Word(state, states, inputs)
		out, state, _ = random.Word(state, outputs, inputs)
		m.Next = append(m.Next, next)
		m.Out = append(m.Out, out)
	}
	return m
}

// samples returns small machines with one to three inputs.
func samples() []api.Mealy {
	all := []api.Mealy{gate(), ring(0, 1), ring(2), silent(3), spare(gate(), 9), spare(ring(1, 0), 0)}
	for state := range uint64(24) {
		all = append(all, drawn(state, 1+int(state%3), 1+int(state%4), 1+int(state%3)))
	}
	return all
}

// pairs uses all pairs of samples.
func pairs(use func(a, b api.Mealy)) {
	machines := samples()
	for _, a := range machines {
		for _, b := range machines {
			use(a, b)
		}
	}
}

// top returns the greatest output of all transitions.
func top(m api.Mealy) int {
	return slices.Max(slices.Concat(m.Out...))
}

// run returns the output word of a word from Start, and the state after it.
func run(m api.Mealy, w []int) ([]int, int) {
	outs, end, _ := mealy.From(m, m.Start, w)
	return outs, end
}

// words uses all words of at most n symbols.
func words(inputs, n int, use func(w []int)) {
	for w, ok := []int(nil), true; ok && len(w) <= n; w, ok = word.Next(w, inputs) {
		use(w)
	}
}

// parts returns the inputs of a and those of b in a word of the machine that interleaves both.
func parts(a api.Mealy, w []int) ([]int, []int) {
	var ofA, ofB []int
	for _, input := range w {
		if input < a.Inputs {
			ofA = append(ofA, input)
		} else {
			ofB = append(ofB, input-a.Inputs)
		}
	}
	return ofA, ofB
}

// checkStates checks that the states of a result are those that words reach, in the order of their access words: end returns what is different in different states after a word.
func checkStates(t *testing.T, m api.Mealy, end func(w []int) [2]int) {
	t.Helper()
	access := [][]int{nil}
	number := map[[2]int]int{end(nil): 0}
	for i := 0; i < len(access); i++ {
		for input := range m.Inputs {
			w := append(slices.Clone(access[i]), input)
			x := end(w)
			if _, known := number[x]; !known {
				number[x] = len(access)
				access = append(access, w)
			}
			if _, s := run(m, w); s != number[x] {
				t.Fatalf("%v leads to %d, and not to %d, in %v", w, s, number[x], m)
			}
		}
	}
	if m.Start != 0 || len(m.Next) != len(access) || len(m.Out) != len(access) {
		t.Errorf("there are %d states in %v", len(access), m)
	}
}

// failed checks that a result is an error, and nothing else.
func failed(t *testing.T, m api.Mealy, e, want api.Errno) {
	t.Helper()
	if !mealy.Same(m, api.Mealy{}) || e != want {
		t.Errorf("the result is %v, %d, and not the error %d", m, e, want)
	}
}

// P14.1: examples.
func TestProduct(t *testing.T) {
	two := [][]int{{1}, {0}}
	for i, c := range []struct {
		a, b api.Mealy
		next [][]int
		out  [][]int
	}{
		{ring(0, 1), ring(2), two, [][]int{{2}, {5}}},
		{ring(2), ring(0, 1), two, [][]int{{4}, {5}}},
		{gate(), gate(), gate().Next, [][]int{{4, 0}, {4, 8}}},
		// Pairs that are equivalent are different states.
		{silent(2), silent(2), two, [][]int{{0}, {0}}},
		{silent(2), silent(3), [][]int{{1}, {2}, {3}, {4}, {5}, {0}}, rows(6, 1, 0)},
		// The greatest output of b counts also if its state is not reachable; that of a does not matter.
		{ring(1, 0), spare(ring(2), 9), two, [][]int{{12}, {2}}},
		{spare(ring(1, 0), 9), ring(2), two, [][]int{{5}, {2}}},
		{changed(func(m *api.Mealy) { m.Start = 1 }), gate(), [][]int{{1, 2}, {1, 2}, {1, 2}}, [][]int{{4, 6}, {4, 8}, {4, 0}}},
	} {
		m, e := compose.Product(c.a, c.b)
		if want := (api.Mealy{Inputs: c.a.Inputs, Next: c.next, Out: c.out}); !mealy.Same(m, want) || e != api.OK {
			t.Errorf("case %d: Product returns %v, %d", i, m, e)
		}
	}
}

// P14.1, P14.6: the outputs of words in products, and their states.
func TestProductOfWords(t *testing.T) {
	pairs(func(a, b api.Mealy) {
		m, e := compose.Product(a, b)
		if a.Inputs != b.Inputs {
			failed(t, m, e, api.ErrConflict)
			return
		}
		if m.Inputs != a.Inputs || e != api.OK {
			t.Fatalf("Product of %v and %v returns %v, %d", a, b, m, e)
		}
		words(a.Inputs, 4, func(w []int) {
			got, _ := run(m, w)
			o, _ := run(a, w)
			p, _ := run(b, w)
			for i := range w {
				if got[i] != o[i]*(1+top(b))+p[i] {
					t.Fatalf("Product of %v and %v has the outputs %v for %v", a, b, got, w)
				}
			}
		})
		checkStates(t, m, func(w []int) [2]int {
			_, s := run(a, w)
			_, r := run(b, w)
			return [2]int{s, r}
		})
	})
}

// P14.2: examples.
func TestParallel(t *testing.T) {
	for i, c := range []struct {
		a, b api.Mealy
		next [][]int
		out  [][]int
	}{
		{ring(0, 1), ring(2), [][]int{{1, 0}, {0, 1}}, [][]int{{0, 4}, {1, 4}}},
		{ring(2), ring(0, 1), [][]int{{0, 1}, {1, 0}}, [][]int{{2, 3}, {2, 4}}},
		{gate(), ring(0), [][]int{{1, 0, 0}, {1, 0, 1}}, [][]int{{1, 0, 3}, {1, 2, 3}}},
		{silent(2), silent(2), [][]int{{1, 2}, {0, 3}, {3, 0}, {2, 1}}, [][]int{{0, 1}, {0, 1}, {0, 1}, {0, 1}}},
		// The greatest output of a counts also if its state is not reachable; that of b does not matter.
		{spare(ring(0), 6), ring(1), [][]int{{0, 0}}, [][]int{{0, 8}}},
		{ring(0), spare(ring(1), 6), [][]int{{0, 0}}, [][]int{{0, 2}}},
	} {
		m, e := compose.Parallel(c.a, c.b)
		if want := (api.Mealy{Inputs: c.a.Inputs + c.b.Inputs, Next: c.next, Out: c.out}); !mealy.Same(m, want) || e != api.OK {
			t.Errorf("case %d: Parallel returns %v, %d", i, m, e)
		}
	}
}

// P14.2, P14.6: the outputs for the inputs of each machine are those of this machine alone.
func TestParallelOfWords(t *testing.T) {
	pairs(func(a, b api.Mealy) {
		m, e := compose.Parallel(a, b)
		if m.Inputs != a.Inputs+b.Inputs || e != api.OK {
			t.Fatalf("Parallel of %v and %v returns %v, %d", a, b, m, e)
		}
		words(m.Inputs, 3, func(w []int) {
			ofA, ofB := parts(a, w)
			o, _ := run(a, ofA)
			p, _ := run(b, ofB)
			got, _ := run(m, w)
			for i, input := range w {
				var want int
				if input < a.Inputs {
					want, o = o[0], o[1:]
				} else {
					want, p = p[0]+1+top(a), p[1:]
				}
				if got[i] != want {
					t.Fatalf("Parallel of %v and %v has the outputs %v for %v", a, b, got, w)
				}
			}
		})
		checkStates(t, m, func(w []int) [2]int {
			ofA, ofB := parts(a, w)
			_, s := run(a, ofA)
			_, r := run(b, ofB)
			return [2]int{s, r}
		})
	})
}

// P14.3: examples.
func TestCascade(t *testing.T) {
	two := [][]int{{1}, {0}}
	for i, c := range []struct {
		a, b api.Mealy
		next [][]int
		out  [][]int
	}{
		{silent(2), ring(0, 1), two, [][]int{{0}, {1}}},
		{silent(2), silent(2), two, [][]int{{0}, {0}}},
		{ring(0, 1), gate(), [][]int{{1}, {0}}, [][]int{{1}, {2}}},
		{ring(1, 0), gate(), [][]int{{1}, {2}, {1}}, [][]int{{0}, {1}, {2}}},
		{spare(ring(1), 0), gate(), [][]int{{0}}, [][]int{{0}}},
		{changed(func(m *api.Mealy) { m.Out[1][1] = 0 }), spare(gate(), 9), [][]int{{1, 2}, {1, 2}, {1, 2}}, [][]int{{0, 1}, {0, 1}, {2, 1}}},
		{ring(0), wide(1, api.MaxOutput), [][]int{{0}}, [][]int{{api.MaxOutput}}},
		{ring(api.MaxInputs - 1), wide(api.MaxInputs, 4), [][]int{{0}}, [][]int{{4}}},
	} {
		m, e := compose.Cascade(c.a, c.b)
		if want := (api.Mealy{Inputs: c.a.Inputs, Next: c.next, Out: c.out}); !mealy.Same(m, want) || e != api.OK {
			t.Errorf("case %d: Cascade returns %v, %d", i, m, e)
		}
	}
}

// P14.3, P14.6: the output word is that of the second machine for the output word of the first one.
func TestCascadeOfWords(t *testing.T) {
	results := 0
	pairs(func(a, b api.Mealy) {
		m, e := compose.Cascade(a, b)
		if top(a) >= b.Inputs {
			failed(t, m, e, api.ErrRange)
			return
		}
		results++
		if m.Inputs != a.Inputs || e != api.OK {
			t.Fatalf("Cascade of %v and %v returns %v, %d", a, b, m, e)
		}
		words(a.Inputs, 4, func(w []int) {
			got, _ := run(m, w)
			between, _ := run(a, w)
			want, _ := run(b, between)
			if !slices.Equal(got, want) {
				t.Fatalf("Cascade of %v and %v has the outputs %v for %v", a, b, got, w)
			}
		})
		checkStates(t, m, func(w []int) [2]int {
			between, s := run(a, w)
			_, r := run(b, between)
			return [2]int{s, r}
		})
	})
	if results < 100 {
		t.Errorf("there are only %d results", results)
	}
}

// numbered returns n numbers from 0 on.
func numbered(n int) []int {
	var l []int
	for i := range n {
		l = append(l, i)
	}
	return l
}

// P14.1 to P14.3: the limit of pairs counts those that are reachable.
func TestPairLimit(t *testing.T) {
	for i, c := range []struct {
		f    func(a, b api.Mealy) (api.Mealy, api.Errno)
		a, b api.Mealy
		n    int
	}{
		{compose.Product, silent(128), silent(64), 128},
		{compose.Product, silent(42), silent(3), 42},
		{compose.Product, silent(43), silent(3), 0},
		{compose.Product, silent(12), silent(11), 0},
		{compose.Product, silent(127), silent(128), 0},
		{compose.Parallel, silent(16), silent(8), 128},
		{compose.Parallel, spare(silent(16), 0), spare(silent(8), 0), 128},
		{compose.Parallel, silent(43), silent(3), 0},
		{compose.Parallel, silent(128), silent(1), 128},
		{compose.Parallel, silent(1), silent(128), 128},
		{compose.Parallel, silent(65), silent(2), 0},
		{compose.Cascade, silent(128), silent(64), 128},
		{compose.Cascade, silent(43), silent(3), 0},
		{compose.Cascade, silent(127), silent(128), 0},
		{compose.Cascade, ring(numbered(64)...), wide(64, 1), 64},
	} {
		m, e := c.f(c.a, c.b)
		if c.n == 0 {
			failed(t, m, e, api.ErrLimit)
		} else if len(m.Next) != c.n || len(m.Out) != c.n || e != api.OK {
			t.Errorf("case %d: the result has %d states, %d", i, len(m.Next), e)
		}
	}
}

// P14.1, P14.2: the limit of outputs counts those of reachable pairs.
func TestOutputLimit(t *testing.T) {
	for i, c := range []struct {
		f    func(a, b api.Mealy) (api.Mealy, api.Errno)
		a, b api.Mealy
		want [][]int
	}{
		{compose.Product, ring(api.MaxOutput), ring(0), [][]int{{api.MaxOutput}}},
		{compose.Product, ring(0), ring(api.MaxOutput), [][]int{{api.MaxOutput}}},
		{compose.Product, ring(1024), ring(1023), nil},
		{compose.Product, ring(1023, 1), ring(1023, 0), [][]int{{1024*1024 - 1}, {1024}}},
		{compose.Product, ring(1024, 1), ring(0, 1023), [][]int{{api.MaxOutput}, {1024 + 1023}}},
		{compose.Product, ring(1024, 1), ring(1, 1023), nil},
		{compose.Product, ring(1), ring(api.MaxOutput), nil},
		{compose.Product, ring(api.MaxOutput), ring(api.MaxOutput), nil},
		{compose.Product, spare(ring(0), api.MaxOutput), ring(5), [][]int{{5}}},
		{compose.Product, ring(0), spare(ring(5), api.MaxOutput), [][]int{{5}}},
		{compose.Product, ring(1), spare(ring(0), api.MaxOutput), nil},
		{compose.Product, ring(0, 1), ring(1<<19, 0), [][]int{{1 << 19}, {1<<19 + 1}}},
		{compose.Product, ring(0, 2), ring(1<<19, 0), nil},
		{compose.Product, ring(1, 0), ring(0, 1<<19), [][]int{{1<<19 + 1}, {1 << 19}}},
		{compose.Parallel, ring(0), ring(api.MaxOutput - 1), [][]int{{0, api.MaxOutput}}},
		{compose.Parallel, ring(0), ring(api.MaxOutput), nil},
		{compose.Parallel, ring(api.MaxOutput), ring(0), nil},
		{compose.Parallel, ring(api.MaxOutput - 1), ring(0), [][]int{{api.MaxOutput - 1, api.MaxOutput}}},
		{compose.Parallel, spare(ring(0), api.MaxOutput), ring(0), nil},
		{compose.Parallel, ring(0), spare(ring(0), api.MaxOutput), [][]int{{0, 1}}},
	} {
		m, e := c.f(c.a, c.b)
		if c.want == nil {
			failed(t, m, e, api.ErrLimit)
		} else if !slices.EqualFunc(m.Out, c.want, slices.Equal[[]int]) || e != api.OK {
			t.Errorf("case %d: the result is %v, %d", i, m, e)
		}
	}
}

// invalid returns machines that are not valid.
func invalid() []api.Mealy {
	return []api.Mealy{
		{},
		{Inputs: 1},
		wide(api.MaxInputs+1, 0),
		silent(api.MaxStates + 1),
		changed(func(m *api.Mealy) { m.Start = 2 }),
		{Inputs: 2, Next: [][]int{{0, 0}}},
		changed(func(m *api.Mealy) { m.Out[1] = m.Out[1][:1] }),
		changed(func(m *api.Mealy) { m.Next[1][1] = 2 }),
		changed(func(m *api.Mealy) { m.Out[0][1] = api.MaxOutput + 1 }),
	}
}

// P14.1 to P14.5: the errors of machines come first, in the order of the machines.
func TestInvalid(t *testing.T) {
	for i, m := range invalid() {
		want := mealy.Valid(m)
		if want == api.OK {
			t.Fatalf("case %d is valid", i)
		}
		for _, f := range []func(a, b api.Mealy) (api.Mealy, api.Errno){compose.Product, compose.Parallel, compose.Cascade} {
			for _, other := range append(invalid(), gate(), silent(5), wide(api.MaxInputs, 99)) {
				x, e := f(m, other)
				failed(t, x, e, want)
				if mealy.Valid(other) == api.OK {
					x, e = f(other, m)
					failed(t, x, e, want)
				}
			}
		}
		for _, l := range [][]int{nil, {-1}, {0, 0}} {
			x, e := compose.Restrict(m, l)
			failed(t, x, e, want)
			x, e = compose.Map(m, l)
			failed(t, x, e, want)
		}
	}
}

// P14.1 to P14.3: the errors of pairs of machines, and their order.
func TestPairErrors(t *testing.T) {
	// Two such machines have too many pairs, inputs and outputs.
	many := api.Mealy{Inputs: 40, Next: rows(16, 40, 0), Out: rows(16, 40, api.MaxOutput)}
	for s := range 16 {
		many.Next[s][0] = (s + 1) % 16
	}
	for _, c := range []struct {
		f    func(a, b api.Mealy) (api.Mealy, api.Errno)
		a, b api.Mealy
		want api.Errno
	}{
		{compose.Product, gate(), ring(0), api.ErrConflict},
		{compose.Product, ring(0), gate(), api.ErrConflict},
		// The conflict comes before the limit.
		{compose.Product, ring(api.MaxOutput), wide(2, api.MaxOutput), api.ErrConflict},
		{compose.Product, many, many, api.ErrLimit},
		{compose.Parallel, wide(64, 0), ring(0), api.ErrRange},
		{compose.Parallel, wide(33, 0), wide(32, 0), api.ErrRange},
		{compose.Parallel, wide(64, 0), wide(64, 0), api.ErrRange},
		// The inputs come before the limit.
		{compose.Parallel, many, many, api.ErrRange},
		{compose.Cascade, ring(1), ring(0), api.ErrRange},
		{compose.Cascade, ring(0, 2), gate(), api.ErrRange},
		{compose.Cascade, spare(ring(0), 2), gate(), api.ErrRange},
		{compose.Cascade, ring(api.MaxOutput), wide(64, 0), api.ErrRange},
		{compose.Cascade, ring(64), wide(64, 0), api.ErrRange},
		// The outputs come before the limit.
		{compose.Cascade, spare(silent(127), 1), silent(128), api.ErrRange},
	} {
		m, e := c.f(c.a, c.b)
		failed(t, m, e, c.want)
	}
	for n := 1; n < 64; n += 9 {
		m, e := compose.Parallel(wide(n, 2), wide(64-n, 3))
		want := slices.Concat(slices.Repeat([]int{2}, n), slices.Repeat([]int{6}, 64-n))
		if m.Inputs != 64 || len(m.Out) != 1 || !slices.Equal(m.Out[0], want) || e != api.OK {
			t.Errorf("Parallel with %d inputs returns %v, %d", n, m, e)
		}
	}
}

// triangle returns a machine with three inputs, the states 0 to 2 and the start 1. The state 2 is not left.
func triangle() api.Mealy {
	return api.Mealy{Inputs: 3, Start: 1, Next: [][]int{{0, 1, 2}, {1, 0, 2}, {2, 2, 2}}, Out: [][]int{{0, 1, 2}, {3, 4, 0}, {0, 0, 0}}}
}

// P14.4: examples.
func TestRestrict(t *testing.T) {
	for i, c := range []struct {
		m      api.Mealy
		inputs []int
		next   [][]int
		out    [][]int
	}{
		{triangle(), []int{1, 0}, [][]int{{1, 0}, {0, 1}}, [][]int{{4, 3}, {1, 0}}},
		{triangle(), []int{2}, [][]int{{1}, {1}}, [][]int{{0}, {0}}},
		{triangle(), []int{0}, [][]int{{0}}, [][]int{{3}}},
		{triangle(), []int{0, 1, 2}, [][]int{{0, 1, 2}, {1, 0, 2}, {2, 2, 2}}, [][]int{{3, 4, 0}, {0, 1, 2}, {0, 0, 0}}},
		// The order of the inputs is that of the access words.
		{triangle(), []int{2, 1, 0}, [][]int{{1, 2, 0}, {1, 1, 1}, {1, 0, 2}}, [][]int{{0, 4, 3}, {0, 0, 0}, {2, 1, 0}}},
		{gate(), []int{1}, [][]int{{0}}, [][]int{{0}}},
		{gate(), []int{1, 0}, [][]int{{0, 1}, {0, 1}}, [][]int{{0, 1}, {2, 1}}},
		{ring(4, 4), []int{0}, [][]int{{1}, {0}}, [][]int{{4}, {4}}},
		{wide(64, 3), []int{63}, [][]int{{0}}, [][]int{{3}}},
		{spare(gate(), 9), []int{0}, [][]int{{1}, {1}}, [][]int{{1}, {1}}},
	} {
		m, e := compose.Restrict(c.m, c.inputs)
		if want := (api.Mealy{Inputs: len(c.inputs), Next: c.next, Out: c.out}); !mealy.Same(m, want) || e != api.OK {
			t.Errorf("case %d: Restrict returns %v, %d", i, m, e)
		}
	}
}

// P14.4, P14.6: the output word is that of the machine for the replaced word.
func TestRestrictOfWords(t *testing.T) {
	for i, m := range samples() {
		order, state, _ := random.Shuffle(uint64(i), m.Inputs)
		n, _, _ := random.Below(state, m.Inputs)
		inputs := order[:n+1]
		replaced := func(w []int) []int {
			var l []int
			for _, input := range w {
				l = append(l, inputs[input])
			}
			return l
		}
		x, e := compose.Restrict(m, inputs)
		if x.Inputs != len(inputs) || e != api.OK {
			t.Fatalf("Restrict of %v with %v returns %v, %d", m, inputs, x, e)
		}
		words(len(inputs), 5, func(w []int) {
			got, _ := run(x, w)
			if want, _ := run(m, replaced(w)); !slices.Equal(got, want) {
				t.Fatalf("Restrict of %v with %v has the outputs %v for %v", m, inputs, got, w)
			}
		})
		checkStates(t, x, func(w []int) [2]int {
			_, s := run(m, replaced(w))
			return [2]int{s}
		})
	}
}

// P14.4: the errors of the inputs in their order.
func TestRestrictErrors(t *testing.T) {
	for _, c := range []struct {
		inputs []int
		want   api.Errno
	}{
		{nil, api.ErrEmpty},
		{[]int{}, api.ErrEmpty},
		{[]int{3}, api.ErrRange},
		{[]int{-1}, api.ErrRange},
		{[]int{0, math.MaxInt}, api.ErrRange},
		{[]int{0, 1, math.MinInt}, api.ErrRange},
		{[]int{1, 1}, api.ErrExists},
		{[]int{2, 0, 2}, api.ErrExists},
		{[]int{0, 1, 2, 0}, api.ErrExists},
		{[]int{0, 3, 0}, api.ErrRange},
		{[]int{0, 0, 3}, api.ErrExists},
		{[]int{3, 3}, api.ErrRange},
		{[]int{-1, -1}, api.ErrRange},
	} {
		m, e := compose.Restrict(triangle(), c.inputs)
		failed(t, m, e, c.want)
	}
}

// P14.5: examples.
func TestMap(t *testing.T) {
	for i, c := range []struct {
		m    api.Mealy
		outs []int
		next [][]int
		out  [][]int
	}{
		{ring(0, 1), []int{7, 5}, [][]int{{1}, {0}}, [][]int{{7}, {5}}},
		{ring(0, 1), []int{7, 7}, [][]int{{1}, {0}}, [][]int{{7}, {7}}},
		{gate(), []int{0, 0, api.MaxOutput}, gate().Next, [][]int{{0, 0}, {0, api.MaxOutput}}},
		{triangle(), []int{5, 5, 5, 0, api.MaxOutput}, [][]int{{0, 1, 2}, {1, 0, 2}, {2, 2, 2}}, [][]int{{0, api.MaxOutput, 5}, {5, 5, 5}, {5, 5, 5}}},
		// Elements that no output has may have any value.
		{ring(3, 1), []int{-1, 2, math.MaxInt, 4, math.MinInt}, [][]int{{1}, {0}}, [][]int{{4}, {2}}},
		{spare(ring(1), 0), []int{8, 9}, [][]int{{0}}, [][]int{{9}}},
		{ring(api.MaxOutput), append(make([]int, api.MaxOutput), 6), [][]int{{0}}, [][]int{{6}}},
	} {
		m, e := compose.Map(c.m, c.outs)
		if want := (api.Mealy{Inputs: c.m.Inputs, Next: c.next, Out: c.out}); !mealy.Same(m, want) || e != api.OK {
			t.Errorf("case %d: Map returns %v, %d", i, m, e)
		}
	}
}

// P14.5, P14.6: the output word is that of the machine with replaced outputs.
func TestMapOfWords(t *testing.T) {
	for i, m := range samples() {
		outs, _, _ := random.Word(uint64(i), 4, 10)
		x, e := compose.Map(m, outs)
		if x.Inputs != m.Inputs || e != api.OK {
			t.Fatalf("Map of %v with %v returns %v, %d", m, outs, x, e)
		}
		words(m.Inputs, 5, func(w []int) {
			got, _ := run(x, w)
			want, _ := run(m, w)
			for k, output := range want {
				want[k] = outs[output]
			}
			if !slices.Equal(got, want) {
				t.Fatalf("Map of %v with %v has the outputs %v for %v", m, outs, got, w)
			}
		})
		checkStates(t, x, func(w []int) [2]int {
			_, s := run(m, w)
			return [2]int{s}
		})
	}
}

// P14.5: outputs without an element, or with one that is no output, also of states that are not reachable.
func TestMapErrors(t *testing.T) {
	for _, c := range []struct {
		m    api.Mealy
		outs []int
	}{
		{ring(0), nil},
		{ring(0, 1), []int{7}},
		{gate(), []int{0, 1}},
		{gate(), []int{0, 1, -1}},
		{gate(), []int{0, 1, api.MaxOutput + 1}},
		{gate(), []int{-1, 1, 2}},
		{gate(), []int{0, math.MaxInt, 2}},
		{gate(), []int{0, math.MinInt, 2}},
		{spare(ring(0), 1), []int{0}},
		{spare(ring(0), 1), []int{0, -1}},
		{ring(api.MaxOutput), make([]int, api.MaxOutput)},
	} {
		m, e := compose.Map(c.m, c.outs)
		failed(t, m, e, api.ErrRange)
	}
}

// P14.7: results of equivalent machines are equivalent. The minimal machine of a trimmed one has the same outputs.
func TestEquivalent(t *testing.T) {
	equal := func(x, y api.Mealy, e, e2 api.Errno) {
		t.Helper()
		if same, e3 := equiv.Equal(x, y); e != e2 || e == api.OK && (!same || e3 != api.OK) {
			t.Errorf("the results are %v, %d and %v, %d", x, e, y, e2)
		}
	}
	smaller := 0
	pairs(func(a, b api.Mealy) {
		a, _ = mealy.Trim(a)
		b, _ = mealy.Trim(b)
		leastA, _ := minimize.Min(a)
		leastB, _ := minimize.Min(b)
		if len(leastA.Next) < len(a.Next) {
			smaller++
		}
		for _, f := range []func(a, b api.Mealy) (api.Mealy, api.Errno){compose.Product, compose.Parallel, compose.Cascade} {
			x, e := f(a, b)
			y, e2 := f(leastA, leastB)
			equal(x, y, e, e2)
		}
		x, e := compose.Restrict(a, []int{a.Inputs - 1})
		y, e2 := compose.Restrict(leastA, []int{a.Inputs - 1})
		equal(x, y, e, e2)
		x, e = compose.Map(a, []int{2, 2, 1, 0})
		y, e2 = compose.Map(leastA, []int{2, 2, 1, 0})
		equal(x, y, e, e2)
	})
	if smaller < 50 {
		t.Errorf("only %d machines are not minimal", smaller)
	}
}

// overwrite changes all numbers of a machine.
func overwrite(m api.Mealy) {
	for s := range m.Next {
		for a := range m.Next[s] {
			m.Next[s][a], m.Out[s][a] = 99, 99
		}
		m.Next[s], m.Out[s] = append(m.Next[s], 99), append(m.Out[s], 99)
	}
}

// R5: arguments do not change, and results are new memory.
func TestMemory(t *testing.T) {
	a, b := gate(), changed(func(m *api.Mealy) { m.Out[1][1] = 1 })
	inputs, outs := []int{0, 1, 9}, []int{3, 4, 5, 9}
	results := func() []api.Mealy {
		product, _ := compose.Product(a, b)
		parallel, _ := compose.Parallel(a, b)
		cascade, _ := compose.Cascade(b, a)
		restricted, _ := compose.Restrict(a, inputs[:2])
		mapped, _ := compose.Map(a, outs[:3])
		return []api.Mealy{product, parallel, cascade, restricted, mapped}
	}
	before := results()
	for _, m := range results() {
		overwrite(m)
	}
	if !slices.EqualFunc(before, results(), mealy.Same) {
		t.Error("the results have changed")
	}
	if !mealy.Same(a, gate()) || b.Out[1][1] != 1 || !slices.Equal(inputs, []int{0, 1, 9}) || !slices.Equal(outs, []int{3, 4, 5, 9}) {
		t.Error("the arguments have become", a, b, inputs, outs)
	}
}
