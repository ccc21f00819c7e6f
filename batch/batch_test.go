package batch_test

import (
	"math"
	"slices"
	"testing"

	"learner/api"
	"learner/batch"
	"learner/device"
	"learner/mealy"
	"learner/observe"
	"learner/random"
	"learner/word"
	"learner/wordset"
)

// list is a list of numbers, often a word.
type list = []int

// gate returns the gate of the document.
func gate() api.Mealy {
	return api.Mealy{Inputs: 2, Next: [][]int{{1, 0}, {1, 0}}, Out: [][]int{{1, 0}, {1, 2}}}
}

// costs returns the costs of the examples.
func costs() api.Latency {
	return api.Latency{Step: []int{5, 3}, Reset: 100}
}

// same reports whether two lists of words are equal.
func same(a, b [][]int) bool {
	return slices.EqualFunc(a, b, slices.Equal[[]int])
}

// drawn returns a random machine, and the state of the random numbers after it.
func drawn(state uint64, inputs, states int) (api.Mealy, uint64) {
	m := api.Mealy{Inputs: inputs}
	m.Start, state, _ = random.Below(state, states)
	for range states {
		var next, out []int
		next, state, _ = random.Word(state, states, inputs)
		out, state, _ = random.Word(state, 3, inputs)
		m.Next, m.Out = append(m.Next, next), append(m.Out, out)
	}
	return m, state
}

// drawnWords returns n random words of at most most symbols.
func drawnWords(state uint64, inputs, n, most int) [][]int {
	var l [][]int
	for range n {
		var length int
		var w []int
		length, state, _ = random.Below(state, most+1)
		w, state, _ = random.Word(state, inputs, length)
		l = append(l, w)
	}
	return l
}

// wrongWords are lists of words over two symbols with the error of the first word that has one.
func wrongWords() map[string]struct {
	words [][]int
	want  api.Errno
} {
	long := make([]int, api.MaxWord+1)
	return map[string]struct {
		words [][]int
		want  api.Errno
	}{
		"great symbol":     {[][]int{{2}}, api.ErrInvalid},
		"negative symbol":  {[][]int{{0}, {1, -1}}, api.ErrInvalid},
		"far symbol":       {[][]int{{0}, nil, {math.MaxInt}}, api.ErrInvalid},
		"long":             {[][]int{{0}, long}, api.ErrTooLong},
		"long with symbol": {[][]int{slices.Repeat([]int{2}, api.MaxWord+1)}, api.ErrTooLong},
		"first long":       {[][]int{{1}, long, {2}}, api.ErrTooLong},
		"first symbol":     {[][]int{{1}, {0, 2}, long}, api.ErrInvalid},
		"not in order":     {[][]int{long, {2}}, api.ErrTooLong},
		"answered before":  {[][]int{{1}, {1, 0}, {0, 0, 5}}, api.ErrInvalid},
	}
}

// P20.1: queries that are answered, and prefixes of others, are left out.
func TestPlan(t *testing.T) {
	some, _ := observe.Of(gate(), [][]int{{1, 0}, {0, 0}})
	none := api.Obs{Inputs: 2}
	for i, c := range []struct {
		o       api.Obs
		l, want [][]int
	}{
		{none, nil, nil},
		{none, [][]int{nil}, nil},
		{none, [][]int{{}, {}, {0}}, [][]int{{0}}},
		{none, [][]int{{1}, {0, 1}, {0}}, [][]int{{1}, {0, 1}}},
		{none, [][]int{{0, 1, 0}, {0, 1}, {1}, {0, 1, 0}, {0, 0}, {1, 1}}, [][]int{{0, 0}, {1, 1}, {0, 1, 0}}},
		{some, [][]int{{1, 0}, {1}, {}, {0}, {0, 0}}, nil},
		{some, [][]int{{0}, {1, 0, 1}, {0, 1}, {1}, {1, 0, 1}, {0}}, [][]int{{0, 1}, {1, 0, 1}}},
		{some, [][]int{{0, 0, 0}, {1, 1}, {0, 0}}, [][]int{{1, 1}, {0, 0, 0}}},
		{some, [][]int{make([]int, api.MaxWord), {1, 1}}, [][]int{{1, 1}, make([]int, api.MaxWord)}},
		{api.Obs{Inputs: api.MaxInputs}, [][]int{{api.MaxInputs - 1}}, [][]int{{api.MaxInputs - 1}}},
	} {
		if l, e := batch.Plan(c.o, c.l); !same(l, c.want) || e != api.OK {
			t.Errorf("case %d: Plan returns %v, %d", i, l, e)
		}
	}
}

// P20.1: the error of the first query that has one, also among queries that are answered.
func TestPlanErrors(t *testing.T) {
	o, _ := observe.Of(gate(), [][]int{{1, 0}})
	for name, c := range wrongWords() {
		if l, e := batch.Plan(o, c.words); len(l) != 0 || e != c.want {
			t.Errorf("%s: Plan returns %v, %d, not %d", name, l, e, c.want)
		}
	}
	if l, e := batch.Plan(api.Obs{Inputs: 1}, [][]int{{0}, {1}}); len(l) != 0 || e != api.ErrInvalid {
		t.Errorf("Plan with one input returns %v, %d", l, e)
	}
	if l, e := batch.Plan(api.Obs{}, [][]int{{0}}); len(l) != 0 || e != api.ErrRange {
		t.Errorf("Plan without inputs returns %v, %d", l, e)
	}
}

// planned returns what Plan has to return, by examining all pairs of queries.
func planned(o api.Obs, queries [][]int) [][]int {
	var open [][]int
	for _, w := range queries {
		if _, ok := observe.Answer(o, w); !ok {
			open = append(open, w)
		}
	}
	var l [][]int
	for _, w := range open {
		longer := func(x []int) bool { return len(x) > len(w) && word.HasPrefix(x, w) }
		if !slices.ContainsFunc(open, longer) && !wordset.Has(l, w) {
			l = append(l, w)
		}
	}
	slices.SortFunc(l, word.Compare)
	return l
}

// P20.1, P20.5: after the planned words were answered, all queries are; none of them is superfluous.
func TestPlans(t *testing.T) {
	for state := range uint64(300) {
		inputs := 1 + int(state%3)
		m, _ := drawn(state, inputs, 4)
		o, _ := observe.Of(m, drawnWords(state+1000, inputs, int(state%9), 4))
		queries := drawnWords(state+2000, inputs, int(state%17), 5)
		l, e := batch.Plan(o, queries)
		if !same(l, planned(o, queries)) || e != api.OK {
			t.Fatalf("Plan of %v for %v returns %v, %d", queries, o, l, e)
		}
		for i, w := range l {
			if observe.Known(o, w) == len(w) || slices.ContainsFunc(l[i+1:], func(x []int) bool { return word.HasPrefix(x, w) }) {
				t.Fatalf("Plan of %v for %v contains %v: %v", queries, o, w, l)
			}
		}
		traces, _ := mealy.Traces(m, l)
		for _, x := range traces {
			o, _ = observe.Add(o, x)
		}
		for _, w := range queries {
			if _, ok := observe.Answer(o, w); !ok {
				t.Fatalf("Plan returns %v, with which %v is not answered", l, w)
			}
		}
	}
}

// R1: no observations make Plan panic.
func TestPlanNotValid(t *testing.T) {
	odd := []api.Trace{{}, {In: []int{0, 1}}, {Out: []int{1}}, {In: []int{-1, 5}, Out: []int{7, 8}}, {In: []int{0}, Out: []int{1, 2, 3}}, {In: make([]int, api.MaxWord+2)}}
	for state := range uint64(50) {
		order, _, _ := random.Shuffle(state, len(odd))
		o := api.Obs{Inputs: int(state % 4)}
		for _, i := range order[:1+state%6] {
			o.Traces = append(o.Traces, odd[i])
		}
		batch.Plan(o, [][]int{{}, {0}, {0, 1}, {0, 1, 1}})
	}
}

// P20.2: the sum for all words of the list, however often they occur.
func TestCost(t *testing.T) {
	for i, c := range []struct {
		l     api.Latency
		words [][]int
		want  int
	}{
		{costs(), nil, 0},
		{costs(), [][]int{nil}, 100},
		{costs(), [][]int{{1, 0, 1}}, 111},
		{costs(), [][]int{{0, 0, 0}, {0, 1}}, 223},
		{costs(), [][]int{{0, 0, 0}, {0, 1}, {}}, 323},
		{costs(), [][]int{{0}, {0}, {0, 1}, {0}}, 423},
		{api.Latency{Step: []int{0}}, [][]int{{0}, {0, 0}}, 0},
		{api.Latency{Step: []int{api.MaxCost}, Reset: api.MaxCost}, slices.Repeat([][]int{make([]int, api.MaxWord)}, 20000), 20000 * (api.MaxWord + 1) * api.MaxCost},
	} {
		if n, e := batch.Cost(c.l, c.words); n != c.want || e != api.OK {
			t.Errorf("case %d: Cost returns %d, %d", i, n, e)
		}
	}
}

// wrongCosts are latencies for two inputs with costs that are not permitted.
func wrongCosts() []api.Latency {
	return []api.Latency{
		{Step: []int{1, 1}, Reset: -1},
		{Step: []int{1, 1}, Reset: api.MaxCost + 1},
		{Step: []int{-1, 1}},
		{Step: []int{1, api.MaxCost + 1}},
		{Step: []int{math.MaxInt, 1}},
		{Step: []int{1, math.MinInt}, Reset: 5},
	}
}

// P20.2: the errors of the latency come first, also without words.
func TestCostErrors(t *testing.T) {
	bad := append(wrongCosts(), api.Latency{}, api.Latency{Step: make([]int, api.MaxInputs+1)})
	for i, l := range bad {
		for _, words := range [][][]int{nil, {{0}}, {{9}}, {make([]int, api.MaxWord+1)}} {
			if n, e := batch.Cost(l, words); n != 0 || e != api.ErrRange {
				t.Errorf("case %d: Cost returns %d, %d", i, n, e)
			}
		}
	}
	for name, c := range wrongWords() {
		if n, e := batch.Cost(costs(), c.words); n != 0 || e != c.want {
			t.Errorf("%s: Cost returns %d, %d, not %d", name, n, e, c.want)
		}
	}
}

// P20.2: the sum of the costs of the words.
func TestCosts(t *testing.T) {
	for state := range uint64(50) {
		words := drawnWords(state, 2, int(state), 9)
		want := 0
		for _, w := range words {
			n, _ := device.Cost(costs(), w)
			want += n
		}
		if n, e := batch.Cost(costs(), words); n != want || e != api.OK {
			t.Errorf("Cost of %v returns %d, %d, not %d", words, n, e, want)
		}
	}
}

// P20.4: the words remain in their order, and a batch ends when the next word does not fit any more.
func TestGroups(t *testing.T) {
	words := [][]int{{0}, {0, 1}, {0, 0, 0}, {}, {1, 1, 1, 1}, {}, {1}}
	for i, c := range []struct {
		words [][]int
		most  int
		want  []int
	}{
		{nil, 1, nil},
		{[][]int{nil}, 1, []int{1}},
		{[][]int{{}, {}, {}}, 1, []int{3}},
		{[][]int{{0}, {0}}, 1, []int{1, 1}},
		{[][]int{{0}, {0}}, 2, []int{2}},
		{[][]int{{0}, {}, {}, {0}, {}}, 1, []int{3, 2}},
		{[][]int{{0, 0}, {}, {}, {0}, {}}, 1, []int{1, 4}},
		{[][]int{{0, 0}, {0}, {0}, {0, 0}}, 3, []int{2, 2}},
		{words[:3], 3, []int{2, 1}},
		{words, 1, []int{1, 1, 1, 1, 1, 2}},
		{words, 2, []int{1, 1, 1, 1, 1, 2}},
		{words, 3, []int{2, 2, 1, 2}},
		{words, 4, []int{2, 2, 2, 1}},
		{words, 5, []int{2, 2, 3}},
		{words, 6, []int{4, 3}},
		{words, 10, []int{6, 1}},
		{words, 11, []int{7}},
		{words, math.MaxInt, []int{7}},
		// The words need not be words of a machine, nor be different.
		{[][]int{{-5, math.MaxInt}, {-5, math.MaxInt}, {9}}, 4, []int{2, 1}},
		{[][]int{make([]int, api.MaxWord+5), {1}}, 2, []int{1, 1}},
	} {
		groups, e := batch.Groups(c.words, c.most)
		var sizes []int
		for _, g := range groups {
			sizes = append(sizes, len(g))
		}
		if !slices.Equal(sizes, c.want) || !same(slices.Concat(groups...), c.words) || e != api.OK {
			t.Errorf("case %d: Groups returns %v, %d", i, groups, e)
		}
	}
}

// P20.4: the number of symbols has to be positive.
func TestGroupsErrors(t *testing.T) {
	for _, most := range []int{0, -1, math.MinInt} {
		for _, words := range [][][]int{nil, {nil}, {{0}, {1}}} {
			if groups, e := batch.Groups(words, most); len(groups) != 0 || e != api.ErrRange {
				t.Errorf("Groups for %d symbols returns %v, %d", most, groups, e)
			}
		}
	}
}

// P20.4, P20.6: the batches are the words, and none of them could contain the first word of the next one.
func TestBatches(t *testing.T) {
	symbols := func(words [][]int) int { return len(slices.Concat(words...)) }
	for state := range uint64(200) {
		words := drawnWords(state, 3, int(state%30), 5)
		most := 1 + int(state%13)
		groups, e := batch.Groups(words, most)
		if !same(slices.Concat(groups...), words) || e != api.OK {
			t.Fatalf("Groups of %v returns %v, %d", words, groups, e)
		}
		for i, g := range groups {
			full := i == len(groups)-1 || symbols(g)+len(groups[i+1][0]) > most
			if len(g) == 0 || len(g) > 1 && symbols(g) > most || !full {
				t.Fatalf("Groups of %v for %d returns %v", words, most, groups)
			}
		}
	}
}

// separate overwrites words and the memory behind them, and reports whether no two of them share memory.
func separate(words ...*list) bool {
	kept := true
	for i, w := range words {
		for j := range *w {
			(*w)[j] = 100 + i
		}
	}
	examine := func() {
		for i, w := range words {
			kept = kept && !slices.ContainsFunc(*w, func(x int) bool { return x != 100+i })
		}
	}
	examine()
	// Appended numbers are examined after that, because words that share memory may be separated by an append.
	for i, w := range words {
		*w = append(*w, 100+i)
	}
	examine()
	return kept
}

// R5: arguments do not change, and the words of a result share memory neither with each other nor with an argument.
func TestMemory(t *testing.T) {
	store := []list{list{1, 0, 9}[:2], list{0, 0, 9}[:2], list{1, 0, 9}[:2], {5}}
	words := store[:3]
	o := api.Obs{Inputs: 2}
	l, _ := batch.Plan(o, words)
	groups, _ := batch.Groups(words, 4)
	groups[0] = append(groups[0], []int{7})
	if !separate(&l[0], &l[1], &groups[0][0], &groups[0][1], &groups[0][2], &groups[1][0]) {
		t.Error("the words of the results share memory:", l, groups)
	}
	for i, want := range [][]int{{1, 0, 9}, {0, 0, 9}, {1, 0, 9}} {
		if len(words[i]) != 2 || !slices.Equal(words[i][:3], want) {
			t.Error("the words have become", words[i][:3])
		}
	}
	if len(store[3]) != 1 || store[3][0] != 5 {
		t.Error("behind the words there is", store[3])
	}
	alike := slices.Repeat([][]int{{1, 1}}, 3)
	groups, _ = batch.Groups(alike, 4)
	if !separate(&groups[0][0], &groups[0][1], &groups[1][0]) || !slices.Equal(alike[0], []int{1, 1}) {
		t.Error("words that shared memory still do:", groups)
	}
}
