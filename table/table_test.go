package table_test

import (
	"math"
	"slices"
	"testing"

	"learner/api"
	"learner/random"
	"learner/table"
	"learner/word"
	"learner/wordset"
)

// list is a list of words.
type list = [][]int

// tab returns a table.
func tab(inputs int, prefixes, suffixes [][]int) api.Table {
	return api.Table{Inputs: inputs, Prefixes: prefixes, Suffixes: suffixes}
}

// same reports whether two tables have equal fields.
func same(a, b api.Table) bool {
	return a.Inputs == b.Inputs && equal(a.Prefixes, b.Prefixes) && equal(a.Suffixes, b.Suffixes)
}

// equal reports whether two lists have equal words.
func equal(a, b [][]int) bool {
	return slices.EqualFunc(a, b, slices.Equal[[]int])
}

// cloned returns a list in new memory.
func cloned(l [][]int) [][]int {
	var words [][]int
	for _, w := range l {
		words = append(words, slices.Clone(w))
	}
	return words
}

// singles returns the words of one symbol.
func singles(inputs int) [][]int {
	var l [][]int
	for a := range inputs {
		l = append(l, []int{a})
	}
	return l
}

// first returns the first n words in shortlex order, beginning with w.
func first(inputs, n int, w []int) [][]int {
	var l [][]int
	for range n {
		l = append(l, w)
		w, _ = word.Next(w, inputs)
	}
	return l
}

// chain returns the words of n to m zeros.
func chain(n, m int) [][]int {
	var l [][]int
	for i := n; i <= m; i++ {
		l = append(l, make([]int, i))
	}
	return l
}

// P23.1: the numbers of inputs.
func TestNew(t *testing.T) {
	for inputs, want := range map[int]api.Errno{
		1: api.OK, 2: api.OK, 3: api.OK, api.MaxInputs: api.OK,
		0: api.ErrRange, -1: api.ErrRange, api.MaxInputs + 1: api.ErrRange, math.MaxInt: api.ErrRange, math.MinInt: api.ErrRange,
	} {
		x, e := table.New(inputs)
		right := api.Table{}
		if want == api.OK {
			right = tab(inputs, list{nil}, singles(inputs))
		}
		if e != want || !same(x, right) {
			t.Errorf("New of %d returns %v, %d", inputs, x, e)
		}
		if e == api.OK && table.Valid(x) != api.OK {
			t.Errorf("New of %d returns a table that is not valid", inputs)
		}
	}
}

// P23.2: valid tables.
func TestValid(t *testing.T) {
	for i, x := range []api.Table{
		tab(1, list{nil}, list{{0}}),
		tab(1, list{{}}, list{{0}, {0, 0, 0}}),
		tab(2, list{nil, {1}, {1, 0}, {1, 1}, {1, 1, 0}}, list{{0}, {1}, {0, 0}, {1, 0, 1}}),
		tab(api.MaxInputs, list{nil, {63}}, append(singles(api.MaxInputs), []int{63, 63})),
	} {
		if e := table.Valid(x); e != api.OK {
			t.Errorf("case %d: Valid returns %d", i, e)
		}
	}
}

// P23.2: the errors of the fields and of each word, in their order.
func TestValidErrors(t *testing.T) {
	one := list{{0}, {1}}
	long := make([]int, api.MaxWord+1)
	for i, c := range []struct {
		want api.Errno
		x    api.Table
	}{
		{api.ErrRange, api.Table{}},
		{api.ErrRange, tab(0, list{nil}, one)},
		{api.ErrRange, tab(-1, nil, nil)},
		{api.ErrRange, tab(api.MaxInputs+1, nil, make(list, api.MaxWords+1))},
		{api.ErrRange, tab(math.MaxInt, list{nil}, one)},
		{api.ErrEmpty, tab(2, nil, one)},
		{api.ErrEmpty, tab(2, list{}, make(list, api.MaxWords+1))},
		{api.ErrLimit, tab(2, append(list{{5}}, make(list, api.MaxWords)...), nil)},
		// The errors of a prefix: those of word.Check, then ErrState, then ErrInvalid.
		{api.ErrInvalid, tab(2, list{{2}}, one)},
		{api.ErrInvalid, tab(2, list{{-1}, {0}}, list{nil})},
		{api.ErrTooLong, tab(2, list{long}, one)},
		{api.ErrTooLong, tab(2, list{nil, long, nil}, one)},
		{api.ErrState, tab(2, list{{0}}, one)},
		{api.ErrState, tab(2, list{{0, 1}, {}}, one)},
		{api.ErrState, tab(2, list{nil, nil}, one)},
		{api.ErrState, tab(2, list{nil, {0}, {0}}, one)},
		{api.ErrState, tab(2, list{nil, {1}, {0}}, one)},
		{api.ErrState, tab(2, list{nil, {0}, {0, 0}, {1}}, one)},
		{api.ErrState, tab(2, list{nil, {0}, {}, {0, 2}}, list{nil})},
		{api.ErrState, tab(2, list{nil, {0}, {0, 1}, {0, 1, 1}, {1, 1}}, one)},
		{api.ErrInvalid, tab(2, list{nil, {0}, {1, 0}}, one)},
		{api.ErrInvalid, tab(2, list{nil, {0}, {1, 1}, {0}}, one)},
		{api.ErrInvalid, tab(2, list{nil, {0, 1, 0}}, one)},
		{api.ErrInvalid, tab(2, list{nil, {0}, {0, 2}, nil}, one)},
		// The rest of a prefix can be a later one, which is then not in order.
		{api.ErrState, tab(2, list{nil, {0, 0}, {0}}, one)},
		{api.ErrState, tab(2, list{nil, {0, 0}, {1}, {0}}, list{nil})},
		{api.ErrInvalid, tab(2, list{nil, {0, 0}, {1, 0}, {0}}, one)},
		{api.ErrInvalid, tab(2, list{nil, {0, 0}, {0, 2}, {0}}, one)},
		// The errors of a suffix: those of word.Check, then ErrEmpty, then ErrState.
		{api.ErrEmpty, tab(2, list{nil}, list{nil})},
		{api.ErrEmpty, tab(2, list{nil}, list{{0}, {1}, {}})},
		{api.ErrInvalid, tab(2, list{nil}, list{{2}, nil})},
		{api.ErrInvalid, tab(2, list{nil}, list{{0}, {1}, {0, -1}})},
		{api.ErrInvalid, tab(2, list{nil}, list{{1}, {math.MaxInt}})},
		{api.ErrTooLong, tab(2, list{nil}, list{long, {0}})},
		{api.ErrTooLong, tab(1, list{nil}, list{{0}, long})},
		{api.ErrState, tab(2, list{nil}, list{{1}, {0}})},
		{api.ErrState, tab(2, list{nil}, list{{0}, {0}})},
		{api.ErrState, tab(2, list{nil}, list{{0, 0}, {1}, {2}})},
		{api.ErrState, tab(2, list{nil}, list{{0}, {1}, {1, 0}, {0, 1}})},
		// The words of one symbol.
		{api.ErrInvalid, tab(2, list{nil}, nil)},
		{api.ErrInvalid, tab(2, list{nil}, list{{0}})},
		{api.ErrInvalid, tab(2, list{nil}, list{{1}})},
		{api.ErrInvalid, tab(2, list{nil}, list{{0}, {0, 1}, {1, 1}})},
		{api.ErrInvalid, tab(1, list{nil}, list{{0, 0}})},
		{api.ErrInvalid, tab(1, list{nil}, list{long[:api.MaxWord]})},
		{api.ErrTooLong, tab(1, list{nil}, list{{0}, long[:api.MaxWord]})},
	} {
		if e := table.Valid(c.x); e != c.want {
			t.Errorf("case %d: Valid returns %d, not %d", i, e, c.want)
		}
	}
}

// P23.2: the greatest numbers of prefixes, suffixes and cells.
func TestValidLimits(t *testing.T) {
	for i, c := range []struct {
		inputs, prefixes, suffixes int
		want                       api.Errno
	}{
		{2, api.MaxWords, 2, api.OK},
		{2, api.MaxWords + 1, 2, api.ErrLimit},
		{2, 1, api.MaxWords, api.OK},
		{2, 1, api.MaxWords + 1, api.ErrLimit},
		{3, 4, api.MaxWords, api.OK},
		{3, 5, api.MaxWords, api.ErrLimit},
		{3, api.MaxWords, 4, api.OK},
		{3, api.MaxWords, 5, api.ErrLimit},
		{1, 200, 400, api.OK},
		{1, 201, 400, api.ErrLimit},
		{1, 200, 401, api.ErrLimit},
		{api.MaxInputs, api.MaxWords, api.MaxWords, api.ErrLimit},
		{63, 25, 100, api.OK},
		{63, 25, 101, api.ErrLimit},
		{63, 26, 100, api.ErrLimit},
		{2, api.MaxWords + 1, 0, api.ErrLimit},
		{2, api.MaxWords, 0, api.ErrInvalid},
	} {
		x := tab(c.inputs, first(c.inputs, c.prefixes, nil), first(c.inputs, c.suffixes, []int{0}))
		if e := table.Valid(x); e != c.want {
			t.Errorf("case %d: Valid returns %d, not %d", i, e, c.want)
		}
		// The limit comes before the errors of words, and these before the others.
		x.Prefixes[0] = []int{-1}
		want := api.ErrLimit
		if c.want != api.ErrLimit {
			want = api.ErrInvalid
		}
		if e := table.Valid(x); e != want {
			t.Errorf("case %d: with a wrong word Valid returns %d, not %d", i, e, want)
		}
	}
}

// P23.2: the greatest lengths.
func TestValidLengths(t *testing.T) {
	for prefix, most := range map[int]int{0: api.MaxWord - 1, 1: api.MaxWord - 2, 70: api.MaxWord - 71} {
		for suffix, want := range map[int]api.Errno{most: api.OK, most + 1: api.ErrTooLong, api.MaxWord: api.ErrTooLong, api.MaxWord + 1: api.ErrTooLong} {
			x := tab(1, chain(0, prefix), list{{0}, make([]int, suffix)})
			if e := table.Valid(x); e != want {
				t.Errorf("Valid with a prefix of %d and a suffix of %d symbols returns %d, not %d", prefix, suffix, e, want)
			}
		}
	}
	if e := table.Valid(tab(1, chain(0, api.MaxWord-2), list{{0}})); e != api.OK {
		t.Error("Valid returns", e)
	}
	if e := table.Valid(tab(1, chain(0, api.MaxWord-1), list{{0}})); e != api.ErrTooLong {
		t.Error("Valid returns", e)
	}
	if e := table.Valid(tab(1, chain(0, api.MaxWord-1), list{{0, 0}})); e != api.ErrInvalid {
		t.Error("Valid returns", e)
	}
}

// literalValid returns the error of a table whose numbers and lengths are within the limits.
func literalValid(x api.Table) api.Errno {
	for i, w := range x.Prefixes {
		if e := word.Check(w, x.Inputs); e != api.OK {
			return e
		}
		if i == 0 && len(w) > 0 || i > 0 && word.Compare(w, x.Prefixes[i-1]) <= 0 {
			return api.ErrState
		}
		if len(w) > 0 && !wordset.Has(x.Prefixes, w[:len(w)-1]) {
			return api.ErrInvalid
		}
	}
	for i, w := range x.Suffixes {
		if e := word.Check(w, x.Inputs); e != api.OK {
			return e
		}
		if len(w) == 0 {
			return api.ErrEmpty
		}
		if i > 0 && word.Compare(w, x.Suffixes[i-1]) <= 0 {
			return api.ErrState
		}
	}
	for a := range x.Inputs {
		if !wordset.Has(x.Suffixes, []int{a}) {
			return api.ErrInvalid
		}
	}
	return api.OK
}

// drawnWords returns n random words of least to most symbols, and the state after them.
func drawnWords(state uint64, inputs, n, least, most int) ([][]int, uint64) {
	var l [][]int
	for range n {
		var length int
		var w []int
		length, state, _ = random.Below(state, most-least+1)
		w, state, _ = random.Word(state, inputs, least+length)
		l = append(l, w)
	}
	return l, state
}

// drawnTable returns a random table, and the state after it.
func drawnTable(state uint64, inputs int) (api.Table, uint64) {
	prefixes, state := drawnWords(state, inputs, int(state%4), 0, 4)
	suffixes, state := drawnWords(state, inputs, int(state%3), 1, 3)
	return tab(inputs, wordset.Union(list{nil}, wordset.Prefixes(prefixes)), wordset.Union(singles(inputs), suffixes)), state
}

// changed returns a list in which one word has changed: another symbol, another place, left out, or twice.
func changed(state uint64, l [][]int) ([][]int, uint64) {
	l = cloned(l)
	kind, state, _ := random.Below(state, 4)
	i, state, _ := random.Below(state, len(l))
	j, state, _ := random.Below(state, len(l))
	switch {
	case kind == 0:
		l[i], l[j] = l[j], l[i]
	case kind == 1:
		l = slices.Delete(l, i, i+1)
	case kind == 2 && len(l[i]) > 0:
		l[i][len(l[i])-1]++
	default:
		l[i] = slices.Clone(l[j])
	}
	return l, state
}

// P23.2: random tables in which up to three words have changed.
func TestValidChanged(t *testing.T) {
	count := map[api.Errno]int{}
	for state := range uint64(6000) {
		x, next := drawnTable(state*77, 1+int(state%3))
		for range state % 4 {
			if next%3 == 0 && len(x.Suffixes) > 0 {
				x.Suffixes, next = changed(next, x.Suffixes)
			} else if len(x.Prefixes) > 1 {
				x.Prefixes, next = changed(next, x.Prefixes)
			}
		}
		want := literalValid(x)
		count[want]++
		if e := table.Valid(x); e != want {
			t.Fatalf("Valid of %v returns %d, not %d", x, e, want)
		}
	}
	if count[api.OK] < 500 || count[api.ErrState] < 500 || count[api.ErrInvalid] < 500 {
		t.Error("the tables have the errors", count)
	}
}

// P23.7: a prefix is added with its own prefixes, a suffix alone.
func TestPrefixAndSuffix(t *testing.T) {
	x, _ := table.New(2)
	grown := tab(2, list{nil, {1}, {1, 0}}, list{{0}, {1}, {1, 1}})
	for i, c := range []struct {
		x            api.Table
		w            []int
		asPrefix     list
		asSuffix     list
		suffixRefuse api.Errno
	}{
		{x, nil, list{nil}, x.Suffixes, api.ErrEmpty},
		{x, []int{0}, list{nil, {0}}, x.Suffixes, api.OK},
		{x, []int{0, 1}, list{nil, {0}, {0, 1}}, list{{0}, {1}, {0, 1}}, api.OK},
		{x, []int{1, 1, 0}, list{nil, {1}, {1, 1}, {1, 1, 0}}, list{{0}, {1}, {1, 1, 0}}, api.OK},
		{grown, []int{0}, list{nil, {0}, {1}, {1, 0}}, grown.Suffixes, api.OK},
		{grown, []int{1, 0}, grown.Prefixes, list{{0}, {1}, {1, 0}, {1, 1}}, api.OK},
		{grown, []int{1, 1}, list{nil, {1}, {1, 0}, {1, 1}}, grown.Suffixes, api.OK},
		{grown, []int{0, 0, 1}, list{nil, {0}, {1}, {0, 0}, {1, 0}, {0, 0, 1}}, list{{0}, {1}, {1, 1}, {0, 0, 1}}, api.OK},
	} {
		if y, e := table.Prefix(c.x, c.w); e != api.OK || !same(y, tab(2, c.asPrefix, c.x.Suffixes)) {
			t.Errorf("case %d: Prefix returns %v, %d", i, y, e)
		}
		if y, e := table.Suffix(c.x, c.w); e != c.suffixRefuse || !same(y, tab(2, c.x.Prefixes, c.asSuffix)) {
			t.Errorf("case %d: Suffix returns %v, %d", i, y, e)
		}
	}
}

// P23.7: random tables and words.
func TestPrefixAndSuffixDrawn(t *testing.T) {
	for state := range uint64(1000) {
		x, next := drawnTable(state*77, 1+int(state%3))
		words, _ := drawnWords(next, x.Inputs, 3, 1, 6)
		for _, w := range words {
			y, e := table.Prefix(x, w)
			want := tab(x.Inputs, wordset.Union(x.Prefixes, wordset.Prefixes(list{w})), x.Suffixes)
			if e != api.OK || !same(y, want) || table.Valid(y) != api.OK {
				t.Fatalf("Prefix of %v by %v returns %v, %d", x, w, y, e)
			}
			y, e = table.Suffix(x, w)
			want = tab(x.Inputs, x.Prefixes, wordset.Union(x.Suffixes, list{w}))
			if e != api.OK || !same(y, want) || table.Valid(y) != api.OK {
				t.Fatalf("Suffix of %v by %v returns %v, %d", x, w, y, e)
			}
		}
	}
}

// P23.7: the errors in their order; the table remains as it is.
func TestPrefixAndSuffixErrors(t *testing.T) {
	x, _ := table.New(2)
	wrong := tab(2, list{nil, {1}, {0}}, x.Suffixes)
	long := make([]int, api.MaxWord+1)
	full := tab(1, chain(0, 199), chain(1, 400))
	wide := tab(3, first(3, 4, nil), first(3, api.MaxWords, []int{0}))
	for i, c := range []struct {
		x              api.Table
		w              []int
		prefix, suffix api.Errno
	}{
		{api.Table{}, nil, api.ErrRange, api.ErrRange},
		{wrong, nil, api.ErrState, api.ErrState},
		{wrong, []int{2}, api.ErrState, api.ErrState},
		{x, nil, api.OK, api.ErrEmpty},
		{x, []int{2}, api.ErrInvalid, api.ErrInvalid},
		{x, []int{0, -1}, api.ErrInvalid, api.ErrInvalid},
		{x, long, api.ErrTooLong, api.ErrTooLong},
		{x, long[1:], api.ErrTooLong, api.ErrTooLong},
		{x, long[2:], api.ErrTooLong, api.OK},
		{x, long[3:], api.OK, api.OK},
		{tab(1, chain(0, 20), chain(1, 5)), make([]int, api.MaxWord-7), api.OK, api.ErrTooLong},
		{tab(1, chain(0, 5), chain(1, 20)), make([]int, api.MaxWord-7), api.ErrTooLong, api.OK},
		{full, nil, api.OK, api.ErrEmpty},
		{full, make([]int, 7), api.OK, api.OK},
		{full, make([]int, 199), api.OK, api.OK},
		{full, make([]int, 200), api.ErrLimit, api.OK},
		{full, make([]int, 401), api.ErrLimit, api.ErrLimit},
		{full, make([]int, api.MaxWord), api.ErrLimit, api.ErrLimit},
		{full, make([]int, api.MaxWord+1), api.ErrTooLong, api.ErrTooLong},
		{full, []int{1}, api.ErrInvalid, api.ErrInvalid},
		{wide, []int{2}, api.OK, api.OK},
		{wide, []int{2, 2}, api.ErrLimit, api.OK},
		{wide, make([]int, 10), api.ErrLimit, api.ErrLimit},
		{tab(2, list{nil}, first(2, api.MaxWords, []int{0})), make([]int, 20), api.ErrLimit, api.ErrLimit},
		{tab(2, first(2, api.MaxWords, nil), singles(2)), make([]int, 20), api.ErrLimit, api.OK},
	} {
		before := tab(c.x.Inputs, cloned(c.x.Prefixes), cloned(c.x.Suffixes))
		if y, e := table.Prefix(c.x, c.w); e != c.prefix || e != api.OK && !same(y, before) {
			t.Errorf("case %d: Prefix returns %v, %d, not %d", i, y, e, c.prefix)
		}
		if y, e := table.Suffix(c.x, c.w); e != c.suffix || e != api.OK && !same(y, before) {
			t.Errorf("case %d: Suffix returns %v, %d, not %d", i, y, e, c.suffix)
		}
		if !same(c.x, before) {
			t.Errorf("case %d: the table has changed", i)
		}
	}
}

// spoil changes all numbers of a list and its spare capacity.
func spoil(l [][]int) {
	for i, w := range l {
		w = append(w, -5)
		for k := range w {
			w[k] = -7
		}
		l[i] = append(w, -9)
	}
	clear(append(l, nil, nil))
}

// P23.1, P23.7, R5: results are new memory, and arguments do not change.
func TestTableMemory(t *testing.T) {
	words := func() ([][]int, [][]int, []int) {
		return list{nil, []int{0, 8}[:1], {9}, {9}}[:2], list{[]int{0, 8}[:1], []int{1, 8}[:1], {0, 1}, {9}}[:3], []int{0, 1, 8}[:2]
	}
	prefixes, suffixes, w := words()
	x := tab(2, prefixes, suffixes)
	for _, change := range []func(api.Table, []int) (api.Table, api.Errno){table.Prefix, table.Suffix} {
		for _, y := range [][]int{w, {0}, {1}, {1, 1}} {
			r, e := change(x, y)
			if e != api.OK {
				t.Fatal(e)
			}
			suffixesBefore := cloned(r.Suffixes)
			spoil(r.Prefixes)
			if !equal(r.Suffixes, suffixesBefore) {
				t.Error("the lists of a result share memory")
			}
			spoil(r.Suffixes)
		}
	}
	p, s, v := words()
	if !same(x, tab(2, p, s)) || !slices.Equal(w, v) || !slices.Equal(w[:3], v[:3]) {
		t.Error("the arguments have become", x, w)
	}
	if !slices.Equal(prefixes[:4][2], []int{9}) || prefixes[1][:2][1] != 8 || !slices.Equal(suffixes[:4][3], []int{9}) || suffixes[0][:2][1] != 8 {
		t.Error("the spare capacity has changed")
	}
	y, _ := table.New(3)
	spoil(y.Prefixes)
	if !equal(y.Suffixes, singles(3)) {
		t.Error("the suffixes have become", y.Suffixes)
	}
}
