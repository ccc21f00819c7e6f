package wordset_test

import (
	"math"
	"slices"
	"testing"

	"learner/api"
	"learner/word"
	"learner/wordset"
)

// same reports whether two lists have the same words in the same order.
func same(a, b [][]int) bool {
	return slices.EqualFunc(a, b, slices.Equal[[]int])
}

// copied returns a list of copies of words.
func copied(l [][]int) [][]int {
	var words [][]int
	for _, w := range l {
		words = append(words, slices.Clone(w))
	}
	return words
}

// isSorted reports whether a list is in shortlex order without repetitions.
func isSorted(l [][]int) bool {
	for i := 1; i < len(l); i++ {
		if word.Compare(l[i-1], l[i]) >= 0 {
			return false
		}
	}
	return true
}

// singles returns the words of one symbol, for the symbols from first on.
func singles(first, n int) [][]int {
	var words [][]int
	for i := range n {
		words = append(words, []int{first + i})
	}
	return words
}

// samples returns lists of words of different kinds, with any order, repetitions and elements.
func samples() [][][]int {
	all := [][][]int{
		nil,
		{nil},
		{{}, nil, {}},
		{{1, 0}, {}, {1}, {1, 0}},
		{{0, 1}},
		{{1, 0}, {}, {1}, {1, 0}, {0, 0, 0}, {2}},
		{{math.MaxInt, math.MinInt}, {math.MaxInt}, {-1}, {math.MinInt, math.MaxInt}},
		{{12, 3}, {1, 23}, {123}, {-12}, {-1, 2}, {1, 2}},
	}
	x := uint32(1)
	draw := func(n int) int {
		x = x*1664525 + 1013904223
		return int(x>>16) % n
	}
	for i := range 60 {
		var l [][]int
		for range draw(12) {
			var w []int
			for range draw(7) {
				w = append(w, draw(2+i%3)-1)
			}
			l = append(l, w)
		}
		all = append(all, l)
	}
	return all
}

// chosen returns the different words of l for which keep is true, in shortlex order, by looking at all of them again and again.
func chosen(l [][]int, keep func(w []int) bool) [][]int {
	var result [][]int
	for {
		var next []int
		found := false
		for _, w := range l {
			after := len(result) == 0 || word.Compare(w, result[len(result)-1]) > 0
			if after && keep(w) && (!found || word.Compare(w, next) < 0) {
				next, found = w, true
			}
		}
		if !found {
			return result
		}
		result = append(result, next)
	}
}

// all keeps every word.
func all(w []int) bool { return true }

// P2.1: the different words in shortlex order.
func TestSorted(t *testing.T) {
	if x := wordset.Sorted([][]int{{1, 0}, {}, {1}, {1, 0}}); !same(x, [][]int{{}, {1}, {1, 0}}) {
		t.Error(x)
	}
	if x := wordset.Sorted([][]int{{3}, {0, 0}, {-1}, {math.MinInt}}); !same(x, [][]int{{math.MinInt}, {-1}, {3}, {0, 0}}) {
		t.Error(x)
	}
	for _, l := range samples() {
		if x := wordset.Sorted(l); !same(x, chosen(l, all)) {
			t.Error(l, x)
		}
	}
	long := make([]int, 5*api.MaxWord)
	if x := wordset.Sorted([][]int{long, {1}, long}); !same(x, [][]int{{1}, long}) {
		t.Error("the words of a list have any length")
	}
}

// P2.1: membership in any list.
func TestHas(t *testing.T) {
	l := [][]int{{1, 0}, {}, {1}, {1, 0}, {-7}}
	for i, c := range []struct {
		l    [][]int
		w    []int
		want bool
	}{
		{l, nil, true},
		{l, []int{}, true},
		{l, []int{1}, true},
		{l, []int{1, 0}, true},
		{l, []int{-7}, true},
		{l, []int{0}, false},
		{l, []int{0, 1}, false},
		{l, []int{1, 0, 0}, false},
		{nil, nil, false},
		{[][]int{nil}, []int{}, true},
		{[][]int{{0}}, nil, false},
		{[][]int{{2}, {1}, {0}}, []int{2}, true},
		{[][]int{{2}, {1}, {0}}, []int{0}, true},
	} {
		if x := wordset.Has(c.l, c.w); x != c.want {
			t.Errorf("case %d: Has returns %t", i, x)
		}
	}
}

// P2.1: the words of several lists.
func TestUnion(t *testing.T) {
	for i, c := range []struct {
		lists [][][]int
		want  [][]int
	}{
		{nil, nil},
		{[][][]int{nil, {}}, nil},
		{[][][]int{{{}}}, [][]int{{}}},
		{[][][]int{{{1, 0}, {}}, nil, {{0}, {1, 0}}}, [][]int{{}, {0}, {1, 0}}},
		{[][][]int{{{2}}, {{1}}, {{0}, {2}}}, [][]int{{0}, {1}, {2}}},
	} {
		if x := wordset.Union(c.lists...); !same(x, c.want) {
			t.Errorf("case %d: Union returns %v", i, x)
		}
	}
	for _, a := range samples() {
		for _, b := range samples() {
			if x := wordset.Union(a, b); !same(x, chosen(slices.Concat(a, b), all)) {
				t.Fatal(a, b, x)
			}
		}
	}
}

// P2.2: all prefixes.
func TestPrefixes(t *testing.T) {
	if x := wordset.Prefixes([][]int{{0, 1}}); !same(x, [][]int{{}, {0}, {0, 1}}) {
		t.Error(x)
	}
	if x := wordset.Prefixes(nil); len(x) != 0 {
		t.Error(x)
	}
	if x := wordset.Prefixes([][]int{{}}); !same(x, [][]int{{}}) {
		t.Error(x)
	}
	for _, l := range samples() {
		var parts [][]int
		for _, w := range l {
			for n := range len(w) + 1 {
				parts = append(parts, w[:n])
			}
		}
		if x := wordset.Prefixes(l); !same(x, chosen(parts, all)) {
			t.Error(l, x)
		}
	}
}

// P2.2: all suffixes.
func TestSuffixes(t *testing.T) {
	if x := wordset.Suffixes([][]int{{0, 1}}); !same(x, [][]int{{}, {1}, {0, 1}}) {
		t.Error(x)
	}
	if x := wordset.Suffixes(nil); len(x) != 0 {
		t.Error(x)
	}
	if x := wordset.Suffixes([][]int{{}}); !same(x, [][]int{{}}) {
		t.Error(x)
	}
	for _, l := range samples() {
		var parts [][]int
		for _, w := range l {
			for n := range len(w) + 1 {
				parts = append(parts, w[n:])
			}
		}
		if x := wordset.Suffixes(l); !same(x, chosen(parts, all)) {
			t.Error(l, x)
		}
	}
}

// maximalIn returns whether a word is no proper prefix of a word of l.
func maximalIn(l [][]int) func(w []int) bool {
	return func(w []int) bool {
		for _, x := range l {
			if len(w) < len(x) && slices.Equal(w, x[:len(w)]) {
				return false
			}
		}
		return true
	}
}

// P2.3: the maximal words.
func TestMaximal(t *testing.T) {
	for i, c := range []struct{ l, want [][]int }{
		{nil, nil},
		{[][]int{{}}, [][]int{{}}},
		{[][]int{{}, nil}, [][]int{{}}},
		{[][]int{{1, 0}, {}, {1}, {1, 0}}, [][]int{{1, 0}}},
		{[][]int{{1}, {1, 0, 0}, {0}, {1, 1}}, [][]int{{0}, {1, 1}, {1, 0, 0}}},
		{[][]int{{-3, -3}, {-3}, {-2}}, [][]int{{-2}, {-3, -3}}},
	} {
		if x := wordset.Maximal(c.l); !same(x, c.want) {
			t.Errorf("case %d: Maximal returns %v", i, x)
		}
	}
	for _, l := range samples() {
		if x := wordset.Maximal(l); !same(x, chosen(l, maximalIn(l))) {
			t.Error(l, x)
		}
	}
}

// P2.4: all joined words, each of them once.
func TestProduct(t *testing.T) {
	long := make([]int, api.MaxWord+1)
	for i, c := range []struct{ a, b, want [][]int }{
		{nil, nil, nil},
		{[][]int{{}, {0}}, [][]int{{0}, {1}}, [][]int{{0}, {1}, {0, 0}, {0, 1}}},
		{[][]int{{}, {0}}, [][]int{{}, {0}}, [][]int{{}, {0}, {0, 0}}},
		{[][]int{{}}, [][]int{nil}, [][]int{{}}},
		{[][]int{{5}}, nil, nil},
		{nil, [][]int{{5}}, nil},
		{[][]int{long}, nil, nil},
		{nil, [][]int{long}, nil},
		{[][]int{{1}, {12}}, [][]int{{2, 3}, {3}}, [][]int{{1, 3}, {12, 3}, {1, 2, 3}, {12, 2, 3}}},
		{[][]int{{math.MinInt}}, [][]int{{math.MaxInt}, {-1}}, [][]int{{math.MinInt, -1}, {math.MinInt, math.MaxInt}}},
	} {
		if x, e := wordset.Product(c.a, c.b); !same(x, c.want) || e != api.OK {
			t.Errorf("case %d: Product returns %v, %d", i, x, e)
		}
	}
	for _, a := range samples() {
		for _, b := range samples() {
			var joined [][]int
			for _, x := range a {
				for _, y := range b {
					joined = append(joined, slices.Concat(x, y))
				}
			}
			if x, e := wordset.Product(a, b); !same(x, chosen(joined, all)) || e != api.OK {
				t.Fatal(a, b, x, e)
			}
		}
	}
}

// P2.4: joined words have at most MaxWord symbols.
func TestProductTooLong(t *testing.T) {
	for i, c := range []struct {
		a, b int
		want api.Errno
	}{
		{1000, 24, api.OK},
		{0, api.MaxWord, api.OK},
		{api.MaxWord, 0, api.OK},
		{1000, 25, api.ErrTooLong},
		{0, api.MaxWord + 1, api.ErrTooLong},
		{api.MaxWord + 1, 0, api.ErrTooLong},
	} {
		x, e := wordset.Product([][]int{make([]int, c.a), {}}, [][]int{{}, make([]int, c.b)})
		if e != c.want || (len(x) > 0) != (e == api.OK) {
			t.Errorf("case %d: Product returns %d words, %d", i, len(x), e)
		}
	}
	many := append(singles(0, 200), make([]int, 1000))
	if x, e := wordset.Product(many, many); len(x) != 0 || e != api.ErrTooLong {
		t.Error("ErrTooLong comes before ErrLimit:", len(x), e)
	}
}

// P2.4: at most MaxWords different words.
func TestProductLimit(t *testing.T) {
	for i, c := range []struct {
		a, b [][]int
		want int
	}{
		{singles(0, 100), singles(0, 100), 10000},
		{singles(0, 100), singles(0, 101), 0},
		{singles(0, 101), singles(0, 100), 0},
		{singles(0, 10000), [][]int{{}}, 10000},
		{singles(0, 10001), [][]int{{}}, 0},
		{[][]int{{1}}, singles(0, 10001), 0},
		{singles(0, 1<<14), singles(0, 1<<14), 0},
		{slices.Repeat([][]int{{1}, {2}}, 500), slices.Repeat([][]int{{3}}, 500), 2},
	} {
		x, e := wordset.Product(c.a, c.b)
		if len(x) != c.want || (e == api.OK) != (c.want > 0) || e != api.OK && e != api.ErrLimit {
			t.Errorf("case %d: Product returns %d words, %d", i, len(x), e)
		}
	}
}

// P2.4: only different words count.
func TestProductRepeated(t *testing.T) {
	var powers [][]int
	for n := range 300 {
		powers = append(powers, make([]int, n))
	}
	if x, e := wordset.Product(powers, powers); len(x) != 599 || e != api.OK || !isSorted(x) {
		t.Error(len(x), e)
	}
}

// P2.5: all words up to a length.
func TestUpto(t *testing.T) {
	if x, e := wordset.Upto(2, 2); !same(x, [][]int{{}, {0}, {1}, {0, 0}, {0, 1}, {1, 0}, {1, 1}}) || e != api.OK {
		t.Error(x, e)
	}
	if x, e := wordset.Upto(api.MaxLetters, 0); !same(x, [][]int{{}}) || e != api.OK {
		t.Error(x, e)
	}
	for i, c := range []struct {
		inputs, n, words int
		want             api.Errno
	}{
		{1, 0, 1, api.OK},
		{1, api.MaxWord, api.MaxWord + 1, api.OK},
		{2, 12, 8191, api.OK},
		{99, 2, 9901, api.OK},
		{api.MaxLetters, 1, api.MaxLetters + 1, api.OK},
		{2, 13, 0, api.ErrLimit},
		{2, api.MaxWord, 0, api.ErrLimit},
		{100, 2, 0, api.ErrLimit},
		{api.MaxLetters, api.MaxWord, 0, api.ErrLimit},
		{0, 1, 0, api.ErrRange},
		{-1, 1, 0, api.ErrRange},
		{api.MaxLetters + 1, 0, 0, api.ErrRange},
		{2, -1, 0, api.ErrRange},
		{1, api.MaxWord + 1, 0, api.ErrRange},
		{2, math.MaxInt, 0, api.ErrRange},
		{math.MinInt, math.MinInt, 0, api.ErrRange},
	} {
		x, e := wordset.Upto(c.inputs, c.n)
		if len(x) != c.words || e != c.want || !isSorted(x) {
			t.Errorf("case %d: Upto returns %d words, %d", i, len(x), e)
		}
		for _, w := range x {
			if len(w) > c.n || word.Check(w, c.inputs) != api.OK {
				t.Fatalf("case %d: Upto returns the word %v", i, w)
			}
		}
	}
}

// P2.6: the number and the symbols of the maximal words.
func TestSize(t *testing.T) {
	for i, c := range []struct {
		l              [][]int
		words, symbols int
	}{
		{nil, 0, 0},
		{[][]int{{}, nil}, 1, 0},
		{[][]int{{1, 0}, {}, {1}, {1, 0}}, 1, 2},
		{[][]int{{1, 0}, {}, {1}, {1, 0}, {0, 0, 0}, {2}}, 3, 6},
		{[][]int{{-1}, {-1, -1}, {-2}}, 2, 3},
	} {
		if n, m := wordset.Size(c.l); n != c.words || m != c.symbols {
			t.Errorf("case %d: Size returns %d, %d", i, n, m)
		}
	}
	for _, l := range samples() {
		words, symbols := chosen(l, maximalIn(l)), 0
		for _, w := range words {
			symbols += len(w)
		}
		if n, m := wordset.Size(l); n != len(words) || m != symbols {
			t.Error(l, n, m)
		}
	}
}

// P2.7: neither the order of a list nor repetitions matter, and results are fixed points.
func TestSets(t *testing.T) {
	for _, f := range []func([][]int) [][]int{wordset.Sorted, wordset.Prefixes, wordset.Suffixes, wordset.Maximal} {
		for _, l := range samples() {
			x := f(l)
			other := slices.Concat(l, l)
			slices.Reverse(other)
			if !isSorted(x) || !same(f(other), x) || !same(f(x), x) {
				t.Error(l, x)
			}
		}
	}
	for _, l := range samples() {
		other := slices.Concat(l, l)
		slices.Reverse(other)
		n, m := wordset.Size(l)
		if p, q := wordset.Size(other); p != n || q != m {
			t.Error(l, n, m, p, q)
		}
		x, _ := wordset.Product(l, other)
		if y, _ := wordset.Product(other, l); !same(x, y) {
			t.Error(l, x, y)
		}
		if !same(wordset.Union(l, other), wordset.Sorted(l)) {
			t.Error(l)
		}
	}
}

// P2.8: Prefixes and Maximal complete each other.
func TestPrefixesAndMaximal(t *testing.T) {
	for _, l := range samples() {
		if x := wordset.Prefixes(wordset.Maximal(l)); !same(x, wordset.Prefixes(l)) {
			t.Error(l, x)
		}
		if x := wordset.Maximal(wordset.Prefixes(l)); !same(x, wordset.Maximal(l)) {
			t.Error(l, x)
		}
	}
}

// P2.9: the number and the beginnings of the words of a product.
func TestProductBounds(t *testing.T) {
	for _, a := range samples() {
		for _, b := range samples() {
			x, _ := wordset.Product(a, b)
			if len(x) > len(wordset.Sorted(a))*len(wordset.Sorted(b)) {
				t.Fatal(a, b, x)
			}
			for _, w := range x {
				if !slices.ContainsFunc(a, func(p []int) bool { return word.HasPrefix(w, p) }) {
					t.Fatal(a, b, w)
				}
			}
		}
	}
}

// calls lists the functions that return lists, applied to two lists.
func calls() []func(a, b [][]int) [][]int {
	return []func(a, b [][]int) [][]int{
		func(a, b [][]int) [][]int { return wordset.Sorted(a) },
		func(a, b [][]int) [][]int { return wordset.Union(a, b) },
		func(a, b [][]int) [][]int { return wordset.Prefixes(a) },
		func(a, b [][]int) [][]int { return wordset.Suffixes(a) },
		func(a, b [][]int) [][]int { return wordset.Maximal(a) },
		func(a, b [][]int) [][]int { x, _ := wordset.Product(a, b); return x },
		func(a, b [][]int) [][]int { x, _ := wordset.Upto(2, 5); return x },
	}
}

// P2.1 to P2.5: arguments do not change, not even in their spare capacity.
func TestArguments(t *testing.T) {
	store := []int{3, 1, 2, 1, 0, 4, 4}
	list := [][]int{store[2:4], store[:0], store[:3], store[1:3], store[2:4], {9}, {8}}
	words := copied(list)
	for i, f := range calls() {
		f(list[:5], list[1:4])
		wordset.Size(list[:5])
		wordset.Has(list[:5], store[:2])
		if !same(list, words) || !slices.Equal(store, []int{3, 1, 2, 1, 0, 4, 4}) {
			t.Error(i, list, store)
		}
	}
}

// P2.1 to P2.5: the words of a result share memory neither with each other nor with an argument.
func TestResults(t *testing.T) {
	for i, f := range calls() {
		for _, l := range samples() {
			words := copied(l)
			x := f(l, l)
			want := copied(x)
			for j, w := range x {
				for k := range w {
					w[k]++
				}
				x[j] = append(w, 5)
			}
			for j, w := range want {
				for k := range w {
					w[k]++
				}
				want[j] = append(w, 5)
			}
			if !same(x, want) || !same(l, words) {
				t.Fatal(i, l, x, want)
			}
		}
	}
}
