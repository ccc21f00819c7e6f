package word_test

import (
	"math"
	"slices"
	"testing"

	"learner/api"
	"learner/word"
)

// repeat returns a word of n equal symbols.
func repeat(symbol, n int) []int {
	return slices.Repeat([]int{symbol}, n)
}

// P1.1: the permitted sizes, lengths and symbols, and the order of the errors.
func TestCheck(t *testing.T) {
	long := repeat(0, api.MaxWord+1)
	for i, c := range []struct {
		w      []int
		inputs int
		want   api.Errno
	}{
		{nil, 1, api.OK},
		{[]int{}, api.MaxLetters, api.OK},
		{[]int{0, 1, 2, 1}, 3, api.OK},
		{[]int{api.MaxLetters - 1}, api.MaxLetters, api.OK},
		{repeat(1, api.MaxWord), 2, api.OK},
		{nil, 0, api.ErrRange},
		{nil, -1, api.ErrRange},
		{nil, math.MinInt, api.ErrRange},
		{nil, api.MaxLetters + 1, api.ErrRange},
		{nil, math.MaxInt, api.ErrRange},
		{long, 1, api.ErrTooLong},
		{[]int{0, 3}, 3, api.ErrInvalid},
		{[]int{-1, 0}, 3, api.ErrInvalid},
		{[]int{1, math.MaxInt}, 3, api.ErrInvalid},
		{[]int{1, math.MinInt}, 3, api.ErrInvalid},
		{append(repeat(0, api.MaxWord-1), 1), 1, api.ErrInvalid},
		{long, 0, api.ErrRange},
		{[]int{7}, 0, api.ErrRange},
		{repeat(7, api.MaxWord+1), 2, api.ErrTooLong},
	} {
		if e := word.Check(c.w, c.inputs); e != c.want {
			t.Errorf("case %d: Check returns %d, not %d", i, e, c.want)
		}
	}
}

// P1.2: shortlex order and dictionary order, for all elements.
func TestCompareAndLex(t *testing.T) {
	for i, c := range []struct {
		a, b         []int
		compare, lex int
	}{
		{nil, nil, 0, 0},
		{nil, []int{}, 0, 0},
		{nil, []int{0}, -1, -1},
		{nil, []int{-5}, -1, -1},
		{[]int{1}, []int{0, 0}, -1, 1},
		{[]int{0, 1}, []int{1, 0}, -1, -1},
		{[]int{0, 1, 9}, []int{0, 2, 0}, -1, -1},
		{[]int{2, 5}, []int{2, 5, 0}, -1, -1},
		{[]int{2, 5}, []int{2, 5}, 0, 0},
		{[]int{2, 6}, []int{2, 5, 7}, -1, 1},
		{[]int{-1}, []int{0}, -1, -1},
		{[]int{math.MinInt}, []int{math.MaxInt}, -1, -1},
		{[]int{math.MinInt, 1}, []int{1, math.MinInt}, -1, -1},
	} {
		if x, y := word.Compare(c.a, c.b), word.Compare(c.b, c.a); x != c.compare || y != -c.compare {
			t.Errorf("case %d: Compare returns %d, and %d for the reverse", i, x, y)
		}
		if x, y := word.Lex(c.a, c.b), word.Lex(c.b, c.a); x != c.lex || y != -c.lex {
			t.Errorf("case %d: Lex returns %d, and %d for the reverse", i, x, y)
		}
	}
}

// P1.3: the elements of all parts in their order.
func TestJoin(t *testing.T) {
	for i, c := range []struct {
		parts [][]int
		want  []int
	}{
		{nil, nil},
		{[][]int{nil, {}}, nil},
		{[][]int{{3}}, []int{3}},
		{[][]int{{1}, nil, {2, 3}, {1}}, []int{1, 2, 3, 1}},
		{[][]int{{-4, math.MaxInt}, {math.MinInt}}, []int{-4, math.MaxInt, math.MinInt}},
	} {
		if w := word.Join(c.parts...); !slices.Equal(w, c.want) {
			t.Errorf("case %d: Join returns %v", i, w)
		}
	}
	if w := word.Join(repeat(1, 3*api.MaxWord), []int{2}); len(w) != 3*api.MaxWord+1 || w[3*api.MaxWord] != 2 {
		t.Error("Join of long parts has", len(w), "elements")
	}
}

// P1.3: the result is new memory, and the spare capacity of a part is not used.
func TestJoinMemory(t *testing.T) {
	store := []int{1, 2, 3, 4}
	part := store[:2]
	joined := word.Join(part, []int{9})
	alone := word.Join(part)
	joined[0], alone[0] = 7, 8
	if !slices.Equal(store, []int{1, 2, 3, 4}) {
		t.Error("the argument has become", store)
	}
}

// P1.4: prefixes.
func TestHasPrefix(t *testing.T) {
	for i, c := range []struct {
		w, p []int
		want bool
	}{
		{nil, nil, true},
		{[]int{1, 2}, nil, true},
		{[]int{1, 2}, []int{1}, true},
		{[]int{1, 2}, []int{1, 2}, true},
		{[]int{1, 2}, []int{1, 2, 3}, false},
		{[]int{1, 2}, []int{2}, false},
		{[]int{1, 2, 3}, []int{1, 3}, false},
		{[]int{0}, []int{0, 0}, false},
		{nil, []int{0}, false},
		{[]int{-1, 5}, []int{-1}, true},
	} {
		if x := word.HasPrefix(c.w, c.p); x != c.want {
			t.Errorf("case %d: HasPrefix returns %t", i, x)
		}
	}
}

// P1.4: the longest common prefix.
func TestCommon(t *testing.T) {
	for i, c := range []struct {
		a, b []int
		want int
	}{
		{nil, nil, 0},
		{nil, []int{1}, 0},
		{[]int{1, 2, 3}, []int{1, 2, 3}, 3},
		{[]int{1, 2, 3}, []int{1, 2}, 2},
		{[]int{1, 2, 3}, []int{1, 0, 3}, 1},
		{[]int{1, 2}, []int{2, 2}, 0},
		{[]int{-1, 4}, []int{-1, 5}, 1},
	} {
		if x, y := word.Common(c.a, c.b), word.Common(c.b, c.a); x != c.want || y != c.want {
			t.Errorf("case %d: Common returns %d, and %d for the reverse", i, x, y)
		}
	}
}

// P1.5: the following word, up to the last word of MaxWord symbols.
func TestNext(t *testing.T) {
	for i, c := range []struct {
		w      []int
		inputs int
		want   []int
	}{
		{nil, 1, []int{0}},
		{nil, 5, []int{0}},
		{[]int{0}, 1, []int{0, 0}},
		{[]int{0, 1}, 2, []int{1, 0}},
		{[]int{1, 1}, 2, []int{0, 0, 0}},
		{[]int{1, 1}, 3, []int{1, 2}},
		{[]int{0, 2, 2}, 3, []int{1, 0, 0}},
		{[]int{api.MaxLetters - 1}, api.MaxLetters, []int{0, 0}},
		{repeat(0, api.MaxWord-1), 1, repeat(0, api.MaxWord)},
		{repeat(1, api.MaxWord-1), 2, repeat(0, api.MaxWord)},
		{repeat(0, api.MaxWord), 2, append(repeat(0, api.MaxWord-1), 1)},
		{append([]int{0}, repeat(1, api.MaxWord-1)...), 2, append([]int{1}, repeat(0, api.MaxWord-1)...)},
	} {
		if w, ok := word.Next(c.w, c.inputs); !ok || !slices.Equal(w, c.want) {
			t.Errorf("case %d: Next returns %v, %t", i, w, ok)
		}
	}
}

// P1.5: where there is no following word.
func TestNextFails(t *testing.T) {
	for i, c := range []struct {
		w      []int
		inputs int
	}{
		{nil, 0},
		{nil, -3},
		{nil, api.MaxLetters + 1},
		{[]int{3}, 3},
		{[]int{-1}, 3},
		{repeat(0, api.MaxWord+1), 2},
		{repeat(0, api.MaxWord), 1},
		{repeat(1, api.MaxWord), 2},
	} {
		if w, ok := word.Next(c.w, c.inputs); ok || len(w) != 0 {
			t.Errorf("case %d: Next returns %v, %t", i, w, ok)
		}
	}
}

// P1.5: the argument does not change, and the result is new memory.
func TestNextMemory(t *testing.T) {
	store := []int{1, 1, 5, 5}
	for _, w := range [][]int{store[:2], store[:1]} {
		next, _ := word.Next(w, 2)
		next[0] = 9
		if !slices.Equal(store, []int{1, 1, 5, 5}) {
			t.Error("the argument has become", store)
		}
	}
}

// P1.6: numbers of words, up to 2^62.
func TestRank(t *testing.T) {
	high := repeat(0, 62)
	high[61] = 1
	for i, c := range []struct {
		w      []int
		inputs int
		want   int
	}{
		{nil, 1, 0},
		{nil, api.MaxLetters, 0},
		{[]int{0, 0, 0}, 1, 3},
		{repeat(0, api.MaxWord), 1, api.MaxWord},
		{[]int{1, 0}, 2, 5},
		{[]int{1, 1}, 3, 8},
		{[]int{2, 2}, 3, 12},
		{[]int{api.MaxLetters - 1}, api.MaxLetters, api.MaxLetters},
		{[]int{0, 0}, api.MaxLetters, api.MaxLetters + 1},
		{repeat(1, 61), 2, 1<<62 - 2},
		{repeat(0, 62), 2, 1<<62 - 1},
		{high, 2, 1 << 62},
	} {
		if n, e := word.Rank(c.w, c.inputs); n != c.want || e != api.OK {
			t.Errorf("case %d: Rank returns %d, %d", i, n, e)
		}
	}
}

// P1.6: the errors and their order.
func TestRankFails(t *testing.T) {
	above := repeat(0, 62)
	above[60] = 1
	for i, c := range []struct {
		w      []int
		inputs int
		want   api.Errno
	}{
		{nil, 0, api.ErrRange},
		{[]int{1}, api.MaxLetters + 1, api.ErrRange},
		{repeat(0, api.MaxWord+1), 1, api.ErrTooLong},
		{[]int{2}, 2, api.ErrInvalid},
		{[]int{-1}, 2, api.ErrInvalid},
		{above, 2, api.ErrOverflow},
		{repeat(0, 63), 2, api.ErrOverflow},
		{repeat(0, 64), 2, api.ErrOverflow},
		{repeat(1, api.MaxWord), 2, api.ErrOverflow},
		{repeat(0, 8), api.MaxLetters, api.ErrOverflow},
		{repeat(api.MaxLetters-1, api.MaxWord), api.MaxLetters, api.ErrOverflow},
		{append(repeat(0, 100), 2), 2, api.ErrInvalid},
	} {
		if n, e := word.Rank(c.w, c.inputs); n != 0 || e != c.want {
			t.Errorf("case %d: Rank returns %d, %d", i, n, e)
		}
	}
}

// P1.6: the border of the overflow, for a size that is no power of 2.
func TestRankBorder(t *testing.T) {
	for _, inputs := range []int{2, 3, 7, 10, 1000, api.MaxLetters} {
		last, e := word.Unrank(1<<62, inputs)
		if e != api.OK {
			t.Fatal(inputs, e)
		}
		if n, e := word.Rank(last, inputs); n != 1<<62 || e != api.OK {
			t.Error(inputs, n, e)
		}
		after, _ := word.Next(last, inputs)
		if n, e := word.Rank(after, inputs); n != 0 || e != api.ErrOverflow {
			t.Error(inputs, n, e)
		}
	}
}

// P1.7: words of numbers.
func TestUnrank(t *testing.T) {
	for i, c := range []struct {
		n, inputs int
		want      []int
	}{
		{0, 1, nil},
		{0, api.MaxLetters, nil},
		{3, 1, []int{0, 0, 0}},
		{api.MaxWord, 1, repeat(0, api.MaxWord)},
		{1, 2, []int{0}},
		{2, 2, []int{1}},
		{3, 2, []int{0, 0}},
		{4, 2, []int{0, 1}},
		{5, 2, []int{1, 0}},
		{6, 2, []int{1, 1}},
		{8, 3, []int{1, 1}},
		{api.MaxLetters + 1, api.MaxLetters, []int{0, 0}},
		{1<<62 - 1, 2, repeat(0, 62)},
		{math.MaxInt - 1, 2, repeat(1, 62)},
		{math.MaxInt, 2, repeat(0, 63)},
	} {
		if w, e := word.Unrank(c.n, c.inputs); !slices.Equal(w, c.want) || e != api.OK {
			t.Errorf("case %d: Unrank returns %v, %d", i, w, e)
		}
	}
}

// P1.7: the errors and their order.
func TestUnrankFails(t *testing.T) {
	for i, c := range []struct {
		n, inputs int
		want      api.Errno
	}{
		{-1, 2, api.ErrRange},
		{math.MinInt, 1, api.ErrRange},
		{0, 0, api.ErrRange},
		{0, -1, api.ErrRange},
		{5, api.MaxLetters + 1, api.ErrRange},
		{math.MaxInt, 0, api.ErrRange},
		{api.MaxWord + 1, 1, api.ErrTooLong},
		{math.MaxInt, 1, api.ErrTooLong},
	} {
		if w, e := word.Unrank(c.n, c.inputs); len(w) != 0 || e != c.want {
			t.Errorf("case %d: Unrank returns %v, %d", i, w, e)
		}
	}
}

// lists returns all lists of at most three elements that are among the given ones.
func lists(elements ...int) [][]int {
	all := [][]int{{}}
	for i := 0; len(all[i]) < 3; i++ {
		for _, x := range elements {
			all = append(all, append(slices.Clone(all[i]), x))
		}
	}
	return all
}

// P1.8: both orders are total orders.
func TestOrdersAreTotal(t *testing.T) {
	all := lists(math.MinInt, 0, 7)
	for _, order := range []func(a, b []int) int{word.Compare, word.Lex} {
		for _, a := range all {
			for _, b := range all {
				if x := order(a, b); x != -order(b, a) || x < -1 || x > 1 || (x == 0) != slices.Equal(a, b) {
					t.Fatal(a, b, x)
				}
				for _, c := range all {
					if order(a, b) < 0 && order(b, c) < 0 && order(a, c) >= 0 {
						t.Fatal(a, b, c)
					}
				}
			}
		}
	}
}

// P1.8: prefixes are not after a list, and what both lists begin with does not matter.
func TestOrdersAndPrefixes(t *testing.T) {
	all := lists(-2, 0, 3)
	for _, order := range []func(a, b []int) int{word.Compare, word.Lex} {
		for _, a := range all {
			for n := range len(a) + 1 {
				if order(a[:n], a) > 0 {
					t.Fatal(a, n)
				}
			}
			for _, b := range all {
				for _, c := range all {
					if order(word.Join(c, a), word.Join(c, b)) != order(a, b) {
						t.Fatal(a, b, c)
					}
				}
			}
		}
	}
}

// P1.9: Next, Rank and Unrank enumerate the words in the same order.
func TestNumbers(t *testing.T) {
	for _, inputs := range []int{1, 2, 3, 5, 64, api.MaxLetters} {
		var w []int
		for n := range 1000 {
			if r, e := word.Rank(w, inputs); r != n || e != api.OK {
				t.Fatal(inputs, n, w, r, e)
			}
			if u, e := word.Unrank(n, inputs); !slices.Equal(u, w) || e != api.OK {
				t.Fatal(inputs, n, w, u, e)
			}
			next, ok := word.Next(w, inputs)
			if !ok || word.Compare(w, next) != -1 {
				t.Fatal(inputs, n, w, next, ok)
			}
			w = next
		}
	}
}

// P1.9: the same for great numbers.
func TestGreatNumbers(t *testing.T) {
	for _, inputs := range []int{2, 3, 10, 64, api.MaxLetters} {
		for n := 1; n < 1<<61; n = 3*n + 1 {
			w, e := word.Unrank(n, inputs)
			if e != api.OK {
				t.Fatal(inputs, n, e)
			}
			next, _ := word.Next(w, inputs)
			r, e := word.Rank(w, inputs)
			s, f := word.Rank(next, inputs)
			if r != n || s != n+1 || e != api.OK || f != api.OK || word.Compare(w, next) != -1 {
				t.Fatal(inputs, n, w, next, r, s, e, f)
			}
		}
	}
}
