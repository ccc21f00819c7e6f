package hypothesis_test

import (
	"slices"
	"testing"

	"learner/api"
	"learner/equiv"
	"learner/hypothesis"
	"learner/mealy"
	"learner/minimize"
	"learner/observe"
	"learner/random"
	"learner/word"
	"learner/wordset"
)

// P22.4: the first word that shows a difference.
func TestApart(t *testing.T) {
	small := obs(2, trace([]int{1}, []int{0}), trace([]int{0, 1}, []int{1, 2}))
	// Three words are answered both at first and after 0; those of two symbols are before that of three, wherever the traces are.
	rich := obs(2, trace([]int{1, 1}, []int{0, 5}), trace([]int{0, 0, 1}, []int{1, 1, 4}), trace([]int{0, 1, 1}, []int{1, 0, 6}), trace([]int{0, 0, 0, 1}, []int{1, 1, 1, 7}))
	long := obs(2, trace(make([]int, api.MaxWord), append(slices.Repeat([]int{1}, api.MaxWord-1), 0)))
	for i, c := range []struct {
		o    api.Obs
		u, v []int
		want []int
	}{
		{obs(2), nil, nil, nil},
		{obs(2), nil, []int{0}, nil},
		{small, nil, nil, nil},
		{small, nil, []int{0}, []int{1}},
		{small, []int{0}, nil, []int{1}},
		{small, []int{0}, []int{0}, nil},
		{small, nil, []int{1}, nil},
		{small, []int{0}, []int{1}, nil},
		{small, []int{0, 1}, nil, nil},
		{small, []int{0, 1}, []int{1}, nil},
		{rich, nil, []int{0}, []int{0, 1}},
		{rich, []int{0}, nil, []int{0, 1}},
		{rich, []int{0, 0}, nil, []int{1}},
		{rich, []int{0, 0}, []int{1}, []int{1}},
		{rich, []int{0, 1}, []int{0, 0, 0}, []int{1}},
		{rich, []int{1}, []int{0, 1}, []int{1}},
		{rich, []int{1}, []int{0}, []int{1}},
		{rich, []int{0}, []int{0, 0}, []int{1}},
		{long, nil, []int{0}, make([]int, api.MaxWord-1)},
		{long, []int{0, 0}, make([]int, api.MaxWord-1), []int{0}},
		{long, []int{0, 0}, make([]int, api.MaxWord), nil},
		{long, make([]int, api.MaxWord-2), make([]int, api.MaxWord-1), []int{0}},
		// u and v can be any lists of numbers.
		{small, []int{2}, nil, nil},
		{small, []int{-1}, []int{0, -1}, nil},
		{small, nil, make([]int, 2*api.MaxWord), nil},
	} {
		w, ok := hypothesis.Apart(c.o, c.u, c.v)
		if observe.Valid(c.o) != api.OK || !slices.Equal(w, c.want) || ok != (c.want != nil) {
			t.Errorf("case %d: Apart returns %v, %t", i, w, ok)
		}
	}
}

// firstApart returns the first word that shows that two words are apart, by trying all words.
func firstApart(o api.Obs, u, v []int, all [][]int) ([]int, bool) {
	for _, x := range all {
		first, known := observe.Answer(o, word.Join(u, x))
		second, answered := observe.Answer(o, word.Join(v, x))
		if known && answered && !slices.Equal(first[len(u):], second[len(v):]) {
			return x, true
		}
	}
	return nil, false
}

// observed returns observations of a random machine, the machine, and some words of which many are answered.
func observed(state uint64) (api.Obs, api.Mealy, [][]int) {
	inputs := 1 + int(state%3)
	m, next := drawn(state, inputs, 1+int(state%6))
	o, _ := observe.Of(m, drawnWords(next, inputs, int(state%23), 5))
	words := drawnWords(next, inputs, int(state%7), 3)
	return o, m, append(words, drawnWords(next+99, inputs, 4, 4)...)
}

// P22.4, P22.7: random observations. Words that are apart reach states that are not equivalent.
func TestAparts(t *testing.T) {
	apart, alike := 0, 0
	for state := range uint64(400) {
		o, m, words := observed(state)
		all, _ := wordset.Upto(o.Inputs, 5)
		for _, u := range words {
			for _, v := range words {
				x, ok := hypothesis.Apart(o, u, v)
				want, found := firstApart(o, u, v, all)
				if !slices.Equal(x, want) || ok != found {
					t.Fatalf("Apart of %v and %v in %v returns %v, %t, not %v, %t", u, v, o, x, ok, want, found)
				}
				if !ok {
					alike++
					continue
				}
				apart++
				_, s, _ := mealy.From(m, m.Start, u)
				_, r, _ := mealy.From(m, m.Start, v)
				if _, separated, _ := equiv.States(m, s, r); !separated {
					t.Fatalf("%v and %v are apart in %v, but reach equivalent states of %v", u, v, o, m)
				}
			}
		}
	}
	if apart < 1000 || alike < 1000 {
		t.Error(apart, "pairs of words are apart,", alike, "are not")
	}
}

// P22.4: observations of no machine with few states, with many different outputs.
func TestApartTree(t *testing.T) {
	for state := range uint64(200) {
		o := obs(2)
		for i, w := range drawnWords(state, 2, 12, 6) {
			answer, _ := observe.Answer(o, w[:observe.Known(o, w)])
			rest, _, _ := random.Word(state+uint64(i), 2, len(w)-len(answer))
			o, _ = observe.Add(o, trace(w, slices.Concat(answer, rest)))
		}
		all, _ := wordset.Upto(2, 6)
		for _, u := range all[:15] {
			for _, v := range all[:15] {
				x, ok := hypothesis.Apart(o, u, v)
				if want, found := firstApart(o, u, v, all); !slices.Equal(x, want) || ok != found {
					t.Fatalf("Apart of %v and %v in %v returns %v, %t, not %v, %t", u, v, o, x, ok, want, found)
				}
			}
		}
	}
}

// P22.5: the words are kept in their order, if they are apart from all words that have been kept.
func TestLower(t *testing.T) {
	small := obs(2, trace([]int{1}, []int{0}), trace([]int{0, 1}, []int{1, 2}))
	// In this tree the words 0 and 0 0 are apart, and neither of them is apart from 1.
	order := obs(2, trace([]int{0, 1}, []int{6, 7}), trace([]int{1, 0}, []int{5, 6}), trace([]int{0, 0, 1}, []int{6, 6, 8}))
	for i, c := range []struct {
		o     api.Obs
		words [][]int
		want  int
	}{
		{small, nil, 0},
		{obs(2), nil, 0},
		{obs(2), [][]int{nil}, 1},
		{obs(2), [][]int{{0}, nil, {1}}, 1},
		{small, [][]int{nil, {0}}, 2},
		{small, [][]int{{0}, nil}, 2},
		{small, [][]int{nil, {0}, {1}}, 2},
		{small, [][]int{{1}, nil, {0}}, 1},
		{small, [][]int{nil, nil, {0}, {0}, nil}, 2},
		{small, [][]int{{-1}, nil, {0}}, 1},
		{small, [][]int{nil, {7, 7}, {0}}, 2},
		{order, [][]int{{0}, {0, 0}, {1}}, 2},
		{order, [][]int{{1}, {0}, {0, 0}}, 1},
		{order, [][]int{{0}, {1}, {0, 0}}, 2},
		{order, [][]int{nil, {0}, {0, 0}}, 3},
	} {
		if n := hypothesis.Lower(c.o, c.words); observe.Valid(c.o) != api.OK || n != c.want {
			t.Errorf("case %d: Lower returns %d", i, n)
		}
	}
}

// P22.5, P22.7: random observations. The machine has at least so many states, also the minimal one.
func TestLowers(t *testing.T) {
	sum := 0
	for state := range uint64(600) {
		o, m, words := observed(state)
		all, _ := wordset.Upto(o.Inputs, 5)
		var kept [][]int
		for _, w := range words {
			alike := func(k []int) bool { _, ok := firstApart(o, k, w, all); return !ok }
			if !slices.ContainsFunc(kept, alike) {
				kept = append(kept, w)
			}
		}
		n := hypothesis.Lower(o, words)
		if n != len(kept) {
			t.Fatalf("Lower of %v in %v returns %d, not %d: %v", words, o, n, len(kept), kept)
		}
		if least, _ := minimize.Min(m); n > len(least.Next) {
			t.Fatalf("Lower of %v in %v returns %d, but there is the machine %v", words, o, n, least)
		}
		sum += n
	}
	if sum < 800 {
		t.Error("the sum of the bounds is only", sum)
	}
}

// P22.5: many words and traces in a reasonable time.
func TestLowerMost(t *testing.T) {
	m := api.Mealy{Inputs: 8}
	for s := range api.MaxStates {
		next, _, _ := random.Word(uint64(s), api.MaxStates, 8)
		out, _, _ := random.Word(uint64(1000+s), 3, 8)
		m.Next, m.Out = append(m.Next, next), append(m.Out, out)
	}
	var words [][]int
	for i := range api.MaxWords {
		w, _, _ := random.Word(uint64(i), 8, 9)
		words = append(words, w)
	}
	o, e := observe.Of(m, words)
	if e != api.OK {
		t.Fatal(e)
	}
	if n := hypothesis.Lower(o, wordset.Prefixes(words)[:api.MaxWords]); n < 20 || n > api.MaxStates {
		t.Error("Lower returns", n)
	}
}
