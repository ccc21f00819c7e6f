package nondet_test

import (
	"math"
	"slices"
	"testing"

	"learner/api"
	"learner/nondet"
	"learner/random"
	"learner/word"
)

// list is a list of numbers: a word or an answer.
type list = []int

// votes returns the answer that Vote has to return, by counting in all beginnings of a list.
func votes(l [][]int, need int) ([]int, api.Errno) {
	if need < 1 || need > api.MaxVotes {
		return nil, api.ErrRange
	}
	for i, answer := range l {
		if occurrences(l[:i+1], answer) == need {
			return answer, api.OK
		}
	}
	return nil, api.ErrNondet
}

// occurrences returns how often an answer occurs.
func occurrences(l [][]int, answer []int) int {
	n := 0
	for _, other := range l {
		if slices.Equal(other, answer) {
			n++
		}
	}
	return n
}

// drawn returns random answers, with few different ones.
func drawn(state uint64) [][]int {
	var n, kinds, k int
	n, state, _ = random.Below(state, 25)
	kinds, state, _ = random.Below(state, 7)
	all := [][]int{{1, 2}, {1}, {}, {12}, {-1, 2}, {1, 2, 0}, {2, 1}}
	var l [][]int
	for range n {
		k, state, _ = random.Below(state, kinds+1)
		l = append(l, all[k])
	}
	return l
}

// P18.1: the first answer that occurs often enough.
func TestVote(t *testing.T) {
	a, b, c := list{1, 2}, list{1, 0}, list{}
	for i, x := range []struct {
		l    [][]int
		need int
		want []int
		e    api.Errno
	}{
		{[][]int{a}, 1, a, api.OK},
		{[][]int{c}, 1, c, api.OK},
		{[][]int{nil, {}}, 2, c, api.OK},
		{[][]int{a, b, b}, 1, a, api.OK},
		{[][]int{a, b, b, a}, 2, b, api.OK},
		{[][]int{a, b, a, b}, 2, a, api.OK},
		{[][]int{b, b, b, a, a, a, a}, 3, b, api.OK},
		{[][]int{a, b, c, a, b, a}, 3, a, api.OK},
		{[][]int{a, b, c, a, b, c, c}, 3, c, api.OK},
		{[][]int{b, c, a, a, a}, 3, a, api.OK},
		{[][]int{b, c, a, a}, 3, nil, api.ErrNondet},
		{[][]int{a, b}, 2, nil, api.ErrNondet},
		{[][]int{a, a}, 3, nil, api.ErrNondet},
		{nil, 1, nil, api.ErrNondet},
		{nil, api.MaxVotes, nil, api.ErrNondet},
		{slices.Repeat([][]int{a}, 9), 9, a, api.OK},
		{slices.Repeat([][]int{a}, 8), 9, nil, api.ErrNondet},
		{slices.Repeat([][]int{a, b, c}, 9), 9, a, api.OK},
		{append([][]int{a}, slices.Repeat([][]int{b}, 9)...), 9, b, api.OK},
		{slices.Repeat([][]int{a}, 10), 10, nil, api.ErrRange},
		{[][]int{a}, 0, nil, api.ErrRange},
		{nil, 0, nil, api.ErrRange},
		{[][]int{a}, -1, nil, api.ErrRange},
		{[][]int{a}, math.MaxInt, nil, api.ErrRange},
		{[][]int{a}, math.MinInt, nil, api.ErrRange},
	} {
		if w, e := nondet.Vote(x.l, x.need); !slices.Equal(w, x.want) || e != x.e {
			t.Errorf("case %d: Vote returns %v, %d", i, w, e)
		}
	}
}

// P18.1, P18.2: answers that look alike are different.
func TestAlike(t *testing.T) {
	l := [][]int{{1, 2}, {12}, {1, 2, 0}, {-1, 2}, {1, -2}, {2, 1}, {0}, {}, {0, 0}, {1, 20}, {11, 2}, {256}, {1, 0}, {1 << 32}, {math.MaxInt}, {math.MinInt}, {-1}}
	for i := range l {
		l[i] = append(slices.Clone(l[i]), 3)
		if w, e := nondet.Vote(append(slices.Clone(l[:i+1]), l[i]), 2); !slices.Equal(w, l[i]) || e != api.OK {
			t.Errorf("Vote for %v returns %v, %d", l[i], w, e)
		}
	}
	if w, e := nondet.Vote(l, 2); len(w) != 0 || e != api.ErrNondet {
		t.Error("Vote for different answers returns", w, e)
	}
	if all, counts := nondet.Distinct(l); len(all) != len(l) || slices.Max(counts) != 1 {
		t.Error("Distinct for different answers returns", all, counts)
	}
}

// P18.1, P18.5: random answers, for every number of votes.
func TestVotes(t *testing.T) {
	found := 0
	for state := range uint64(3000) {
		l := drawn(state)
		for need := -1; need <= api.MaxVotes+2; need++ {
			want, e := votes(l, need)
			w, f := nondet.Vote(l, need)
			if !slices.Equal(w, want) || f != e {
				t.Fatalf("Vote of %v for %d returns %v, %d", l, need, w, f)
			}
			if f == api.OK && occurrences(l, w) < need {
				t.Fatalf("%v does not occur %d times in %v", w, need, l)
			}
			if f == api.OK && need > 2 {
				found++
			}
		}
	}
	if found < 1000 {
		t.Error("only", found, "answers were found")
	}
}

// P18.5: equal answers.
func TestEqualAnswers(t *testing.T) {
	for n := range 12 {
		for _, answer := range [][]int{{}, {0}, {3, -1}} {
			for need := 1; need <= api.MaxVotes; need++ {
				w, e := nondet.Vote(slices.Repeat([][]int{answer}, n), need)
				if n >= need && (!slices.Equal(w, answer) || e != api.OK) || n < need && (len(w) != 0 || e != api.ErrNondet) {
					t.Errorf("Vote of %d answers %v for %d returns %v, %d", n, answer, need, w, e)
				}
			}
		}
	}
}

// P18.2: the order of answers, and how often they occur.
func TestDistinct(t *testing.T) {
	for _, c := range []struct {
		l, want [][]int
		counts  []int
	}{
		{nil, nil, nil},
		{[][]int{{}}, [][]int{{}}, list{1}},
		{[][]int{nil, {}, nil}, [][]int{{}}, list{3}},
		{[][]int{{0, 0}, {1}, {0}, {0, 0}, {}}, [][]int{{}, {0}, {1}, {0, 0}}, list{1, 1, 1, 2}},
		{[][]int{{2, 1}, {1, 2}, {-1, 3}, {1, 2}, {1, 2}}, [][]int{{-1, 3}, {1, 2}, {2, 1}}, list{1, 3, 1}},
		{[][]int{{math.MaxInt}, {math.MinInt}, {0}, {math.MinInt}}, [][]int{{math.MinInt}, {0}, {math.MaxInt}}, list{2, 1, 1}},
	} {
		if w, n := nondet.Distinct(c.l); !slices.EqualFunc(w, c.want, slices.Equal) || !slices.Equal(n, c.counts) {
			t.Errorf("Distinct of %v returns %v, %v", c.l, w, n)
		}
	}
}

// P18.2: random answers.
func TestDistinctRandom(t *testing.T) {
	for state := range uint64(1000) {
		l := drawn(state)
		w, n := nondet.Distinct(l)
		sum := 0
		for i := range w {
			sum += n[i]
			if n[i] != occurrences(l, w[i]) || i > 0 && word.Compare(w[i-1], w[i]) >= 0 {
				t.Fatalf("Distinct of %v returns %v, %v", l, w, n)
			}
		}
		if sum != len(l) || len(w) != len(n) {
			t.Fatalf("Distinct of %v returns %v, %v", l, w, n)
		}
	}
}

// The first example of the chapter.
func TestExampleVote(t *testing.T) {
	l := [][]int{{1, 2}, {1, 0}, {1, 2}, {1, 0}}
	if w, e := nondet.Vote(l, 2); !slices.Equal(w, list{1, 2}) || e != api.OK {
		t.Error(w, e)
	}
	if w, n := nondet.Distinct(l); !slices.EqualFunc(w, [][]int{{1, 0}, {1, 2}}, slices.Equal) || !slices.Equal(n, list{2, 2}) {
		t.Error(w, n)
	}
}

// R5: arguments do not change, and results are new memory.
func TestAnswersMemory(t *testing.T) {
	sample := func() [][]int { return [][]int{{1, 2}, {0}, {1, 2}, {-5, 4, 3}} }
	l := sample()
	w, _ := nondet.Vote(l, 2)
	all, n := nondet.Distinct(l)
	w[0], w[1] = 8, 9
	for i := range all {
		for j := range all[i] {
			all[i][j] = 10 + i
		}
		n[i] = 20
		all[i] = append(all[i], 30+i)
	}
	if !slices.EqualFunc(l, sample(), slices.Equal) {
		t.Error("the answers have become", l)
	}
	if !slices.EqualFunc(all, [][]int{{10, 30}, {11, 11, 31}, {12, 12, 12, 32}}, slices.Equal) {
		t.Error("lists of the result share memory:", all)
	}
}
