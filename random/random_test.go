package random_test

import (
	"math"
	"slices"
	"testing"

	"learner/api"
	"learner/random"
)

// step is what a state increases by with each number.
const step uint64 = 0x9e3779b97f4a7c15

// The states of which the random numbers are 2^64 - 1, and 0.
const (
	beforeGreatest uint64 = 0x31628af67b2131ab
	beforeZero     uint64 = 0x61c8864680b583eb
)

// P4.1: the random numbers and the next states, also when sums exceed 64 bits.
func TestNext(t *testing.T) {
	for _, c := range []struct{ state, want, next uint64 }{
		{0, 0xe220a8397b1dcdaf, step},
		{step, 0x6e789e6aa1b965f4, 0x3c6ef372fe94f82a},
		{1, 0x910a2dec89025cc1, 0x9e3779b97f4a7c16},
		{7, 0x63cbe1e459320dd7, 0x9e3779b97f4a7c1c},
		{math.MaxUint64, 0xe4d971771b652c20, 0x9e3779b97f4a7c14},
		{0x123456789abcdef, 0x157a3807a48faa9d, 0x9f5abf2108f64a04},
		{beforeGreatest, math.MaxUint64, 0xcf9a04affa6badc0},
		{beforeZero, 0, 0},
	} {
		if x, next := random.Next(c.state); x != c.want || next != c.next {
			t.Errorf("Next of %x returns %x, %x", c.state, x, next)
		}
	}
}

// P4.2: numbers below n, of which those from the incomplete last section are rejected.
func TestBelow(t *testing.T) {
	for _, c := range []struct {
		state uint64
		n     int
		want  int
		draws uint64
	}{
		{0, 1, 0, 1},
		{0, 2, 1, 1},
		{0, 16, 15, 1},
		{0, 1 << 31, 0x7b1dcdaf, 1},
		{5, 100, 18, 1},
		{beforeZero, 3, 0, 1},
		{beforeGreatest, 1, 0, 1},
		{beforeGreatest, 64, 63, 1},
		{beforeGreatest, 1 << 31, 1<<31 - 1, 1},
		{beforeGreatest, 3, 1, 2},
		{beforeGreatest, 6, 1, 2},
		{beforeGreatest, 1000, 0x341, 2},
		{beforeGreatest, 1<<31 - 1, 0x1470290d, 2},
		{0x4f10d6ffa9921217, 3, 2, 1},                  // 2^64 - 2
		{0x64b7f4bac4d723af, 6, 5, 2},                  // 2^64 - 4
		{0x5442b434b3b500c2, 6, 5, 1},                  // 2^64 - 5
		{0x64b7f4bac4d723af, 1<<31 - 1, 0x67e4dd5a, 2}, // 2^64 - 4
		{0x5442b434b3b500c2, 1<<31 - 1, 1<<31 - 2, 1},  // 2^64 - 5
		{0x2cf1a672279fe79b, 1000, 0xcd, 2},            // 2^64 - 616
		{0x55872fd9d26adced, 1000, 999, 1},             // 2^64 - 617
	} {
		x, next, e := random.Below(c.state, c.n)
		if x != c.want || next != c.state+c.draws*step || e != api.OK {
			t.Errorf("Below of %x and %d returns %d, %x, %d", c.state, c.n, x, next, e)
		}
	}
}

// P4.2: the numbers below which nothing is drawn.
func TestBelowErrors(t *testing.T) {
	for _, n := range []int{0, -1, math.MinInt, 1<<31 + 1, math.MaxInt} {
		if x, next, e := random.Below(1, n); x != 0 || next != 0 || e != api.ErrRange {
			t.Errorf("Below of %d returns %d, %x, %d", n, x, next, e)
		}
	}
}

// P4.3: words of symbols that are drawn in order.
func TestWord(t *testing.T) {
	for i, c := range []struct {
		state     uint64
		inputs, n int
		want      []int
		draws     uint64
	}{
		{0, 16, 4, []int{15, 4, 15, 12}, 4},
		{42, 10, 12, []int{3, 1, 8, 4, 0, 2, 5, 8, 5, 4, 7, 6}, 12},
		{1, api.MaxLetters, 5, []int{193, 103, 350, 267, 441}, 5},
		{1, 1, 3, []int{0, 0, 0}, 3},
		{beforeGreatest, 3, 4, []int{1, 2, 0, 1}, 5},
		{9, 2, 0, nil, 0},
	} {
		w, next, e := random.Word(c.state, c.inputs, c.n)
		if !slices.Equal(w, c.want) || next != c.state+c.draws*step || e != api.OK {
			t.Errorf("case %d: Word returns %v, %x, %d", i, w, next, e)
		}
	}
	if w, _, e := random.Word(8, api.MaxLetters, api.MaxWord); len(w) != api.MaxWord || e != api.OK {
		t.Errorf("Word of the greatest length returns %d symbols, %d", len(w), e)
	}
}

// P4.3: the sizes and lengths that are not permitted.
func TestWordErrors(t *testing.T) {
	for _, c := range [][2]int{
		{0, 1}, {0, 0}, {-1, 1}, {math.MinInt, 1}, {api.MaxLetters + 1, 1}, {math.MaxInt, 1},
		{2, -1}, {2, math.MinInt}, {2, api.MaxWord + 1}, {2, math.MaxInt}, {0, -1},
	} {
		if w, next, e := random.Word(1, c[0], c[1]); len(w) != 0 || next != 0 || e != api.ErrRange {
			t.Errorf("Word of %v returns %v, %x, %d", c, w, next, e)
		}
	}
}

// P4.4: permutations from exchanges, of the last element first.
func TestShuffle(t *testing.T) {
	for i, c := range []struct {
		state uint64
		n     int
		want  []int
		draws uint64
	}{
		{3, 0, nil, 0},
		{3, 1, []int{0}, 0},
		{0, 2, []int{0, 1}, 1},
		{0, 8, []int{2, 5, 0, 3, 4, 6, 1, 7}, 7},
		{99, 5, []int{4, 2, 1, 0, 3}, 4},
		{beforeGreatest, 3, []int{2, 0, 1}, 3},
	} {
		list, next, e := random.Shuffle(c.state, c.n)
		if !slices.Equal(list, c.want) || next != c.state+c.draws*step || e != api.OK {
			t.Errorf("case %d: Shuffle returns %v, %x, %d", i, list, next, e)
		}
	}
	for _, n := range []int{-1, math.MinInt, api.MaxWords + 1, math.MaxInt} {
		if list, next, e := random.Shuffle(3, n); len(list) != 0 || next != 0 || e != api.ErrRange {
			t.Errorf("Shuffle of %d returns %d elements, %x, %d", n, len(list), next, e)
		}
	}
}

// P4.5: indices by weights. From the state 0, a number below 16 is 15; from the state 5, one below 100 is 18.
func TestChoose(t *testing.T) {
	for i, c := range []struct {
		state   uint64
		weights []int
		want    int
		draws   uint64
	}{
		{0, []int{1, 1}, 1, 1},
		{0, []int{3, 0, 13}, 2, 1},
		{0, []int{16}, 0, 1},
		{0, []int{0, 16}, 1, 1},
		{0, []int{16, 0}, 0, 1},
		{0, []int{15, 1}, 1, 1},
		{0, []int{15, 0, 0, 1, 0}, 3, 1},
		{5, []int{10, 20, 30, 40}, 1, 1},
		{5, []int{18, 1, 81}, 1, 1},
		{5, []int{19, 81}, 0, 1},
		{5, []int{0, 18, 82}, 2, 1},
		{beforeGreatest, []int{1, 1, 1}, 1, 2},
		{beforeGreatest, []int{1 << 30, 0, 1 << 30}, 2, 1},
		{beforeGreatest, []int{1 << 31}, 0, 1},
		{beforeZero, []int{0, 0, 1 << 31, 0}, 2, 1},
	} {
		x, next, e := random.Choose(c.state, c.weights)
		if x != c.want || next != c.state+c.draws*step || e != api.OK {
			t.Errorf("case %d: Choose returns %d, %x, %d", i, x, next, e)
		}
	}
}

// P4.5: the errors and their order; the sum may be greater than an int.
func TestChooseErrors(t *testing.T) {
	for i, c := range []struct {
		weights []int
		want    api.Errno
	}{
		{nil, api.ErrRange},
		{[]int{0, 0}, api.ErrRange},
		{[]int{1 << 31, 1}, api.ErrRange},
		{[]int{1, 1 << 31}, api.ErrRange},
		{[]int{1<<31 + 1, 0}, api.ErrRange},
		{[]int{1 << 30, 1 << 30, 1, 0, 0}, api.ErrRange},
		{[]int{math.MaxInt}, api.ErrRange},
		{[]int{math.MaxInt, math.MaxInt, 2, 1}, api.ErrRange},
		{[]int{1 << 62, 1 << 62, 1 << 62, 1 << 62, 1}, api.ErrRange},
		{[]int{-1}, api.ErrInvalid},
		{[]int{5, -1}, api.ErrInvalid},
		{[]int{5, math.MinInt}, api.ErrInvalid},
		{[]int{math.MaxInt, math.MaxInt, -1}, api.ErrInvalid},
		{[]int{0, -1}, api.ErrInvalid},
	} {
		if x, next, e := random.Choose(1, c.weights); x != 0 || next != 0 || e != c.want {
			t.Errorf("case %d: Choose returns %d, %x, %d", i, x, next, e)
		}
	}
}

// P4.6: what is drawn together is drawn by Below one after the other, and calls go on where others have ended.
func TestReproducible(t *testing.T) {
	state := uint64(2026)
	expect := state
	for n := 1; n < 40; n++ {
		var w, list []int
		var chosen int
		w, state, _ = random.Word(state, n, n)
		for i := range n {
			var x int
			if x, expect, _ = random.Below(expect, n); x != w[i] {
				t.Errorf("the symbol %d of a word is %d, not %d", i, w[i], x)
			}
		}
		list, state, _ = random.Shuffle(state, n)
		same := make([]int, n)
		for i := range same {
			same[i] = i
		}
		for i := n - 1; i > 0; i-- {
			var k int
			k, expect, _ = random.Below(expect, i+1)
			same[i], same[k] = same[k], same[i]
		}
		if !slices.Equal(list, same) {
			t.Errorf("Shuffle returns %v, not %v", list, same)
		}
		chosen, state, _ = random.Choose(state, slices.Repeat([]int{1}, n))
		var x int
		if x, expect, _ = random.Below(expect, n); x != chosen || state != expect {
			t.Errorf("Choose returns %d, not %d; the states are %x and %x", chosen, x, state, expect)
		}
	}
}

// P4.7: permutations contain every number once, and no index with the weight 0 is chosen.
func TestPermutations(t *testing.T) {
	state := uint64(77)
	for _, n := range []int{1, 2, 3, 10, 100, api.MaxWords} {
		var list []int
		list, state, _ = random.Shuffle(state, n)
		slices.Sort(list)
		for i := range n {
			if len(list) != n || list[i] != i {
				t.Fatalf("Shuffle of %d does not return a permutation", n)
			}
		}
	}
	weights := []int{0, 2, 0, 0, 1, 0}
	for range 200 {
		var x int
		x, state, _ = random.Choose(state, weights)
		if weights[x] == 0 {
			t.Errorf("Choose returns %d", x)
		}
	}
	if !slices.Equal(weights, []int{0, 2, 0, 0, 1, 0}) {
		t.Error("the weights have become", weights)
	}
}
