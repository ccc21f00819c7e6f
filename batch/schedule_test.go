package batch_test

import (
	"math"
	"slices"
	"testing"

	"learner/api"
	"learner/batch"
	"learner/cover"
	"learner/device"
	"learner/mealy"
	"learner/random"
	"learner/wordset"
)

// equal reports whether two schedules are equal.
func equal(a, b []api.Move) bool {
	return slices.EqualFunc(a, b, func(x, y api.Move) bool {
		return x.Reset == y.Reset && slices.Equal(x.Path, y.Path) && slices.Equal(x.Word, y.Word)
	})
}

// reset returns a move with a reset.
func reset(w ...int) api.Move {
	return api.Move{Reset: true, Word: w}
}

// after returns a move with a path.
func after(path []int, w ...int) api.Move {
	return api.Move{Path: path, Word: w}
}

// trap returns a machine in which 0 stays, and 1 leads to a state from which no word leads back.
func trap() api.Mealy {
	return api.Mealy{Inputs: 2, Next: [][]int{{0, 1}, {1, 1}}, Out: [][]int{{0, 1}, {2, 3}}}
}

// ring returns a machine in which 0 goes on to the next state, and 1 back to the one before.
func ring(states int) api.Mealy {
	m := api.Mealy{Inputs: 2}
	for s := range states {
		m.Next = append(m.Next, []int{(s + 1) % states, (s + states - 1) % states})
		m.Out = append(m.Out, []int{s, s})
	}
	return m
}

// latency returns a latency.
func latency(reset int, steps ...int) api.Latency {
	return api.Latency{Step: steps, Reset: reset}
}

// P20.3: paths and resets, and the time.
func TestChain(t *testing.T) {
	turned := gate()
	turned.Start = 1
	for i, c := range []struct {
		m     api.Mealy
		l     api.Latency
		words [][]int
		want  []api.Move
		time  int
	}{
		{gate(), costs(), nil, nil, 0},
		{gate(), costs(), [][]int{nil}, []api.Move{reset()}, 100},
		{gate(), costs(), [][]int{{}, {0}}, []api.Move{reset(0)}, 105},
		{gate(), costs(), [][]int{{0, 0, 0}, {0, 1}, {0}}, []api.Move{reset(0, 1), after(nil, 0, 0, 0)}, 123},
		{gate(), costs(), [][]int{{1, 1}, {0, 0}}, []api.Move{reset(0, 0), after([]int{1}, 1, 1)}, 119},
		{gate(), costs(), [][]int{{1}, {0}, {1}, {0}}, []api.Move{reset(0), after([]int{1}, 1)}, 111},
		// A path is taken only if it takes less time than a reset.
		{gate(), latency(4, 5, 3), [][]int{{1, 1}, {0, 0}}, []api.Move{reset(0, 0), after([]int{1}, 1, 1)}, 23},
		{gate(), latency(3, 5, 3), [][]int{{1, 1}, {0, 0}}, []api.Move{reset(0, 0), reset(1, 1)}, 22},
		{gate(), latency(2, 5, 3), [][]int{{1, 1}, {0, 0}}, []api.Move{reset(0, 0), reset(1, 1)}, 20},
		{gate(), latency(1, 5, 3), [][]int{{0, 0, 0}, {0, 1}}, []api.Move{reset(0, 1), after(nil, 0, 0, 0)}, 24},
		{gate(), latency(0, 5, 3), [][]int{{0, 0, 0}, {0, 1}}, []api.Move{reset(0, 1), reset(0, 0, 0)}, 23},
		{gate(), latency(1, 0, 0), [][]int{{0, 0, 0}, {0, 0, 1}}, []api.Move{reset(0, 0, 0), after([]int{1}, 0, 0, 1)}, 1},
		{gate(), latency(0, 0, 0), [][]int{{0, 0, 0}, {0, 0, 1}}, []api.Move{reset(0, 0, 0), reset(0, 0, 1)}, 0},
		// The words lead back to Start, which need not be the first state.
		{turned, costs(), [][]int{{0}, {1}, {1, 0, 1}}, []api.Move{reset(0), after(nil, 1, 0, 1)}, 116},
		{turned, costs(), [][]int{{1, 1}, {1, 0, 0}, {1, 0, 1}}, []api.Move{reset(1, 1), after([]int{0}, 1, 0, 0), after(nil, 1, 0, 1)}, 135},
		// There may be no path.
		{trap(), costs(), [][]int{{0}, {1}, {0, 0, 0}}, []api.Move{reset(1), reset(0, 0, 0)}, 218},
		{trap(), costs(), [][]int{{0, 1, 1}, {0, 0}, {1, 0}}, []api.Move{reset(0, 0), after(nil, 1, 0), reset(0, 1, 1)}, 229},
		{trap(), costs(), [][]int{{1, 0}, {1, 1}, {0, 0}}, []api.Move{reset(0, 0), after(nil, 1, 0), reset(1, 1)}, 224},
		// The first path in shortlex order counts, even if a longer one takes less time.
		{ring(5), latency(100, 1, 99), [][]int{{0}, {1}}, []api.Move{reset(0), after([]int{1}, 1)}, 299},
		{ring(5), latency(99, 1, 99), [][]int{{0}, {1}}, []api.Move{reset(0), reset(1)}, 298},
		{ring(6), latency(7, 2, 1), [][]int{{0, 0, 0}, {1}}, []api.Move{reset(1), after([]int{0}, 0, 0, 0)}, 16},
		{ring(6), latency(7, 2, 1), [][]int{{0, 0, 0}, {1, 1, 1, 1}}, []api.Move{reset(0, 0, 0), after([]int{0, 0, 0}, 1, 1, 1, 1)}, 23},
		{ring(6), latency(6, 2, 1), [][]int{{0, 0, 0}, {1, 1, 1, 1}}, []api.Move{reset(0, 0, 0), reset(1, 1, 1, 1)}, 22},
	} {
		moves, n, e := batch.Chain(c.m, c.l, c.words)
		if !equal(moves, c.want) || n != c.time || e != api.OK {
			t.Errorf("case %d: Chain returns %v, %d, %d", i, moves, n, e)
		}
	}
}

// P20.3: the errors and their order.
func TestChainErrors(t *testing.T) {
	good := [][]int{{0}, {1}}
	bad := [][]int{{0}, {2}}
	broken := gate()
	broken.Next[1][1] = 2
	for i, c := range []struct {
		m     api.Mealy
		l     api.Latency
		words [][]int
		want  api.Errno
	}{
		{api.Mealy{}, costs(), nil, api.ErrRange},
		{api.Mealy{Inputs: 2}, api.Latency{}, bad, api.ErrEmpty},
		{api.Mealy{Inputs: 2, Next: [][]int{{0, 0}}}, latency(-1, 5, 3), bad, api.ErrInvalid},
		{broken, latency(5), good, api.ErrRange},
		{gate(), api.Latency{}, nil, api.ErrInvalid},
		{gate(), latency(-1, -1), bad, api.ErrInvalid},
		{gate(), latency(1, 1, 1, 1), good, api.ErrInvalid},
		{gate(), latency(math.MaxInt, 1, 1, -1), good, api.ErrInvalid},
		{gate(), api.Latency{Step: make([]int, api.MaxInputs+1)}, good, api.ErrInvalid},
	} {
		if moves, n, e := batch.Chain(c.m, c.l, c.words); len(moves) != 0 || n != 0 || e != c.want {
			t.Errorf("case %d: Chain returns %v, %d, %d, not %d", i, moves, n, e, c.want)
		}
	}
	for i, l := range wrongCosts() {
		for _, words := range [][][]int{nil, good, bad} {
			if moves, n, e := batch.Chain(gate(), l, words); len(moves) != 0 || n != 0 || e != api.ErrRange {
				t.Errorf("latency %d: Chain returns %v, %d, %d", i, moves, n, e)
			}
		}
	}
	for name, c := range wrongWords() {
		if moves, n, e := batch.Chain(gate(), costs(), c.words); len(moves) != 0 || n != 0 || e != c.want {
			t.Errorf("%s: Chain returns %v, %d, %d, not %d", name, moves, n, e, c.want)
		}
	}
}

// chained returns what Chain has to return, literally.
func chained(m api.Mealy, l api.Latency, words [][]int) ([]api.Move, int) {
	var moves []api.Move
	state, time := m.Start, 0
	for i, w := range wordset.Maximal(words) {
		whole, _ := device.Cost(l, w)
		path, found, _ := cover.Path(m, state, m.Start)
		back, _ := device.Cost(l, path)
		if i > 0 && found && back-l.Reset < l.Reset {
			moves = append(moves, after(path, w...))
			time += back - l.Reset + whole - l.Reset
		} else {
			moves = append(moves, reset(w...))
			time += whole
		}
		_, state, _ = mealy.From(m, m.Start, w)
	}
	return moves, time
}

// execute applies a schedule to a device, and returns the outputs of its words.
func execute(t *testing.T, d api.Device, moves []api.Move) (api.Device, [][]int) {
	t.Helper()
	var answers [][]int
	for _, move := range moves {
		if move.Reset {
			d, _ = device.Reset(d)
		}
		var outputs []int
		for _, a := range slices.Concat(move.Path, move.Word) {
			var o int
			var e api.Errno
			d, o, e = device.Step(d, a)
			if e != api.OK {
				t.Fatalf("Step of the schedule %v returns %d", moves, e)
			}
			outputs = append(outputs, o)
		}
		answers = append(answers, outputs[len(move.Path):])
	}
	return d, answers
}

// P20.3, P20.6: a schedule answers each word as after a reset, in the time that Chain returns, which is at most that with a reset for each word.
func TestSchedules(t *testing.T) {
	paths, resets := 0, 0
	for state := range uint64(400) {
		inputs := 1 + int(state%3)
		m, next := drawn(state, inputs, 1+int(state%6))
		steps, next, _ := random.Word(next, 20, inputs)
		wait, next, _ := random.Below(next, 40)
		l := latency(wait, steps...)
		words := drawnWords(next, inputs, int(state%20), 6)
		moves, n, e := batch.Chain(m, l, words)
		want, time := chained(m, l, words)
		if !equal(moves, want) || n != time || e != api.OK {
			t.Fatalf("Chain of %v for %v and %v returns %v, %d, %d, not %v, %d", words, m, l, moves, n, e, want, time)
		}
		d, _ := device.New(m, l, api.Faults{}, 1)
		d, answers := execute(t, d, moves)
		if d.Time != n {
			t.Fatalf("the schedule %v takes the time %d, not %d", moves, d.Time, n)
		}
		maximal := wordset.Maximal(words)
		if most, _ := batch.Cost(l, maximal); n > most || len(moves) != len(maximal) {
			t.Fatalf("the schedule %v takes the time %d; with resets it is %d", moves, n, most)
		}
		for i, move := range moves {
			if right, _ := mealy.Run(m, maximal[i]); !slices.Equal(move.Word, maximal[i]) || !slices.Equal(answers[i], right) {
				t.Fatalf("%v is answered with %v", maximal[i], answers[i])
			}
			if move.Reset {
				resets++
			} else {
				paths++
			}
		}
		if len(moves) > 0 && !moves[0].Reset {
			t.Fatal("the first move begins with", moves[0].Path)
		}
	}
	if paths < 500 || resets < 500 {
		t.Errorf("there are %d paths and %d resets", paths, resets)
	}
}

// P20.3: the greatest machine with the longest words and paths, and more words than other lists may have, in a reasonable time.
func TestChainMost(t *testing.T) {
	m := ring(api.MaxStates)
	m.Inputs = api.MaxInputs
	for s := range m.Next {
		m.Next[s] = append(slices.Repeat([]int{s}, api.MaxInputs-1), (s+1)%api.MaxStates)
		m.Out[s] = slices.Repeat([]int{s}, api.MaxInputs)
	}
	const last = api.MaxInputs - 1
	l := latency(api.MaxCost, slices.Repeat([]int{1}, api.MaxInputs)...)
	var words [][]int
	for i := range 2 * api.MaxWords {
		w := append(slices.Repeat([]int{last}, i%200+1), i%50, i/50%60, i/3000)
		words = append(words, w)
	}
	words = append(words, slices.Repeat([]int{last}, api.MaxWord), append(slices.Repeat([]int{last}, api.MaxWord-1), 0))
	moves, n, e := batch.Chain(m, l, words)
	want, time := chained(m, l, words)
	if !equal(moves, want) || n != time || e != api.OK || len(moves) <= api.MaxWords {
		t.Errorf("Chain returns %d moves, %d, %d", len(moves), n, e)
	}
}

// R5: arguments do not change, and the lists of a schedule share memory neither with each other nor with an argument.
func TestChainMemory(t *testing.T) {
	m, l := gate(), costs()
	words := []list{list{0, 0, 9}[:2], list{1, 0, 9}[:2], list{0, 1, 0, 9}[:3], list{0, 0, 9}[:2]}
	moves, _, _ := batch.Chain(m, l, words)
	if !equal(moves, []api.Move{reset(0, 0), after([]int{1}, 1, 0), after([]int{1}, 0, 1, 0)}) {
		t.Fatal("Chain returns", moves)
	}
	if !separate(&moves[0].Word, &moves[1].Path, &moves[1].Word, &moves[2].Path, &moves[2].Word) {
		t.Error("the lists of the schedule share memory:", moves)
	}
	if !mealy.Same(m, gate()) || !slices.Equal(l.Step, costs().Step) {
		t.Error("the arguments have become", m, l)
	}
	for i, want := range [][]int{{0, 0, 9}, {1, 0, 9}, {0, 1, 0, 9}, {0, 0, 9}} {
		if !slices.Equal(words[i][:len(want)], want) {
			t.Error("the words have become", words[i][:len(want)])
		}
	}
}
