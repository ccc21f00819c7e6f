package modeltext_test

import (
	"math"
	"slices"
	"strconv"
	"strings"
	"testing"

	"learner/alphabet"
	"learner/api"
	"learner/mealy"
	"learner/modeltext"
	"learner/random"
)

// gateText is the canonical text of the gate.
const gateText = `machine gate
inputs coin push
outputs no ok turn
states q0 q1
start q0
q0 coin ok q1
q0 push no q0
q1 coin ok q1
q1 push turn q0
`

// head is the beginning of a text, to which the lines of the transitions are missing.
const head = "machine m\ninputs a b\noutputs x y\nstates s t\nstart s\n"

// gate returns the gate of the document.
func gate() api.Model {
	return api.Model{
		Name: "gate",
		In:   names("coin", "push"),
		Out:  names("no", "ok", "turn"),
		M:    api.Mealy{Inputs: 2, Next: [][]int{{1, 0}, {1, 0}}, Out: [][]int{{1, 0}, {1, 2}}},
	}
}

// changed returns the gate after a change.
func changed(change func(m *api.Model)) api.Model {
	m := gate()
	change(&m)
	return m
}

// names returns an alphabet.
func names(l ...string) api.Alphabet {
	return api.Alphabet{Names: l}
}

// numbered returns n names that begin with a prefix; they can be more than an alphabet has.
func numbered(prefix string, n int) []string {
	var l []string
	for i := range n {
		l = append(l, prefix+strconv.Itoa(i))
	}
	return l
}

// same reports whether two models are equal.
func same(a, b api.Model) bool {
	return a.Name == b.Name && slices.Equal(a.In.Names, b.In.Names) && slices.Equal(a.Out.Names, b.Out.Names) && mealy.Same(a.M, b.M)
}

// drawn returns a random model, some of whose states may be unreachable or equivalent.
func drawn(state uint64, inputs, states, outputs int) api.Model {
	m := api.Model{Name: "m." + strconv.Itoa(int(state)), In: names(numbered("a", inputs)...), Out: names(numbered("-", outputs)...)}
	m.M.Inputs = inputs
	m.M.Start, state, _ = random.Below(state, states)
	for range states {
		var next, out []int
		next, state, _ = random.Word(state, states, inputs)
		out, state, _ = random.Word(state, outputs, inputs)
		m.M.Next = append(m.M.Next, next)
		m.M.Out = append(m.M.Out, out)
	}
	return m
}

// samples returns models of several sizes.
func samples() []api.Model {
	all := []api.Model{gate(), changed(func(m *api.Model) { m.M.Start = 1 })}
	for state := range uint64(30) {
		all = append(all, drawn(state, 1+int(state%4), 1+int(state%13), 1+int(state%3)))
	}
	return append(all, drawn(99, api.MaxInputs, api.MaxStates, api.MaxInputs), drawn(100, 1, api.MaxStates, 1))
}

// show returns the text of a model.
func show(t *testing.T, m api.Model) string {
	t.Helper()
	s, e := modeltext.Show(m)
	if e != api.OK {
		t.Fatalf("Show of %v returns %d", m, e)
	}
	return s
}

// accepted checks that a text describes a model.
func accepted(t *testing.T, s string, want api.Model) {
	t.Helper()
	if m, n, e := modeltext.Parse(s); !same(m, want) || n != 0 || e != api.OK {
		t.Errorf("Parse of %.300q returns %v, %d, %d", s, m, n, e)
	}
}

// rejected checks that a text has an error in a line.
func rejected(t *testing.T, s string, line int, want api.Errno) {
	t.Helper()
	if m, n, e := modeltext.Parse(s); !same(m, api.Model{}) || n != line || e != want {
		t.Errorf("Parse of %.300q returns %v, %d, %d, and not %d, %d", s, m, n, e, line, want)
	}
}

// lines returns the lines of a text, with their line feeds.
func lines(s string) []string {
	return strings.SplitAfter(strings.TrimSuffix(s, "\n")+"\n", "\n")[:strings.Count(s, "\n")]
}

// edited returns the text of the gate with another line, or several, in place of one.
func edited(line int, other string) string {
	l := lines(gateText)
	l[line-1] = other
	return strings.Join(l, "")
}

// P15.1: valid models, and the errors in their order. Show has the same errors.
func TestValid(t *testing.T) {
	long := strings.Repeat("n", api.MaxName)
	many := names(numbered("a", api.MaxInputs+1)...)
	for i, c := range []struct {
		change func(m *api.Model)
		want   api.Errno
	}{
		{func(m *api.Model) {}, api.OK},
		{func(m *api.Model) { m.Name = long }, api.OK},
		{func(m *api.Model) { m.Out = names(append(m.Out.Names, "more")...) }, api.OK},
		{func(m *api.Model) { m.In, m.Out = names("x", "machine"), names("x", "machine", "0") }, api.OK},
		{func(m *api.Model) { m.M.Start = 1 }, api.OK},
		{func(m *api.Model) { m.Name = "" }, api.ErrName},
		{func(m *api.Model) { m.Name = long + "n" }, api.ErrName},
		{func(m *api.Model) { m.Name = "the gate" }, api.ErrName},
		{func(m *api.Model) { m.Name, m.In = "/", names() }, api.ErrName},
		{func(m *api.Model) { m.In = names() }, api.ErrEmpty},
		{func(m *api.Model) { m.In, m.Out = names("a", "a"), names() }, api.ErrExists},
		{func(m *api.Model) { m.In, m.Out = many, names("/") }, api.ErrTooLong},
		{func(m *api.Model) { m.In, m.M = names("a", "/"), api.Mealy{} }, api.ErrName},
		{func(m *api.Model) { m.Out = names() }, api.ErrEmpty},
		{func(m *api.Model) { m.Out, m.M.Inputs = names("a", "a"), 0 }, api.ErrExists},
		{func(m *api.Model) { m.Out, m.M.Next = many, nil }, api.ErrTooLong},
		{func(m *api.Model) { m.Out, m.M.Next = names("a", "b", "c d"), nil }, api.ErrName},
		{func(m *api.Model) { m.M.Inputs = 0 }, api.ErrRange},
		{func(m *api.Model) { m.M.Next, m.In = nil, names("a") }, api.ErrEmpty},
		{func(m *api.Model) { m.M.Inputs = 3; m.In = names("a", "b", "c") }, api.ErrInvalid},
		{func(m *api.Model) { m.M.Out[1][1] = -1; m.Out = names("a") }, api.ErrRange},
		{func(m *api.Model) { m.M.Out = nil; m.Out = names("a") }, api.ErrInvalid},
		{func(m *api.Model) { m.In = names("a") }, api.ErrRange},
		{func(m *api.Model) { m.In = names("a", "b", "c") }, api.ErrRange},
		{func(m *api.Model) { m.Out = names("a", "b") }, api.ErrRange},
		{func(m *api.Model) { m.M.Out[0][0] = 3 }, api.ErrRange},
		{func(m *api.Model) { m.M.Out[0][0] = api.MaxOutput }, api.ErrRange},
		// The outputs of states that are not reachable count, too.
		{func(m *api.Model) { m.M.Next[0][0] = 0; m.M.Out[1][0] = 3 }, api.ErrRange},
	} {
		m := changed(c.change)
		if e := modeltext.Valid(m); e != c.want {
			t.Errorf("case %d: Valid returns %d, not %d", i, e, c.want)
		}
		if s, e := modeltext.Show(m); e != c.want || (s == "") != (e != api.OK) {
			t.Errorf("case %d: Show returns %q, %d, not %d", i, s, e, c.want)
		}
	}
	if e := modeltext.Valid(api.Model{}); e != api.ErrName {
		t.Errorf("the error of no model is %d", e)
	}
}

// P15.2: canonical texts.
func TestShow(t *testing.T) {
	odd := api.Model{
		Name: "-",
		In:   names("B", "a"),
		Out:  names("unused", "q1", "9"),
		// The state 0 is not reachable, and the states 1 and 2 are equivalent.
		M: api.Mealy{Inputs: 2, Start: 2, Next: [][]int{{0, 1}, {1, 2}, {2, 1}}, Out: [][]int{{1, 1}, {2, 1}, {2, 1}}},
	}
	for want, m := range map[string]api.Model{
		gateText: gate(),
		"machine -\ninputs B a\noutputs unused q1 9\nstates q0 q1 q2\nstart q2\nq0 B q1 q0\nq0 a q1 q1\nq1 B 9 q1\nq1 a q1 q2\nq2 B 9 q2\nq2 a q1 q1\n": odd,
		"machine one\ninputs i\noutputs o\nstates q0\nstart q0\nq0 i o q0\n":                                                                            {Name: "one", In: names("i"), Out: names("o"), M: api.Mealy{Inputs: 1, Next: [][]int{{0}}, Out: [][]int{{0}}}},
	} {
		if s := show(t, m); s != want {
			t.Errorf("Show of %v returns %q", m, s)
		}
	}
}

// P15.2: the lines of many states are in ascending order of the states, not of their names.
func TestShowOrder(t *testing.T) {
	m := drawn(5, 3, 12, 2)
	l := lines(show(t, m))
	if want := "states q0 q1 q2 q3 q4 q5 q6 q7 q8 q9 q10 q11\n"; l[3] != want || len(l) != 5+12*3 {
		t.Errorf("there are %d lines, and the states are %q", len(l), l[3])
	}
	for i, line := range l[5:] {
		s, a := i/3, i%3
		want := []string{"q" + strconv.Itoa(s), m.In.Names[a], m.Out.Names[m.M.Out[s][a]], "q" + strconv.Itoa(m.M.Next[s][a])}
		if line != strings.Join(want, " ")+"\n" {
			t.Errorf("the line for the state %d and the input %d is %q", s, a, line)
		}
	}
}

// P15.3: texts that are not canonical.
func TestParse(t *testing.T) {
	accepted(t, gateText, gate())
	accepted(t, "# a gate\nmachine gate\n\ninputs coin push\noutputs no ok turn\n#\nstates shut open\nstart shut\nopen push turn shut\nopen coin ok open\n\n# a  remark \n#\nshut push no shut\nshut coin ok open\n\n# end\n", gate())
	// The states are numbered as they are named, and need not be reachable.
	accepted(t, "machine gate\ninputs coin push\noutputs no ok turn\nstates open shut\nstart shut\nopen push turn shut\nopen coin ok open\nshut push no shut\nshut coin ok open\n",
		changed(func(m *api.Model) {
			m.M = api.Mealy{Inputs: 2, Start: 1, Next: [][]int{{0, 1}, {0, 1}}, Out: [][]int{{1, 2}, {1, 0}}}
		}))
	accepted(t, "machine gate\ninputs coin push\noutputs no ok turn\nstates q1 q0\nstart q1\nq0 coin turn q0\nq0 push turn q0\nq1 coin no q1\nq1 push ok q1\n",
		changed(func(m *api.Model) {
			m.M = api.Mealy{Inputs: 2, Next: [][]int{{0, 0}, {1, 1}}, Out: [][]int{{0, 1}, {2, 2}}}
		}))
	// A name can have several uses, also that of the words at the beginnings of lines, and outputs need not occur.
	accepted(t, "machine machine\ninputs inputs\noutputs start inputs x\nstates start inputs\nstart inputs\nstart inputs inputs start\ninputs inputs start start\n",
		api.Model{Name: "machine", In: names("inputs"), Out: names("start", "inputs", "x"), M: api.Mealy{Inputs: 1, Start: 1, Next: [][]int{{0}, {0}}, Out: [][]int{{1}, {0}}}})
}

// P15.3: spaces, and line feeds that are missing.
func TestParseForm(t *testing.T) {
	for i, line := range lines(gateText) {
		body := strings.TrimSuffix(line, "\n")
		for _, other := range []string{" " + line, body + " \n", strings.Replace(line, " ", "  ", 1), body + "  x\n", " \n", "  \n", " #\n", " \n" + line, "\n\t\n"} {
			n := i + 1 + strings.Count(other, "\n\t")
			rejected(t, edited(i+1, other), n, api.ErrSyntax)
		}
		before := strings.Join(lines(gateText)[:i], "")
		for _, last := range []string{body, line[:1], " ", "#", "# " + body} {
			rejected(t, before+last, i+1, api.ErrSyntax)
			rejected(t, before+"\n#\n"+last, i+3, api.ErrSyntax)
		}
		rejected(t, before+line+"#", i+2, api.ErrSyntax)
	}
}

// P15.3: the errors of the lines before the transitions, in their order.
func TestParseHead(t *testing.T) {
	many, all := strings.Join(numbered(" i", api.MaxInputs+1), ""), strings.Join(numbered(" s", api.MaxStates), "")
	for _, c := range []struct {
		line  int
		other string
		want  api.Errno
	}{
		{1, "machine\n", api.ErrSyntax},
		{1, "machine a b\n", api.ErrSyntax},
		{1, "machine / b\n", api.ErrSyntax},
		{1, "Machine gate\n", api.ErrSyntax},
		{1, "inputs gate\n", api.ErrSyntax},
		{1, "model /\n", api.ErrSyntax},
		{1, "machine a/b\n", api.ErrName},
		{1, "machine gate\r\n", api.ErrName},
		{1, "machine " + strings.Repeat("x", api.MaxName+1) + "\n", api.ErrName},
		{2, "inputs\n", api.ErrEmpty},
		{2, "input\n", api.ErrSyntax},
		{2, "outputs no ok turn\n", api.ErrSyntax},
		{2, "input / /\n", api.ErrSyntax},
		{2, "inputs" + many + "\n", api.ErrTooLong},
		{2, "inputs" + many + " /\n", api.ErrTooLong},
		{2, "inputs a / a\n", api.ErrName},
		{2, "inputs a a /\n", api.ErrExists},
		{3, "outputs\n", api.ErrEmpty},
		{3, "inputs coin push\n", api.ErrSyntax},
		{3, "states q0 q1\n", api.ErrSyntax},
		{3, "outputs" + many + "\n", api.ErrTooLong},
		{3, "outputs no ok turn / no\n", api.ErrName},
		{3, "outputs no ok turn no\n", api.ErrExists},
		{4, "states\n", api.ErrEmpty},
		{4, "state\n", api.ErrSyntax},
		{4, "start q0\n", api.ErrSyntax},
		{4, "states" + all + " s\n", api.ErrLimit},
		{4, "states" + strings.Repeat(" /", api.MaxStates+1) + "\n", api.ErrLimit},
		{4, "states q0 q1 / q0\n", api.ErrName},
		{4, "states q0 q1 q0 /\n", api.ErrExists},
		{4, "states" + all + "\n", api.OK},
		{5, "start\n", api.ErrSyntax},
		{5, "start q0 q1\n", api.ErrSyntax},
		{5, "q0 coin ok q1\n", api.ErrSyntax},
		{5, "starts q0\n", api.ErrSyntax},
		{5, "start q2\n", api.ErrNotFound},
		{5, "start coin\n", api.ErrNotFound},
		{5, "start /\n", api.ErrNotFound},
	} {
		if c.want == api.OK { // the states have other names now
			rejected(t, edited(c.line, c.other), c.line+1, api.ErrNotFound)
			continue
		}
		rejected(t, edited(c.line, c.other), c.line, c.want)
		// Neither the lines behind it nor skipped ones before it matter.
		before := strings.Join(lines(gateText)[:c.line-1], "")
		rejected(t, before+c.other+"//\n\n ", c.line, c.want)
		rejected(t, "#\n\n"+before+"#\n"+c.other, c.line+3, c.want)
	}
}

// P15.3: the errors of the lines of the transitions, in their order.
func TestParseTransitions(t *testing.T) {
	for i, c := range []struct {
		s    string
		line int
		want api.Errno
	}{
		{"s a x\n", 6, api.ErrSyntax},
		{"s a x t t\n", 6, api.ErrSyntax},
		{"s\n", 6, api.ErrSyntax},
		{"u a x\n", 6, api.ErrSyntax},
		{"u a x t\n", 6, api.ErrNotFound},
		{"s c x t\n", 6, api.ErrNotFound},
		{"s a z t\n", 6, api.ErrNotFound},
		{"s a x u\n", 6, api.ErrNotFound},
		{"a s x t\n", 6, api.ErrNotFound},
		{"s x a t\n", 6, api.ErrNotFound},
		{"S a x t\n", 6, api.ErrNotFound},
		{"s a / t\n", 6, api.ErrNotFound},
		{"s a x t\ns a x t\n", 7, api.ErrExists},
		{"s a x t\ns a y s\n", 7, api.ErrExists},
		{"s a x t\nt a y s\ns b x s\ns a x s\n", 9, api.ErrExists},
		{"s a x t\ns a z t\n", 7, api.ErrNotFound},
		{"s a x t\ns a x u\n", 7, api.ErrNotFound},
		{"s a x t\ns a x\n", 7, api.ErrSyntax},
		{"s a x t\ns a x t", 7, api.ErrSyntax},
		{"s a x t\ns b x t\nt a x t\nt b x t\nt b x t\n", 10, api.ErrExists},
		{"s a x t\ns b x t\nt a x t\nt b x t\nstart s\n", 10, api.ErrSyntax},
		{"s a x t\ns b x t\nt a x t\nt b x t\n# the end", 10, api.ErrSyntax},
		{"s a x t\ns b x t\nt a x t\nt b x t", 9, api.ErrSyntax},
		{"", 6, api.ErrIncomplete},
		{"s a x t\n", 7, api.ErrIncomplete},
		{"s a x t\nt a x t\nt b x t\n", 9, api.ErrIncomplete},
		{"s a x t\nt a x t\nt b x t\n\n# end\n", 11, api.ErrIncomplete},
	} {
		rejected(t, head+c.s, c.line, c.want)
		if t.Failed() {
			t.Fatal("case", i)
		}
	}
}

// P15.3: missing lines. The others can also be followed by skipped ones.
func TestIncomplete(t *testing.T) {
	l := lines(gateText)
	for n := range l {
		text := strings.Join(l[:n], "")
		rejected(t, text, n+1, api.ErrIncomplete)
		rejected(t, text+"\n", n+2, api.ErrIncomplete)
		rejected(t, "# a\n#\n"+text+"\n#\n", n+5, api.ErrIncomplete)
	}
	for n := 5; n < len(l); n++ {
		rejected(t, strings.Join(slices.Delete(slices.Clone(l), n, n+1), ""), 9, api.ErrIncomplete)
	}
	rejected(t, "", 1, api.ErrIncomplete)
	rejected(t, "\n", 2, api.ErrIncomplete)
	rejected(t, "#", 1, api.ErrSyntax)
	rejected(t, "#\n#", 2, api.ErrSyntax)
}

// P15.3: the length of a text.
func TestTooLong(t *testing.T) {
	space := api.MaxText - len(gateText)
	accepted(t, gateText+strings.Repeat("\n", space), gate())
	accepted(t, "#"+strings.Repeat(" ", space-2)+"\n"+gateText, gate())
	rejected(t, gateText+strings.Repeat("\n", space+1), 0, api.ErrTooLong)
	rejected(t, strings.Repeat(" ", api.MaxText+1), 0, api.ErrTooLong)
	rejected(t, strings.Repeat(" ", api.MaxText), 1, api.ErrSyntax)
	rejected(t, strings.Repeat("\n", api.MaxText), api.MaxText+1, api.ErrIncomplete)
	rejected(t, "machine m\ninputs a\noutputs x\nstates"+strings.Repeat(" s", api.MaxText/2-50)+"\n", 4, api.ErrLimit)
}

// largest returns the model with the longest text, and the names of its states replaced by longer ones.
func largest() (api.Model, string) {
	long := func(prefix string, n int) []string {
		l := numbered("", n)
		for i := range l {
			l[i] = prefix + strings.Repeat("_", api.MaxName-len(prefix)-len(l[i])) + l[i]
		}
		return l
	}
	m := drawn(7, api.MaxInputs, api.MaxStates, api.MaxInputs)
	m.Name = strings.Repeat("m", api.MaxName)
	m.In.Names, m.Out.Names = long("i", api.MaxInputs), long("o", api.MaxInputs)
	states := long("s", api.MaxStates)
	s := "machine " + m.Name + "\ninputs " + strings.Join(m.In.Names, " ") + "\noutputs " + strings.Join(m.Out.Names, " ") + "\nstates " + strings.Join(states, " ") + "\nstart " + states[m.M.Start] + "\n"
	var b strings.Builder
	for i := range api.MaxStates {
		for a := range api.MaxInputs {
			b.WriteString(states[i] + " " + m.In.Names[a] + " " + m.Out.Names[m.M.Out[i][a]] + " " + states[m.M.Next[i][a]] + "\n")
		}
	}
	return m, s + b.String()
}

// P15.2, P15.4: the longest texts.
func TestLargest(t *testing.T) {
	m, longer := largest()
	s := show(t, m)
	accepted(t, s, m)
	// With the longest names of states the text of this model is too long; without this limit it would be right.
	if len(s) > api.MaxText || len(longer) <= api.MaxText {
		t.Fatalf("the texts have %d and %d bytes", len(s), len(longer))
	}
	rejected(t, longer, 0, api.ErrTooLong)
}

// P15.4: the text of a model is parsed to this model.
func TestRoundTrip(t *testing.T) {
	for _, m := range samples() {
		s := show(t, m)
		accepted(t, s, m)
		if n := strings.Count(s, "\n"); n != 5+len(m.M.Next)*m.M.Inputs || strings.Contains(s, "\n\n") || strings.Contains(s, "#") {
			t.Errorf("the text of %v is %q", m, s)
		}
	}
}

// checkText checks a text that may be right or not: a model that it describes is valid, and an error is that of the lines up to its number.
func checkText(t *testing.T, s string) {
	t.Helper()
	m, n, e := modeltext.Parse(s)
	if e == api.OK {
		if n != 0 || modeltext.Valid(m) != api.OK {
			t.Fatalf("Parse of %q returns %v, %d", s, m, n)
		}
		accepted(t, show(t, m), m)
		return
	}
	all := strings.SplitAfter(s, "\n")
	if all[len(all)-1] == "" {
		all = all[:len(all)-1]
	}
	if e == api.ErrIncomplete {
		rejected(t, s, len(all)+1, e)
		return
	}
	if n < 1 || n > len(all) {
		t.Fatalf("Parse of %q returns the line %d", s, n)
	}
	rejected(t, strings.Join(all[:n], ""), n, e)
	if _, k, f := modeltext.Parse(strings.Join(all[:n-1], "")); f != api.OK && (f != api.ErrIncomplete || k != n) {
		t.Fatalf("the lines of %q before the line %d have the error %d", s, n, f)
	}
}

// P15.3, P15.4: all texts that differ from that of the gate in one byte.
func TestBytes(t *testing.T) {
	for i := range len(gateText) {
		checkText(t, gateText[:i])
		checkText(t, gateText[:i]+gateText[i+1:])
		for _, b := range " \n#q0x/\x00\x80" {
			checkText(t, gateText[:i]+string(b)+gateText[i:])
			checkText(t, gateText[:i]+string(b)+gateText[i+1:])
		}
	}
}

// P15.4, P15.5: texts in which lines are exchanged, repeated or removed.
func TestExchangedLines(t *testing.T) {
	l := lines(gateText)
	for i := range l {
		for j := range l {
			other := slices.Clone(l)
			other[i], other[j] = other[j], other[i]
			s := strings.Join(other, "")
			checkText(t, s)
			if right := i == j || min(i, j) >= 5; right {
				accepted(t, s, gate())
			} else {
				rejected(t, s, 1+min(i, j), api.ErrSyntax)
			}
			checkText(t, strings.Join(slices.Insert(slices.Clone(l), i, l[j]), ""))
		}
	}
}

// P15.5: skipped lines do not change the result, and the order of the transitions does not, either.
func TestSkippedLines(t *testing.T) {
	for state, m := range samples() {
		l := lines(show(t, m))
		order, next, _ := random.Shuffle(uint64(state), len(l)-5)
		text := "\n"
		for i := range l {
			line := l[i]
			if i >= 5 {
				line = l[5+order[i-5]]
			}
			var kind int
			kind, next, _ = random.Below(next, 4)
			text += line + []string{"", "\n", "#\n", "#  q0 a0 \n\n# \xff\n"}[kind]
		}
		accepted(t, text, m)
	}
}

// P15.5: a skipped line in front increases the number of an error by one.
func TestSkippedInFront(t *testing.T) {
	for _, s := range []string{"", "x\n", "machine /\n", head, head + "s a x\n", head + "s a x t", head + "s a x t\ns a x t\n", edited(4, "states q0 q0\n"), edited(2, "\ninputs\n")} {
		_, n, e := modeltext.Parse(s)
		for i, front := range []string{"", "\n", "#\n\n", "\n# x\n\n"} {
			rejected(t, front+s, n+i, e)
		}
	}
}

// The examples of the chapter.
func TestExamples(t *testing.T) {
	if s := show(t, gate()); s != gateText {
		t.Errorf("the text of the gate is %q", s)
	}
	rejected(t, edited(9, ""), 9, api.ErrIncomplete)
	rejected(t, edited(9, "q1 push turn q2\n"), 9, api.ErrNotFound)
	rejected(t, edited(9, "q1 coin turn q0\n"), 9, api.ErrExists)
	rejected(t, "", 1, api.ErrIncomplete)
}

// R1: machines with extreme numbers are refused.
func TestExtremes(t *testing.T) {
	for _, x := range []int{math.MinInt, -1, 2, math.MaxInt} {
		for _, change := range []func(m *api.Model){
			func(m *api.Model) { m.M.Start = x },
			func(m *api.Model) { m.M.Next[1][0] = x },
			func(m *api.Model) { m.M.Inputs = x + 1 },
			func(m *api.Model) { m.M.Out[0][1] = x; m.Out = names("a") },
		} {
			m := changed(change)
			if s, e := modeltext.Show(m); s != "" || e == api.OK || e != modeltext.Valid(m) {
				t.Errorf("Show of %v returns %q, %d", m, s, e)
			}
		}
	}
}

// R5: arguments do not change, and the lists of a result are new memory.
func TestMemory(t *testing.T) {
	spare := append(gate().In.Names, "spare")
	m := changed(func(m *api.Model) { m.In.Names = spare[:2] })
	show(t, m)
	modeltext.Valid(m)
	if !same(m, gate()) || spare[2] != "spare" {
		t.Error("the model has become", m, spare)
	}
	x, _, _ := modeltext.Parse(gateText)
	lists := [][]int{x.M.Next[0], x.M.Next[1], x.M.Out[0], x.M.Out[1]}
	for i, l := range lists {
		for j := range l {
			l[j] = 10 + i
		}
		lists[i] = append(l, 99)
	}
	x.In.Names = append(x.In.Names, "x", "y")
	x.In.Names[0] = "z"
	for i, l := range lists {
		if !slices.Equal(l, []int{10 + i, 10 + i, 99}) {
			t.Error("lists of the result share memory:", lists)
		}
	}
	if !slices.Equal(x.Out.Names, gate().Out.Names) || alphabet.Valid(x.In) != api.OK {
		t.Error("names of the result share memory:", x)
	}
	accepted(t, gateText, gate())
}
