package logs_test

import (
	"math"
	"slices"
	"strconv"
	"strings"
	"testing"

	"learner/api"
	"learner/logs"
	"learner/random"
)

// list is a list of numbers, often a word.
type list = []int

// gateLog is a log of the gate of the document.
const gateLog = "# gate\ncoin/ok push/turn\n\npush/no\n#\ncoin/ok coin/ok push/turn push/no\n"

// names returns an alphabet.
func names(l ...string) api.Alphabet {
	return api.Alphabet{Names: l}
}

// numbered returns an alphabet of n names, which can be too many.
func numbered(n int) api.Alphabet {
	var a api.Alphabet
	for i := range n {
		a.Names = append(a.Names, "n"+strconv.Itoa(i))
	}
	return a
}

// longest returns an alphabet whose n names have the greatest length.
func longest(n int) api.Alphabet {
	a := numbered(n)
	for i, name := range a.Names {
		a.Names[i] = name + strings.Repeat("_", api.MaxName-len(name))
	}
	return a
}

// inputs returns the names of the inputs of the gate.
func inputs() api.Alphabet {
	return names("coin", "push")
}

// outputs returns the names of the outputs of the gate.
func outputs() api.Alphabet {
	return names("no", "ok", "turn")
}

// trace returns a trace.
func trace(in, out []int) api.Trace {
	return api.Trace{In: in, Out: out}
}

// gateTraces returns the traces of the log of the gate.
func gateTraces() []api.Trace {
	return []api.Trace{
		trace(list{0, 1}, list{1, 2}),
		trace(list{1}, list{0}),
		trace(list{0, 0, 1, 1}, list{1, 1, 2, 0}),
	}
}

// equal reports whether two lists of traces are equal.
func equal(a, b []api.Trace) bool {
	return slices.EqualFunc(a, b, func(t, u api.Trace) bool { return slices.Equal(t.In, u.In) && slices.Equal(t.Out, u.Out) })
}

// drawn returns n random traces of at least one step.
func drawn(state uint64, inputs, outputs, n, most int) []api.Trace {
	var l []api.Trace
	for range n {
		var length int
		var in, out []int
		length, state, _ = random.Below(state, most)
		in, state, _ = random.Word(state, inputs, length+1)
		out, state, _ = random.Word(state, outputs, length+1)
		l = append(l, trace(in, out))
	}
	return l
}

// accepted checks that a log of the gate has these traces.
func accepted(t *testing.T, s string, want []api.Trace) {
	t.Helper()
	if l, n, e := logs.Parse(inputs(), outputs(), s); !equal(l, want) || n != 0 || e != api.OK {
		t.Errorf("Parse of %.100q returns %d traces, %d, %d", s, len(l), n, e)
	}
}

// rejected checks that a log of the gate has an error in a line.
func rejected(t *testing.T, s string, line int, want api.Errno) {
	t.Helper()
	if l, n, e := logs.Parse(inputs(), outputs(), s); len(l) != 0 || n != line || e != want {
		t.Errorf("Parse of %.100q returns %d traces, %d, %d, and not %d, %d", s, len(l), n, e, line, want)
	}
}

// show returns the log of traces.
func show(t *testing.T, in, out api.Alphabet, l []api.Trace) string {
	t.Helper()
	s, e := logs.Show(in, out, l)
	if e != api.OK {
		t.Fatalf("Show of %d traces returns %d", len(l), e)
	}
	return s
}

// P17.1: logs with and without traces.
func TestParse(t *testing.T) {
	accepted(t, gateLog, gateTraces())
	for _, s := range []string{"", "\n", "\n\n", "#\n", "# coin/ok push/turn\n", "#coin/ok\n#  x \n\n", "#\xff\x00/ /\n"} {
		accepted(t, s, nil)
	}
	push := trace(list{1}, list{0})
	accepted(t, "push/no\npush/no\n", []api.Trace{push, push})
	accepted(t, "push/no\n# push/no\n\npush/no\n\n", []api.Trace{push, push})
	accepted(t, "push/no\npush/ok\n", []api.Trace{push, trace(list{1}, list{1})})
}

// P17.1: inputs and outputs may have the same names, and names may have all characters of names.
func TestParseNames(t *testing.T) {
	in, out := names("-", "A.9", "_", "a"), names("a", "-", "A.9")
	l, n, e := logs.Parse(in, out, "-/- a/a A.9/A.9\n_/a\n")
	if !equal(l, []api.Trace{trace(list{0, 3, 1}, list{1, 0, 2}), trace(list{2}, list{0})}) || n != 0 || e != api.OK {
		t.Error(l, n, e)
	}
	if l, n, e := logs.Parse(in, out, "-/-\na/_\n"); len(l) != 0 || n != 2 || e != api.ErrNotFound {
		t.Error(l, n, e)
	}
}

// P17.1, P17.2: alphabets that are not valid, in their order, before all other errors.
func TestAlphabets(t *testing.T) {
	long := strings.Repeat(" ", api.MaxText+1)
	for i, c := range []struct {
		in, out api.Alphabet
		want    api.Errno
	}{
		{names(), names("a b"), api.ErrEmpty},
		{numbered(api.MaxInputs + 1), names(), api.ErrTooLong},
		{names("a", ""), names(), api.ErrName},
		{names("a/b"), names(), api.ErrName},
		{names("#"), names(), api.ErrName},
		{names("a", "a"), names(), api.ErrExists},
		{names("a"), names(), api.ErrEmpty},
		{names("a"), numbered(api.MaxInputs + 1), api.ErrTooLong},
		{names("a"), names("x", "y z"), api.ErrName},
		{names("a"), names("x", "y", "x"), api.ErrExists},
	} {
		for _, s := range []string{"", "a/x\n", " ", long} {
			if l, n, e := logs.Parse(c.in, c.out, s); len(l) != 0 || n != 0 || e != c.want {
				t.Errorf("case %d: Parse of %.9q returns %v, %d, %d", i, s, l, n, e)
			}
		}
		for _, l := range [][]api.Trace{nil, {trace(list{0}, list{0})}, {{}}, make([]api.Trace, api.MaxTraces+1)} {
			if s, e := logs.Show(c.in, c.out, l); s != "" || e != c.want {
				t.Errorf("case %d: Show of %d traces returns %q, %d", i, len(l), s, e)
			}
		}
	}
	if l, n, e := logs.Parse(numbered(api.MaxInputs), numbered(api.MaxInputs), "n63/n62 n0/n63\n"); !equal(l, []api.Trace{trace(list{63, 0}, list{62, 63})}) || n != 0 || e != api.OK {
		t.Error(l, n, e)
	}
}

// P17.1: the errors of a line.
func TestLines(t *testing.T) {
	for _, c := range []struct {
		line string
		want api.Errno
	}{
		{" \n", api.ErrSyntax},
		{" coin/ok\n", api.ErrSyntax},
		{"coin/ok \n", api.ErrSyntax},
		{"coin/ok  push/turn\n", api.ErrSyntax},
		{" #\n", api.ErrSyntax},
		{"kick/no  kick/no\n", api.ErrSyntax},
		{"kick/no \n", api.ErrSyntax},
		{"coin\n", api.ErrSyntax},
		{"coin/ok push\n", api.ErrSyntax},
		{"coin/ok/turn\n", api.ErrSyntax},
		{"coin//ok\n", api.ErrSyntax},
		{"//\n", api.ErrSyntax},
		{"/\n", api.ErrNotFound},
		{"coin/\n", api.ErrNotFound},
		{"/ok\n", api.ErrNotFound},
		{"ok/coin\n", api.ErrNotFound},
		{"coin/coin\n", api.ErrNotFound},
		{"Coin/ok\n", api.ErrNotFound},
		{"coin/ok\r\n", api.ErrNotFound},
		{"\r\n", api.ErrSyntax},
		{"coin/ok\tpush/turn\n", api.ErrSyntax},
		{"coin/ok #\n", api.ErrSyntax},
		{"coin/ok #/ok\n", api.ErrNotFound},
		{"coi/ok\n", api.ErrNotFound},
		{"coins/ok\n", api.ErrNotFound},
		{"coin/o\n", api.ErrNotFound},
		{"0/1\n", api.ErrNotFound},
		{"coin/\xff\n", api.ErrNotFound},
		// The first part with an error counts, and in one part ErrSyntax.
		{"coin/ok kick/no push\n", api.ErrNotFound},
		{"coin/ok push kick/no\n", api.ErrSyntax},
		{"kick/no/no coin/kick\n", api.ErrSyntax},
		{"coin/kick kick/no/no\n", api.ErrNotFound},
	} {
		rejected(t, c.line, 1, c.want)
		rejected(t, "#\n\n"+c.line+" \n", 3, c.want)
		rejected(t, gateLog+c.line+"x\n", 7, c.want)
	}
}

// P17.1: a last line without a line feed, which counts more than all other errors of the line.
func TestNoLineFeed(t *testing.T) {
	for _, s := range []string{"coin/ok", "kick/no", "coin", "#", "# gate", " ", "/", strings.Repeat("x ", api.MaxWord) + "x"} {
		rejected(t, s, 1, api.ErrSyntax)
		rejected(t, "\n"+s, 2, api.ErrSyntax)
		rejected(t, gateLog+s, 7, api.ErrSyntax)
		rejected(t, "kick/no\n"+s, 1, api.ErrNotFound)
	}
}

// P17.1: the number of parts of a line.
func TestParts(t *testing.T) {
	line := func(n int, part string) string { return strings.TrimSuffix(strings.Repeat(part+" ", n), " ") + "\n" }
	want := trace(slices.Repeat(list{0}, api.MaxWord), slices.Repeat(list{2}, api.MaxWord))
	accepted(t, line(api.MaxWord, "coin/turn"), []api.Trace{want})
	for _, part := range []string{"coin/turn", "kick/no", "x"} {
		rejected(t, line(api.MaxWord+1, part), 1, api.ErrTooLong)
		rejected(t, " "+line(api.MaxWord+1, part), 1, api.ErrSyntax)
	}
	rejected(t, line(api.MaxWord, "coin/turn")+line(api.MaxWord-1, "coin/turn")[1:], 2, api.ErrNotFound)
	rejected(t, line(api.MaxWord-1, "coin/turn")[1:]+line(api.MaxWord+1, "coin/turn"), 1, api.ErrNotFound)
	accepted(t, "#"+strings.Repeat(" x", api.MaxWord+1)+"\n", nil)
}

// P17.1: the number of traces.
func TestTraces(t *testing.T) {
	most := strings.Repeat("push/no\n", api.MaxTraces)
	want := slices.Repeat([]api.Trace{trace(list{1}, list{0})}, api.MaxTraces)
	accepted(t, most, want)
	accepted(t, "#\n\n"+most+"\n# end\n", want)
	for _, s := range []string{"push/no\n", "x\n", "kick/no\n", strings.Repeat("x ", api.MaxWord) + "x\n"} {
		rejected(t, most+s, api.MaxTraces+1, api.ErrLimit)
		rejected(t, "#\n"+most+"\n"+s, api.MaxTraces+3, api.ErrLimit)
		rejected(t, most+" "+s, api.MaxTraces+1, api.ErrSyntax)
	}
	rejected(t, most+"#", api.MaxTraces+1, api.ErrSyntax)
	rejected(t, most+"push/no", api.MaxTraces+1, api.ErrSyntax)
}

// P17.1: the length of a text.
func TestText(t *testing.T) {
	space := api.MaxText - len(gateLog)
	accepted(t, gateLog+strings.Repeat("\n", space), gateTraces())
	accepted(t, "#"+strings.Repeat(" ", space-2)+"\n"+gateLog, gateTraces())
	rejected(t, gateLog+strings.Repeat("\n", space+1), 0, api.ErrTooLong)
	rejected(t, strings.Repeat(" ", api.MaxText+1), 0, api.ErrTooLong)
	rejected(t, strings.Repeat(" ", api.MaxText), 1, api.ErrSyntax)
	rejected(t, strings.Repeat("x", api.MaxText-1)+"\n", 1, api.ErrSyntax)
	rejected(t, strings.Repeat("\n", api.MaxText-1)+"#", api.MaxText, api.ErrSyntax)
}

// P17.2: ordinary logs.
func TestShow(t *testing.T) {
	for _, c := range []struct {
		l    []api.Trace
		want string
	}{
		{nil, ""},
		{gateTraces()[:1], "coin/ok push/turn\n"},
		{gateTraces(), "coin/ok push/turn\npush/no\ncoin/ok coin/ok push/turn push/no\n"},
		{[]api.Trace{trace(list{1}, list{0}), trace(list{1}, list{2}), trace(list{1}, list{0})}, "push/no\npush/turn\npush/no\n"},
	} {
		if s := show(t, inputs(), outputs(), c.l); s != c.want {
			t.Errorf("the log of %v is %q", c.l, s)
		}
	}
}

// P17.2: traces without a text.
func TestShowErrors(t *testing.T) {
	long := make(list, api.MaxWord+1)
	good := trace(list{0}, list{1})
	for i, c := range []struct {
		want api.Errno
		l    []api.Trace
	}{
		{api.ErrLimit, make([]api.Trace, api.MaxTraces+1)},
		{api.ErrEmpty, make([]api.Trace, api.MaxTraces)},
		{api.ErrEmpty, []api.Trace{{}}},
		{api.ErrEmpty, []api.Trace{trace(nil, list{-1})}},
		{api.ErrTooLong, []api.Trace{trace(long, long)}},
		{api.ErrTooLong, []api.Trace{trace(slices.Repeat(list{-1}, api.MaxWord+1), nil)}},
		{api.ErrInvalid, []api.Trace{trace(list{2}, list{1})}},
		{api.ErrInvalid, []api.Trace{trace(list{0, -1}, list{1, 1})}},
		{api.ErrInvalid, []api.Trace{trace(list{0, math.MaxInt}, list{1, -1})}},
		{api.ErrInvalid, []api.Trace{trace(list{0}, nil)}},
		{api.ErrInvalid, []api.Trace{trace(list{0}, list{3, 0})}},
		{api.ErrInvalid, []api.Trace{trace(list{0, 1}, list{-1})}},
		{api.ErrRange, []api.Trace{trace(list{0}, list{3})}},
		{api.ErrRange, []api.Trace{trace(list{0, 0}, list{0, -1})}},
		{api.ErrRange, []api.Trace{trace(list{0}, list{math.MinInt})}},
		{api.ErrRange, []api.Trace{trace(list{0}, list{api.MaxOutput})}},
		{api.ErrRange, []api.Trace{trace(list{0}, list{math.MaxInt})}},
		// The first trace with an error counts.
		{api.ErrRange, []api.Trace{good, trace(list{0}, list{3}), {}}},
		{api.ErrEmpty, []api.Trace{good, {}, trace(list{0}, list{3})}},
		{api.ErrInvalid, []api.Trace{good, good, trace(list{2}, list{3}), trace(long, long)}},
	} {
		if s, e := logs.Show(inputs(), outputs(), c.l); s != "" || e != c.want {
			t.Errorf("case %d: Show returns %q, %d, and not %d", i, s, e, c.want)
		}
	}
}

// P17.2: the length of the log, which counts less than the errors of all traces.
func TestShowLength(t *testing.T) {
	in, out := longest(1), longest(2)
	// A line of n steps has n*(2*MaxName+2) bytes.
	steps := func(n int) api.Trace { return trace(make(list, n), slices.Repeat(list{1}, n)) }
	size := 2*api.MaxName + 2
	lines := api.MaxText / (size * api.MaxWord)
	l := slices.Repeat([]api.Trace{steps(api.MaxWord)}, lines)
	l = append(l, steps((api.MaxText-lines*api.MaxWord*size)/size))
	s := show(t, in, out, l)
	if len(s) > api.MaxText || len(s)+size <= api.MaxText {
		t.Fatalf("the log has %d bytes", len(s))
	}
	// Another line with shorter names makes the log exactly as long as it may be, and then one byte longer.
	out.Names[0] = "b"
	in.Names = append(in.Names, strings.Repeat("a", api.MaxText-len(s)-len("/b\n")))
	one := append(slices.Clone(l), trace(list{1}, list{0}))
	if s := show(t, in, out, one); len(s) != api.MaxText {
		t.Fatalf("the log has %d bytes", len(s))
	}
	if s, e := logs.Show(in, out, append(slices.Clone(one), one[0])); s != "" || e != api.ErrTooLong {
		t.Errorf("Show of one trace more returns %d bytes, %d", len(s), e)
	}
	in.Names[1] += "a"
	for i, c := range []struct {
		l    []api.Trace
		want api.Errno
	}{
		{one, api.ErrTooLong},
		{append(slices.Clone(one), trace(list{0}, list{2})), api.ErrRange},
		{append(slices.Clone(one), trace(list{2}, nil)), api.ErrInvalid},
		{append(slices.Clone(one), one...), api.ErrTooLong},
		{append(slices.Clone(one), append(one, api.Trace{})...), api.ErrEmpty},
		{slices.Repeat(l[:1], api.MaxTraces), api.ErrTooLong},
		{slices.Repeat(l[:1], api.MaxTraces+1), api.ErrLimit},
	} {
		if s, e := logs.Show(in, out, c.l); s != "" || e != c.want {
			t.Errorf("case %d: Show returns %d bytes, %d", i, len(s), e)
		}
	}
}

// unskipped returns a log without its skipped lines.
func unskipped(s string) string {
	var kept string
	for line := range strings.Lines(s) {
		if line != "\n" && line[0] != '#' {
			kept += line
		}
	}
	return kept
}

// P17.5: logs of random traces, with skipped lines between them.
func TestRoundTrip(t *testing.T) {
	for state := range uint64(60) {
		in, out := numbered(1+int(state)), longest(1+int(state%7))
		l := drawn(state, len(in.Names), len(out.Names), int(state%11), 1+int(state%13)*3)
		s := show(t, in, out, l)
		if x, n, e := logs.Parse(in, out, s); !equal(x, l) || n != 0 || e != api.OK {
			t.Errorf("Parse of %q returns %v, %d, %d", s, x, n, e)
		}
		if strings.Count(s, "\n") != len(l) || unskipped(s) != s {
			t.Errorf("the log of %v is %q", l, s)
		}
		text := "#\n\n" + strings.ReplaceAll(s, "\n", "\n\n# "+strconv.Itoa(int(state))+" \n")
		x, n, e := logs.Parse(in, out, text)
		if !equal(x, l) || n != 0 || e != api.OK || show(t, in, out, x) != s {
			t.Errorf("Parse of %q returns %v, %d, %d", text, x, n, e)
		}
	}
}

// checkText checks a text that may be a log of the gate or not.
func checkText(t *testing.T, s string) bool {
	t.Helper()
	l, n, e := logs.Parse(inputs(), outputs(), s)
	if e == api.OK {
		if back := show(t, inputs(), outputs(), l); n != 0 || back != unskipped(s) {
			t.Fatalf("the traces of %q have the log %q", s, back)
		}
		return true
	}
	lines := slices.Collect(strings.Lines(s))
	if len(l) != 0 || n < 1 || n > len(lines) {
		t.Fatalf("Parse of %q returns %v, %d, %d", s, l, n, e)
	}
	// The error is that of its line, and there is none in the lines before.
	rejected(t, strings.Join(lines[:n], ""), n, e)
	rejected(t, lines[n-1], 1, e)
	if _, _, e := logs.Parse(inputs(), outputs(), strings.Join(lines[:n-1], "")); e != api.OK {
		t.Fatalf("the lines of %q before the line %d have the error %d", s, n, e)
	}
	return false
}

// P17.1, P17.5: all texts that differ from a log in one byte.
func TestBytes(t *testing.T) {
	right := 0
	check := func(s string) {
		if checkText(t, s) {
			right++
		}
	}
	for i := range len(gateLog) {
		check(gateLog[:i])
		check(gateLog[:i] + gateLog[i+1:])
		for _, b := range " \n#/nox\x00\x80" {
			check(gateLog[:i] + string(b) + gateLog[i:])
			check(gateLog[:i] + string(b) + gateLog[i+1:])
		}
	}
	if right < 100 {
		t.Error("only", right, "texts are right")
	}
}

// P17.4: numbers of inputs, with symbols that are ignored.
func TestInputs(t *testing.T) {
	l := []api.Trace{trace(list{0, 1, 0}, list{5, 5, 5}), {}, trace(list{1, 2, -1, math.MaxInt, math.MinInt}, nil), trace(nil, list{0, 0})}
	for _, c := range []struct {
		inputs int
		want   list
	}{
		{1, list{2}}, {2, list{2, 2}}, {3, list{2, 2, 1}}, {4, list{2, 2, 1, 0}},
		{0, nil}, {-1, nil}, {api.MaxInputs + 1, nil}, {math.MinInt, nil}, {math.MaxInt, nil},
	} {
		if x := logs.Inputs(l, c.inputs); !slices.Equal(x, c.want) {
			t.Errorf("Inputs for %d inputs is %v", c.inputs, x)
		}
	}
	if x := logs.Inputs(nil, 3); !slices.Equal(x, list{0, 0, 0}) {
		t.Error("without traces:", x)
	}
	if x := logs.Inputs([]api.Trace{trace(list{63, 64}, nil)}, api.MaxInputs); len(x) != api.MaxInputs || x[63] != 1 {
		t.Error("with most inputs:", x)
	}
}

// P17.6: the numbers add up to the number of steps.
func TestSums(t *testing.T) {
	for state := range uint64(50) {
		inputs := 1 + int(state%9)
		l := drawn(state, inputs+int(state%3), 2, int(state%12), 9)
		steps, sum := 0, 0
		for _, x := range l {
			for _, a := range x.In {
				if a < inputs {
					steps++
				}
			}
		}
		for a, n := range logs.Inputs(l, inputs) {
			sum += n
			one := func(w []int) int {
				return len(w) - len(slices.DeleteFunc(slices.Clone(w), func(b int) bool { return a == b }))
			}
			for _, x := range l {
				n -= one(x.In)
			}
			if n != 0 {
				t.Errorf("the input %d is counted %d times too often in %v", a, n, l)
			}
		}
		if sum != steps {
			t.Errorf("the numbers of %v add up to %d", l, sum)
		}
	}
}

// The examples of the chapter.
func TestExamples(t *testing.T) {
	accepted(t, "coin/ok push/turn\n", []api.Trace{trace(list{0, 1}, list{1, 2})})
	rejected(t, "coin/ok push\n", 1, api.ErrSyntax)
	rejected(t, "coin/ok kick/no\n", 1, api.ErrNotFound)
	l := []api.Trace{trace(list{0}, list{1}), trace(list{0, 1}, list{1, 2}), trace(list{0, 1}, list{1, 0})}
	o, n, e := logs.Import(api.Obs{Inputs: 2}, l)
	if o.Inputs != 2 || len(o.Traces) != 0 || n != 2 || e != api.ErrNondet {
		t.Error(o, n, e)
	}
	if x := logs.Inputs(l[:2], 2); !slices.Equal(x, list{2, 1}) {
		t.Error(x)
	}
}

// R5: arguments do not change, and the lists of a result are new memory.
func TestMemory(t *testing.T) {
	in, l := inputs(), gateTraces()
	spare := append(l[1].In, 7)
	l[1].In = spare[:1]
	show(t, in, outputs(), l)
	logs.Inputs(l, 2)
	if !equal(l, gateTraces()) || spare[1] != 7 || !slices.Equal(in.Names, inputs().Names) {
		t.Error("the traces have become", l, spare)
	}
	x, _, _ := logs.Parse(in, outputs(), gateLog)
	var lists [][]int
	for _, y := range x {
		lists = append(lists, y.In, y.Out)
	}
	want := make([][]int, len(lists))
	for i, w := range lists {
		for j := range w {
			w[j] = 10 + i
		}
		want[i] = append(slices.Clone(w), 20+i)
		lists[i] = append(w, 20+i)
	}
	if !slices.EqualFunc(lists, want, slices.Equal) {
		t.Error("lists of the result share memory:", lists)
	}
	accepted(t, gateLog, gateTraces())
}
