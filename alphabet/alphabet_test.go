package alphabet_test

import (
	"slices"
	"strings"
	"testing"

	"learner/alphabet"
	"learner/api"
	"learner/random"
	"learner/word"
)

// names returns an alphabet.
func names(l ...string) api.Alphabet {
	return api.Alphabet{Names: l}
}

// numbered returns the alphabet of the n names s0, s1 and so on.
func numbered(t *testing.T, n int) api.Alphabet {
	a, e := alphabet.Numbered("s", n)
	if e != api.OK {
		t.Fatal("Numbered returns", e)
	}
	return a
}

// P3.1: the permitted numbers of names, the names, and the order of the errors.
func TestValid(t *testing.T) {
	full := numbered(t, api.MaxInputs).Names
	for i, c := range []struct {
		a    api.Alphabet
		want api.Errno
	}{
		{names("coin", "push"), api.OK},
		{names("a"), api.OK},
		{names("a", "A"), api.OK},
		{names("1", "01"), api.OK},
		{names(full...), api.OK},
		{names(strings.Repeat("x", api.MaxName), strings.Repeat("x", api.MaxName-1)), api.OK},
		{api.Alphabet{}, api.ErrEmpty},
		{names(), api.ErrEmpty},
		{names(append(full[:api.MaxInputs:api.MaxInputs], "t")...), api.ErrTooLong},
		{names(append(full[:api.MaxInputs:api.MaxInputs], "")...), api.ErrTooLong},
		{names(append([]string{""}, full...)...), api.ErrTooLong},
		{names("a", "a b"), api.ErrName},
		{names(""), api.ErrName},
		{names("a", strings.Repeat("x", api.MaxName+1)), api.ErrName},
		{names("a", "a"), api.ErrExists},
		{names("a", "b", "c", "b"), api.ErrExists},
		{names("a", "b", "a", "?"), api.ErrExists},
		{names("a", "?", "a"), api.ErrName},
		{names("?", "?"), api.ErrName},
		{names("a", "?", "?", "a"), api.ErrName},
	} {
		if e := alphabet.Valid(c.a); e != c.want {
			t.Errorf("case %d: Valid returns %d, not %d", i, e, c.want)
		}
	}
}

// P3.2: every byte as a name, and in a name.
func TestNameBytes(t *testing.T) {
	const permitted = "abcdefghijklmnopqrstuvwxyzABCDEFGHIJKLMNOPQRSTUVWXYZ0123456789_-."
	for b := range 256 {
		s := string([]byte{byte(b)})
		want := strings.Contains(permitted, s)
		if alphabet.Name(s) != want || alphabet.Name("a"+s+"b") != want || alphabet.Name("ab"+s) != want {
			t.Errorf("the byte %d: Name does not return %t", b, want)
		}
	}
}

// P3.2: lengths of names, and characters of several bytes.
func TestName(t *testing.T) {
	for s, want := range map[string]bool{
		"":                                     false,
		"coin":                                 true,
		"-":                                    true,
		"..":                                   true,
		"A-1._z":                               true,
		"007":                                  true,
		" a":                                   false,
		"a ":                                   false,
		"é":                                    false,
		"\u212a":                               false, // the Kelvin sign
		"\u0663":                               false, // an Arabic digit
		"\xff":                                 false,
		strings.Repeat("y", api.MaxName):       true,
		strings.Repeat("y", api.MaxName+1):     false,
		strings.Repeat("y", api.MaxName) + "/": false,
	} {
		if alphabet.Name(s) != want {
			t.Errorf("Name of %q does not return %t", s, want)
		}
	}
}

// P3.2: the first symbol with a name, also in alphabets that are not valid.
func TestIndex(t *testing.T) {
	long := numbered(t, api.MaxInputs).Names
	long = append(long, "last")
	for i, c := range []struct {
		a      api.Alphabet
		name   string
		symbol int
		ok     bool
	}{
		{names("a", "b"), "a", 0, true},
		{names("a", "b"), "b", 1, true},
		{names("a", "b"), "B", 0, false},
		{names("a", "b"), "", 0, false},
		{names("ab"), "a", 0, false},
		{names("a"), "ab", 0, false},
		{api.Alphabet{}, "a", 0, false},
		{names("x", "b", "b", "b"), "b", 1, true},
		{names("x", "", "a b"), "", 1, true},
		{names("x", "", "a b"), "a b", 2, true},
		{names(long...), "last", api.MaxInputs, true},
	} {
		if symbol, ok := alphabet.Index(c.a, c.name); symbol != c.symbol || ok != c.ok {
			t.Errorf("case %d: Index returns %d, %t", i, symbol, ok)
		}
	}
}

// P3.3: words of texts.
func TestWord(t *testing.T) {
	gate := names("coin", "push")
	for s, want := range map[string][]int{
		"":               nil,
		"coin":           {0},
		"push coin push": {1, 0, 1},
		strings.Repeat("coin ", api.MaxWord-1) + "push": append(make([]int, api.MaxWord-1), 1),
	} {
		if w, e := alphabet.Word(gate, s); !slices.Equal(w, want) || e != api.OK {
			t.Errorf("Word of %.20q returns %v, %d", s, w, e)
		}
	}
	if w, e := alphabet.Word(names("9", "_", "-.-"), "-.- 9 _"); !slices.Equal(w, []int{2, 0, 1}) || e != api.OK {
		t.Error("Word returns", w, e)
	}
}

// P3.3: the errors and their order.
func TestWordErrors(t *testing.T) {
	gate, bad := names("coin", "push"), names("coin", "coin")
	tooLong := strings.Repeat("x", api.MaxText+1)
	tooMany := strings.Repeat("none ", api.MaxWord) + "none"
	for i, c := range []struct {
		a    api.Alphabet
		s    string
		want api.Errno
	}{
		{api.Alphabet{}, " ", api.ErrEmpty},
		{bad, "", api.ErrExists},
		{bad, tooLong, api.ErrExists},
		{names("a b"), "a b", api.ErrName},
		{gate, tooLong, api.ErrTooLong},
		{gate, " " + tooLong, api.ErrTooLong},
		{gate, strings.Repeat(" ", api.MaxText), api.ErrSyntax},
		{gate, strings.Repeat("x", api.MaxText), api.ErrNotFound},
		{gate, " ", api.ErrSyntax},
		{gate, "  ", api.ErrSyntax},
		{gate, " coin", api.ErrSyntax},
		{gate, "coin ", api.ErrSyntax},
		{gate, "push  coin", api.ErrSyntax},
		{gate, "none  coin", api.ErrSyntax},
		{gate, "none ", api.ErrSyntax},
		{gate, tooMany + " ", api.ErrSyntax},
		{gate, tooMany, api.ErrTooLong},
		{gate, strings.Repeat("coin ", api.MaxWord) + "coin", api.ErrTooLong},
		{gate, strings.Repeat("none ", api.MaxWord-1) + "none", api.ErrNotFound},
		{gate, "push Coin", api.ErrNotFound},
		{gate, "coin\tpush", api.ErrNotFound},
		{gate, "coin\n", api.ErrNotFound},
		{gate, "coin\u00a0push", api.ErrNotFound},
		{gate, "coin \xff", api.ErrNotFound},
		{gate, "coinpush", api.ErrNotFound},
	} {
		if w, e := alphabet.Word(c.a, c.s); len(w) != 0 || e != c.want {
			t.Errorf("case %d: Word returns %v, %d, not %d", i, w, e, c.want)
		}
	}
}

// P3.4: texts of words, and the errors in their order.
func TestText(t *testing.T) {
	gate := names("coin", "push")
	long := make([]int, api.MaxWord+1)
	for i, c := range []struct {
		a    api.Alphabet
		w    []int
		want string
		e    api.Errno
	}{
		{gate, nil, "", api.OK},
		{gate, []int{}, "", api.OK},
		{gate, []int{1}, "push", api.OK},
		{gate, []int{1, 0, 1}, "push coin push", api.OK},
		{names("x"), long[:api.MaxWord], strings.Repeat("x ", api.MaxWord-1) + "x", api.OK},
		{gate, []int{0, 2}, "", api.ErrInvalid},
		{gate, []int{-1}, "", api.ErrInvalid},
		{gate, long, "", api.ErrTooLong},
		{gate, append(long[:api.MaxWord:api.MaxWord], 2), "", api.ErrTooLong},
		{api.Alphabet{}, []int{2}, "", api.ErrEmpty},
		{names("a", "a"), long, "", api.ErrExists},
		{names("a", " "), []int{2}, "", api.ErrName},
	} {
		if s, e := alphabet.Text(c.a, c.w); s != c.want || e != c.e {
			t.Errorf("case %d: Text returns %.40q, %d", i, s, e)
		}
	}
}

// P3.5: the names in order.
func TestNumbered(t *testing.T) {
	a, e := alphabet.Numbered("q", 12)
	want := []string{"q0", "q1", "q2", "q3", "q4", "q5", "q6", "q7", "q8", "q9", "q10", "q11"}
	if !slices.Equal(a.Names, want) || e != api.OK {
		t.Error("Numbered returns", a, e)
	}
	prefix := strings.Repeat("-", api.MaxName-2)
	a, e = alphabet.Numbered(prefix, api.MaxInputs)
	if len(a.Names) != api.MaxInputs || a.Names[0] != prefix+"0" || a.Names[api.MaxInputs-1] != prefix+"63" || e != api.OK {
		t.Error("Numbered of a long prefix returns", a, e)
	}
}

// P3.5: the errors and their order.
func TestNumberedErrors(t *testing.T) {
	for i, c := range []struct {
		prefix string
		n      int
		want   api.Errno
	}{
		{"a", 1, api.OK},
		{"a", api.MaxInputs, api.OK},
		{"a", 0, api.ErrRange},
		{"a", -1, api.ErrRange},
		{"a", api.MaxInputs + 1, api.ErrRange},
		{"", 1, api.ErrName},
		{"a b", 1, api.ErrName},
		{strings.Repeat("a", api.MaxName-1), 1, api.ErrName},
		{strings.Repeat("a", api.MaxName+1), 1, api.ErrName},
		{"", 0, api.ErrName},
		{strings.Repeat("a", api.MaxName-1), -7, api.ErrName},
	} {
		a, e := alphabet.Numbered(c.prefix, c.n)
		if e != c.want || (len(a.Names) == 0) != (e != api.OK) {
			t.Errorf("case %d: Numbered returns %v, %d", i, a, e)
		}
	}
}

// P3.6: Word and Text invert each other, and texts are joined with a space.
func TestInverse(t *testing.T) {
	state := uint64(3)
	for _, n := range []int{1, 2, 11, api.MaxInputs} {
		a := numbered(t, n)
		last, text := []int{0}, "s0"
		for length := range 20 {
			var w []int
			w, state, _ = random.Word(state, n, length)
			s, e := alphabet.Text(a, w)
			back, e2 := alphabet.Word(a, s)
			again, e3 := alphabet.Text(a, back)
			if e != api.OK || e2 != api.OK || e3 != api.OK || !slices.Equal(back, w) || again != s {
				t.Errorf("the word %v has the text %q, and this the word %v", w, s, back)
			}
			if length == 0 {
				continue
			}
			if joined, _ := alphabet.Text(a, word.Join(last, w)); joined != text+" "+s {
				t.Errorf("the words %v and %v joined have the text %q", last, w, joined)
			}
			last, text = w, s
		}
	}
}

// P3.7: the names of a numbered alphabet lead to their symbols, and it is valid.
func TestNames(t *testing.T) {
	for n := 1; n <= api.MaxInputs; n++ {
		a := numbered(t, n)
		if e := alphabet.Valid(a); e != api.OK {
			t.Errorf("Valid of %d numbered names returns %d", n, e)
		}
		for symbol, name := range a.Names {
			if i, ok := alphabet.Index(a, name); i != symbol || !ok {
				t.Errorf("Index of %s returns %d, %t", name, i, ok)
			}
		}
	}
}

// R5: the alphabet and the word are not changed, also not after them in memory.
func TestMemory(t *testing.T) {
	store := []string{"a", "b", "spare"}
	a := names(store[:2]...)
	w := []int{1, 0, 9}
	alphabet.Valid(a)
	alphabet.Index(a, "b")
	read, _ := alphabet.Word(a, "b a")
	read[0] = 5
	alphabet.Text(a, w[:2])
	if again, _ := alphabet.Word(a, "b a"); !slices.Equal(again, []int{1, 0}) {
		t.Error("Word returns", again, "after its first result was changed")
	}
	if !slices.Equal(store, []string{"a", "b", "spare"}) || !slices.Equal(w, []int{1, 0, 9}) {
		t.Error("the arguments have become", store, w)
	}
}
