// Package word is layer 1: words. It compares, joins and counts lists of symbols. See shared/doc/01-word.md.
package word

import (
	"cmp"
	"slices"

	"learner/api"
)

// maxRank is the greatest number that Rank returns.
const maxRank = 1 << 62

// Check checks that w is a word of at most MaxWord symbols of the size inputs.
func Check(w []int, inputs int) api.Errno {
	if !permitted(inputs) {
		return api.ErrRange
	}
	if len(w) > api.MaxWord {
		return api.ErrTooLong
	}
	for _, symbol := range w {
		if symbol < 0 || symbol >= inputs {
			return api.ErrInvalid
		}
	}
	return api.OK
}

// permitted reports whether a number of symbols is permitted.
func permitted(inputs int) bool {
	return 1 <= inputs && inputs <= api.MaxLetters
}

// Compare returns -1, 0 or 1 if a is before, equal to or after b in shortlex order.
func Compare(a, b []int) int {
	if len(a) != len(b) {
		return cmp.Compare(len(a), len(b))
	}
	return Lex(a, b)
}

// Lex returns -1, 0 or 1 if a is before, equal to or after b in dictionary order.
func Lex(a, b []int) int {
	return slices.Compare(a, b)
}

// Join returns the elements of all parts, one after the other.
func Join(parts ...[]int) []int {
	return slices.Concat(parts...)
}

// HasPrefix reports whether p is a prefix of w.
func HasPrefix(w, p []int) bool {
	return Common(w, p) == len(p)
}

// Common returns the length of the longest common prefix of a and b.
func Common(a, b []int) int {
	shorter := min(len(a), len(b))
	for i := range shorter {
		if a[i] != b[i] {
			return i
		}
	}
	return shorter
}

// Next returns the word that follows w in shortlex order. It returns false if w is not a word of the size inputs, or if the following word is too long.
func Next(w []int, inputs int) ([]int, bool) {
	if Check(w, inputs) != api.OK {
		return nil, false
	}
	next := Join(w)
	for i := len(next) - 1; i >= 0; i-- {
		if next[i] < inputs-1 {
			next[i]++
			return next, true
		}
		next[i] = 0
	}
	// w is the last word of its length.
	if len(next) == api.MaxWord {
		return nil, false
	}
	return append(next, 0), true
}

// Rank returns the number of words that are before w in shortlex order.
func Rank(w []int, inputs int) (int, api.Errno) {
	if e := Check(w, inputs); e != api.OK {
		return 0, e
	}
	// In shortlex order, the words that continue the word of the rank r by one symbol have the ranks from r*inputs + 1 to r*inputs + inputs.
	rank := 0
	for _, symbol := range w {
		if rank > (maxRank-symbol-1)/inputs {
			return 0, api.ErrOverflow
		}
		rank = rank*inputs + symbol + 1
	}
	return rank, api.OK
}

// Unrank returns the word before which there are exactly n words in shortlex order.
func Unrank(n, inputs int) ([]int, api.Errno) {
	if n < 0 || !permitted(inputs) {
		return nil, api.ErrRange
	}
	// The steps of Rank are taken back, so that the last symbol is found first.
	var w []int
	for ; n > 0; n = (n - 1) / inputs {
		if len(w) == api.MaxWord {
			return nil, api.ErrTooLong
		}
		w = append(w, (n-1)%inputs)
	}
	slices.Reverse(w)
	return w, api.OK
}
