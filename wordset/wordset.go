// Package wordset is layer 2: sets of words. It forms and combines sorted lists of words. See shared/doc/02-wordset.md.
package wordset

import (
	"slices"
	"sort"
	"strconv"

	"learner/api"
	"learner/word"
)

// Sorted returns the different words of l in shortlex order.
func Sorted(l [][]int) [][]int {
	return copies(different(l, word.Compare))
}

// Has reports whether l contains w.
func Has(l [][]int, w []int) bool {
	return slices.ContainsFunc(l, func(x []int) bool { return slices.Equal(x, w) })
}

// Union returns the different words of all lists in shortlex order.
func Union(lists ...[][]int) [][]int {
	return Sorted(slices.Concat(lists...))
}

// Prefixes returns the different prefixes of the words of l in shortlex order.
func Prefixes(l [][]int) [][]int {
	found := copies(prefixes(l))
	arrange(found, word.Compare)
	return found
}

// Suffixes returns the different suffixes of the words of l in shortlex order.
func Suffixes(l [][]int) [][]int {
	// The suffixes of a word are the prefixes of the reversed word, reversed.
	found := reversed(prefixes(reversed(l)))
	arrange(found, word.Compare)
	return found
}

// Maximal returns the different words of l that are no proper prefixes of others, in shortlex order.
func Maximal(l [][]int) [][]int {
	return Sorted(maximal(l))
}

// Product returns the different words that consist of a word of a and a word of b, in shortlex order.
func Product(a, b [][]int) ([][]int, api.Errno) {
	heads, tails := different(a, word.Compare), different(b, word.Compare)
	if len(heads) == 0 || len(tails) == 0 {
		return nil, api.OK
	}
	if longest(heads)+longest(tails) > api.MaxWord {
		return nil, api.ErrTooLong
	}
	var found [][]int
	seen := map[string]bool{}
	endings := keys(tails)
	for i, beginning := range keys(heads) {
		for j, ending := range endings {
			joined := beginning + ending
			if seen[joined] {
				continue
			}
			if len(found) == api.MaxWords {
				return nil, api.ErrLimit
			}
			seen[joined] = true
			found = append(found, word.Join(heads[i], tails[j]))
		}
	}
	arrange(found, word.Compare)
	return found, api.OK
}

// Upto returns all words over the symbols 0 to inputs - 1 with at most n symbols, in shortlex order.
func Upto(inputs, n int) ([][]int, api.Errno) {
	if inputs < 1 || inputs > api.MaxLetters || n < 0 || n > api.MaxWord {
		return nil, api.ErrRange
	}
	var found [][]int
	var w []int
	for ok := true; ok && len(w) <= n; w, ok = word.Next(w, inputs) {
		if len(found) == api.MaxWords {
			return nil, api.ErrLimit
		}
		found = append(found, w)
	}
	return found, api.OK
}

// Size returns the number of the different maximal words of l, and the sum of their lengths.
func Size(l [][]int) (int, int) {
	words := maximal(l)
	symbols := 0
	for _, w := range words {
		symbols += len(w)
	}
	return len(words), symbols
}

// arrange sorts words by an order.
func arrange(words [][]int, order func(a, b []int) int) {
	before := func(i, j int) bool { return order(words[i], words[j]) < 0 }
	sort.Slice(words, before)
}

// different returns the different words of l, sorted by an order. They share memory with l.
func different(l [][]int, order func(a, b []int) int) [][]int {
	words := slices.Concat(l)
	arrange(words, order)
	return slices.CompactFunc(words, slices.Equal[[]int])
}

// prefixes returns the different prefixes of the words of l in dictionary order. They share memory with l.
func prefixes(l [][]int) [][]int {
	words := different(l, word.Lex)
	var found [][]int
	for i, w := range words {
		// In dictionary order, a prefix that w shares with any earlier word is also one of the word just before w.
		first := 0
		if i > 0 {
			first = word.Common(words[i-1], w) + 1
		}
		for n := first; n <= len(w); n++ {
			found = append(found, w[:n])
		}
	}
	return found
}

// maximal returns the different maximal words of l in dictionary order. They share memory with l.
func maximal(l [][]int) [][]int {
	words := different(l, word.Lex)
	var found [][]int
	for i, w := range words {
		// In dictionary order, the words that w is a prefix of follow it immediately.
		if i+1 == len(words) || !word.HasPrefix(words[i+1], w) {
			found = append(found, w)
		}
	}
	return found
}

// copies returns the words of l in new memory.
func copies(l [][]int) [][]int {
	var words [][]int
	for _, w := range l {
		words = append(words, word.Join(w))
	}
	return words
}

// reversed returns the words of l, each of them backwards, in new memory.
func reversed(l [][]int) [][]int {
	words := copies(l)
	for _, w := range words {
		slices.Reverse(w)
	}
	return words
}

// longest returns the length of the longest word.
func longest(l [][]int) int {
	length := 0
	for _, w := range l {
		length = max(length, len(w))
	}
	return length
}

// keys returns a text for each word of l, because words cannot be keys of a map. Different words have different texts, and joined words have joined texts.
func keys(l [][]int) []string {
	var texts []string
	for _, w := range l {
		var text []byte
		for _, symbol := range w {
			text = append(strconv.AppendInt(text, int64(symbol), 10), ' ')
		}
		texts = append(texts, string(text))
	}
	return texts
}
