// Package impl: words, guesses, and what changed.
package impl

import (
	"iter"
	"slices"
)

// WordMax is how many letters a word has at most.
const WordMax = 12

// letters are all that words are made of, in order.
const letters = "abcdefghijklmnopqrstuvwxyz"

// row is how far one beginning of a word is from each beginning of another one, by their lengths.
type row [WordMax + 1]int

// WordOk says whether a text is a word.
func WordOk(s string) bool {
	return s != "" && len(s) <= WordMax && allBetween(s, 'a', 'z')
}

// Far is how many letters must be put, taken away, changed, or turned with the next one, each place once, to make one word of another.
func Far(a string, b string) int {
	if !WordOk(a) || !WordOk(b) {
		return -1
	}
	last, older := firstRow(), row{}
	for i := 1; i <= len(a); i++ {
		last, older = last.next(older, a[:i], b), last
	}
	return last[len(b)]
}

// Near is all texts that are one step from a word, ascending, each once.
func Near(s string) []string {
	if !WordOk(s) {
		return nil
	}
	var list []string
	for text := range steps(s) {
		if text != s && WordOk(text) {
			list = append(list, text)
		}
	}
	return sortedOnce(list)
}

// Beginning is the longest text with which both begin.
func Beginning(a string, b string) string {
	n := 0
	for n < len(a) && n < len(b) && a[n] == b[n] {
		n++
	}
	return a[:n]
}

// Within says whether a word is at most so far from another one.
func Within(a string, b string, far int) bool {
	return WordOk(a) && WordOk(b) && Far(a, b) <= far
}

// firstRow is the row of the empty beginning: all letters of the other one are put.
func firstRow() row {
	var first row
	for k := range first {
		first[k] = k
	}
	return first
}

// next is the row of a, which is one letter longer than what the row is of, and two longer than what older is of.
func (r row) next(older row, a string, b string) row {
	here := row{len(a)}
	for k := 1; k <= len(b); k++ {
		here[k] = min(r[k], here[k-1], r[k-1]) + 1
		if a[len(a)-1] == b[k-1] {
			here[k] = min(here[k], r[k-1])
		}
		if endTurned(a, b[:k]) {
			here[k] = min(here[k], older[k-2]+1)
		}
	}
	return here
}

// endTurned says whether the last two letters of both are each other's turned.
func endTurned(a string, b string) bool {
	i, k := len(a), len(b)
	return i > 1 && k > 1 && a[i-1] == b[k-2] && a[i-2] == b[k-1]
}

// steps tells what one step makes of a word, place by place: also the word itself, texts that are none, and some twice.
func steps(word string) iter.Seq[string] {
	return func(yield func(string) bool) {
		for at := 0; at <= len(word); at++ {
			if !stepsAt(word[:at], word[at:], yield) {
				return
			}
		}
	}
}

// stepsAt tells what a step between ahead and rest makes, and whether more is wanted.
func stepsAt(ahead string, rest string, yield func(string) bool) bool {
	for i := range len(letters) {
		put := ahead + letters[i:i+1]
		if !yield(put + rest) {
			return false
		}
		if rest != "" && !yield(put+rest[1:]) {
			return false
		}
	}
	if rest != "" && !yield(ahead+rest[1:]) {
		return false
	}
	return len(rest) < 2 || yield(ahead+rest[1:2]+rest[:1]+rest[2:])
}

// allBetween says whether each byte of a text is one from low to high.
func allBetween(text string, low byte, high byte) bool {
	for i := range len(text) {
		if text[i] < low || text[i] > high {
			return false
		}
	}
	return true
}

// sortedOnce puts a list of the program's own in order, each text once.
func sortedOnce(list []string) []string {
	slices.Sort(list)
	return slices.Compact(list)
}
