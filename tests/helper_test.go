package tests

import (
	"math/rand"
	"slices"
	"strings"
	"testing"
)

// wantList fails if a list is not the one that is asked for; the empty list and the nil list are the same.
func wantList(t *testing.T, what string, got []string, want ...string) {
	t.Helper()
	if !slices.Equal(got, want) {
		t.Errorf("%s: %q, want %q", what, got, want)
	}
}

// wantAscending fails if a list is not strictly ascending.
func wantAscending(t *testing.T, what string, list []string) {
	t.Helper()
	for i := 1; i < len(list); i++ {
		if list[i-1] >= list[i] {
			t.Errorf("%s: %q stands ahead of %q", what, list[i-1], list[i])
		}
	}
}

// textsOver is all texts over some letters with at most so many of them, the empty one first.
func textsOver(letters string, most int) []string {
	all := []string{""}
	last := all
	for range most {
		var longer []string
		for _, text := range last {
			for _, c := range letters {
				longer = append(longer, text+string(c))
			}
		}
		all = append(all, longer...)
		last = longer
	}
	return all
}

// textOf is some text of so many letters.
func textOf(r *rand.Rand, letters string, length int) string {
	var b strings.Builder
	for range length {
		b.WriteByte(letters[r.Intn(len(letters))])
	}
	return b.String()
}

// notWords are texts that look nearly like words.
var notWords = []string{"", "A", "Cat", "caT", "a b", " a", "a ", "a1", "a-b", "`", "{", "a`", "z{", "\x00", "a\x00", "a\n", "\xff", "é", "aé", "ａ", "abcabcabcabca", strings.Repeat("z", 1000)}
