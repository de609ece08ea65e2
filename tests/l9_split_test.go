package tests

import (
	"math/rand"
	"regexp"
	"slices"
	"strconv"
	"strings"
	"testing"

	"loop.example/medlar/impl"
)

// samePattern says whether two patterns are the same.
func samePattern(a impl.Pattern, b impl.Pattern) bool {
	return a.Letters == b.Letters && slices.Equal(a.Numbers, b.Numbers)
}

// pattern is letters and their numbers.
func pattern(letters string, numbers ...int) impl.Pattern {
	return impl.Pattern{Letters: letters, Numbers: numbers}
}

// patternsOf reads patterns that are told by their texts, with blanks between.
func patternsOf(t *testing.T, texts string) []impl.Pattern {
	t.Helper()
	var list []impl.Pattern
	for _, text := range strings.Fields(texts) {
		p, ok := impl.PatternGet(text)
		if !ok {
			t.Fatalf("no pattern: %q", text)
		}
		list = append(list, p)
	}
	return list
}

// goodPatterns are patterns that are ok, with their texts.
func goodPatterns() map[string]impl.Pattern {
	return map[string]impl.Pattern{
		"a": pattern("a", 0, 0), "z": pattern("z", 0, 0), "1a": pattern("a", 1, 0), "a1": pattern("a", 0, 1), "9a9": pattern("a", 9, 9), "1na": pattern("na", 1, 0, 0), "n2a": pattern("na", 0, 2, 0), "na3": pattern("na", 0, 0, 3), "4n5a6": pattern("na", 4, 5, 6),
		".": pattern(".", 0, 0), "1.": pattern(".", 1, 0), ".1": pattern(".", 0, 1), "7.8": pattern(".", 7, 8), "..": pattern("..", 0, 0, 0), ".1.": pattern("..", 0, 1, 0), "1.2.3": pattern("..", 1, 2, 3),
		".un1": pattern(".un", 0, 0, 0, 1), "4ts.": pattern("ts.", 4, 0, 0, 0), ".a.": pattern(".a.", 0, 0, 0, 0), "1.2a3.4": pattern(".a.", 1, 2, 3, 4), ".a": pattern(".a", 0, 0, 0), "a.": pattern("a.", 0, 0, 0),
		"abcdefgh": pattern("abcdefgh", 0, 0, 0, 0, 0, 0, 0, 0, 0), "1a2b3c4d5e6f7g8h9": pattern("abcdefgh", 1, 2, 3, 4, 5, 6, 7, 8, 9), ".bcdefg.": pattern(".bcdefg.", 0, 0, 0, 0, 0, 0, 0, 0, 0), "9.9b9c9d9e9f9g9.9": pattern(".bcdefg.", 9, 9, 9, 9, 9, 9, 9, 9, 9),
	}
}

// badPatterns are patterns that are not ok.
func badPatterns() []impl.Pattern {
	list := []impl.Pattern{
		{}, pattern("", 0), pattern("", 1), pattern("abcdefghi", make([]int, 10)...), pattern(".bcdefgh.", make([]int, 10)...), pattern(".bcdefghi", make([]int, 10)...), pattern("abcdefgh.", make([]int, 10)...), pattern(strings.Repeat("a", 1000), make([]int, 1001)...),
		pattern("a.b", 0, 0, 0, 0), pattern("...", 0, 0, 0, 0), pattern("..a", 0, 0, 0, 0), pattern("a..", 0, 0, 0, 0), pattern(".a.b.", 0, 0, 0, 0, 0, 0), pattern("ab.c", 0, 0, 0, 0, 0),
	}
	for _, letter := range []string{"A", "Z", "`", "{", "-", " ", "0", "1", "9", "\x00", "\xff", "\n", "/", ","} {
		list = append(list, pattern(letter, 0, 0), pattern(letter+"b", 0, 0, 0), pattern("b"+letter, 0, 0, 0), pattern("b"+letter+"b", 0, 0, 0, 0), pattern("."+letter+".", 0, 1, 0, 0))
	}
	list = append(list, pattern("é", 0, 0), pattern("é", 0, 0, 0))
	for _, number := range []int{-1, 10, 11, 256, -247, 1 << 40, -1 << 62} {
		list = append(list, pattern("a", number, 0), pattern("a", 0, number), pattern("ab", 0, number, 0))
	}
	for _, letters := range []string{"a", ".", "ab", ".a.", "abcdefgh"} {
		for _, n := range []int{0, len(letters) - 1, len(letters), len(letters) + 2, len(letters) + 3} {
			list = append(list, pattern(letters, make([]int, n)...))
		}
	}
	return list
}

// P43: which patterns are ok, limits being met exactly.
func TestPatternOk(t *testing.T) {
	if impl.PatternMax != 20 || impl.PieceMin != 2 || impl.WidthMax != 60 {
		t.Error("limits")
	}
	for text, p := range goodPatterns() {
		if !impl.PatternOk(p) {
			t.Errorf("not ok: %q", text)
		}
	}
	for _, p := range badPatterns() {
		if impl.PatternOk(p) {
			t.Errorf("ok: %.50v", p)
		}
		if text := impl.PatternPut(p); text != "" {
			t.Errorf("%.50v: %q", p, text)
		}
	}
}

// P43: a pattern is read back from its text.
func TestPatternBothWays(t *testing.T) {
	for text, p := range goodPatterns() {
		if got := impl.PatternPut(p); got != text {
			t.Errorf("%v: %q, want %q", p, got, text)
		}
		if got, ok := impl.PatternGet(text); !ok || !samePattern(got, p) {
			t.Errorf("%q: %v, %v", text, got, ok)
		}
	}
}

// P43: what is no pattern's text is not read.
func TestPatternGetRefuses(t *testing.T) {
	for _, text := range []string{
		"", "0", "1", "5", "12", "a0", "0a", "a0b", "ab0", "0a0", ".0a", "12a", "a12", "a12b", "11a", "a11", "1a01", "10a", "a10", "01a", "123456789",
		"a.b", "...", "..a", "a..", "1a2.3b4", ".a.b", "a.b.", "A", "aB", "1A", "a b", " a", "a ", "a\n", "\na", "-a", "a-b", "-1a", "a-1", "+1a", "a,b", "\x00", "a\x00", "\xff", "é", "１a", "a:", "a/", "`", "{",
		"abcdefghi", ".bcdefgh.", "1a2b3c4d5e6f7g8h9i", "a1b1c1d1e1f1g1h1i1", "9.9b9c9d9e9f9g9h9.9", strings.Repeat("a", 100000), strings.Repeat("1a", 100000),
	} {
		if p, ok := impl.PatternGet(text); ok || !samePattern(p, impl.Pattern{}) {
			t.Errorf("%.50q: %.50v, %v", text, p, ok)
		}
	}
}

// patternForm is how the text of a pattern looks.
var patternForm = regexp.MustCompile(`^([1-9]?\.)?([1-9]?[a-z])*([1-9]?\.)?[1-9]?$`)

// patternByWords is PatternGet, as the document says it: a number that is written stands ahead of its letter, the last behind all.
func patternByWords(text string) (impl.Pattern, bool) {
	letters := strings.Map(func(c rune) rune {
		if '0' <= c && c <= '9' {
			return -1
		}
		return c
	}, text)
	if !patternForm.MatchString(text) || letters == "" || len(letters) > 8 {
		return impl.Pattern{}, false
	}
	p := impl.Pattern{Letters: letters}
	for _, figure := range regexp.MustCompile(`[a-z.]`).Split(text, -1) {
		n, _ := strconv.Atoi(figure)
		p.Numbers = append(p.Numbers, n)
	}
	return p, true
}

// P43: of many texts just those of patterns are read, and these are written again.
func TestPatternGetMany(t *testing.T) {
	texts := textsOver("a.01", 6)
	r := rand.New(rand.NewSource(901))
	for range 60000 {
		texts = append(texts, textOf(r, "azbc.123456789", r.Intn(20)), textOf(r, "ab\x00A1.", r.Intn(5)))
	}
	read := 0
	for _, text := range texts {
		p, ok := impl.PatternGet(text)
		want, wantOk := patternByWords(text)
		if ok != wantOk || !samePattern(p, want) {
			t.Fatalf("%q: %v, %v; want %v, %v", text, p, ok, want, wantOk)
		}
		if !ok {
			continue
		}
		read++
		if !impl.PatternOk(p) || impl.PatternPut(p) != text {
			t.Fatalf("%q: %v", text, p)
		}
	}
	if read < 1000 {
		t.Errorf("only %d are read", read)
	}
}

// somePattern is some pattern that is ok.
func somePattern(r *rand.Rand, letters string) impl.Pattern {
	b := []byte(textOf(r, letters, 1+r.Intn(8)))
	if r.Intn(3) > 0 {
		b = b[:1+r.Intn(min(len(b), 3))]
	}
	if r.Intn(5) == 0 {
		b[0] = '.'
	}
	if r.Intn(5) == 0 {
		b[len(b)-1] = '.'
	}
	p := impl.Pattern{Letters: string(b)}
	for range len(b) + 1 {
		p.Numbers = append(p.Numbers, max(r.Intn(14)-4, 0))
	}
	return p
}

// P43: each pattern is read back from its text.
func TestPatternPutMany(t *testing.T) {
	r := rand.New(rand.NewSource(902))
	for range 20000 {
		p := somePattern(r, small)
		text := impl.PatternPut(p)
		if got, ok := impl.PatternGet(text); !ok || !samePattern(got, p) {
			t.Fatalf("%v: %q: %v, %v", p, text, got, ok)
		}
		if want, ok := patternByWords(text); !ok || !samePattern(want, p) {
			t.Fatalf("%v: %q", p, text)
		}
	}
}

// splitByWords is SplitAt of patterns that are ok and a word, as the document says it: place by place, the greatest of all numbers that count there.
func splitByWords(list []impl.Pattern, word string) []int {
	text := "." + word + "."
	var places []int
	for at := 2; at <= len(word)-2; at++ {
		greatest := 0
		for _, p := range list {
			for k, number := range p.Numbers {
				// The letter behind a place of the word stands one later in the text.
				from := at + 1 - k
				if from >= 0 && strings.HasPrefix(text[from:], p.Letters) {
					greatest = max(greatest, number)
				}
			}
		}
		if greatest%2 == 1 {
			places = append(places, at)
		}
	}
	return places
}

// wantSplit fails if a word is not split at places that are asked for, or not as the document says it.
func wantSplit(t *testing.T, texts string, word string, want ...int) {
	t.Helper()
	list := patternsOf(t, texts)
	if by := splitByWords(list, word); !slices.Equal(by, want) {
		t.Errorf("%q by %q: by the document's words %v, want %v", word, texts, by, want)
	}
	if got := impl.SplitAt(list, word); !slices.Equal(got, want) {
		t.Errorf("%q by %q: %v, want %v", word, texts, got, want)
	}
}

// P44: places at which words are split.
func TestSplitAt(t *testing.T) {
	wantSplit(t, "", "banana")
	wantSplit(t, "1na", "banana", 2, 4)
	wantSplit(t, "na", "banana")
	wantSplit(t, "n1a", "banana", 3)
	wantSplit(t, "na1", "banana", 4)
	wantSplit(t, "1a1", "banana", 2, 3, 4)
	wantSplit(t, "1an", "banana", 3)
	wantSplit(t, "1x", "banana")
	wantSplit(t, "a1b", "ababab", 3)
	// A pattern stands there more than once, also over itself.
	wantSplit(t, "a1a", "aaaaaa", 2, 3, 4)
	wantSplit(t, "aa1a", "aaaaaa", 2, 3, 4)
	wantSplit(t, "aaa1aaa", "aaaaaa", 3)
	wantSplit(t, "aaaa1aa", "aaaaaa", 4)
	wantSplit(t, "1aaaaaa1", "aaaaaa")
	wantSplit(t, "3aaa2", "aaaaaa", 2, 3)
	wantSplit(t, "2aaa3", "aaaaaa", 3, 4)
	// Points are the word's ends.
	wantSplit(t, ".un1", "undo", 2)
	wantSplit(t, ".un1", "rundown")
	wantSplit(t, "1do.", "undo", 2)
	wantSplit(t, "1do.", "undone")
	wantSplit(t, ".un1do.", "undo", 2)
	wantSplit(t, ".un1do.", "undos")
	wantSplit(t, ".un1do.", "aundo")
	wantSplit(t, "1. .1 1.. .1. 1.1", "undo")
}

// P44: the greatest number counts, be it even or odd, however patterns stand in their list.
func TestSplitGreatest(t *testing.T) {
	wantSplit(t, "1na 2na", "banana")
	wantSplit(t, "2na 1na", "banana")
	wantSplit(t, "3na 2na", "banana", 2, 4)
	wantSplit(t, "2na 3na", "banana", 2, 4)
	wantSplit(t, "8na 9na 7na", "banana", 2, 4)
	wantSplit(t, "9na 8na", "banana", 2, 4)
	wantSplit(t, "7na 8na", "banana")
	wantSplit(t, "1na a2n", "banana")
	wantSplit(t, "1na ba4n", "banana", 4)
	wantSplit(t, "1na n3a 2an", "banana", 2, 3, 4)
	wantSplit(t, "1na n3a 4an", "banana", 2, 4)
	// What a pattern says elsewhere in the word does not count, also its own.
	wantSplit(t, "1na 2na.", "banana", 2)
	wantSplit(t, "1na .ba2", "banana", 4)
	wantSplit(t, "a1a2a", "aaaaa")
	wantSplit(t, "a2a3a", "aaaaa", 2, 3)
	wantSplit(t, "a3a4a", "aaaaaa")
	wantSplit(t, "a3a4a", "bbaaabb", 3)
	// Odd numbers are no sum.
	wantSplit(t, "1na 1na", "banana", 2, 4)
	wantSplit(t, "1na 1n a1n", "banana", 2, 4)
	wantSplit(t, "8b8a8n8a8n8a8 7na 5a", "banana")
	wantSplit(t, "8b8a8n8a8n8a8 9na 5a", "banana", 2, 4)
}

// P44: pieces at either end have PieceMin letters at least.
func TestSplitEnds(t *testing.T) {
	every := "1a1"
	wantSplit(t, every, "a")
	wantSplit(t, every, "aa")
	wantSplit(t, every, "aaa")
	wantSplit(t, every, "aaaa", 2)
	wantSplit(t, every, "aaaaa", 2, 3)
	wantSplit(t, every, "aaaaaaaaaaaa", 2, 3, 4, 5, 6, 7, 8, 9, 10)
	wantSplit(t, ".a1", "abcd")
	wantSplit(t, ".ab1", "abcd", 2)
	wantSplit(t, "1d.", "abcd")
	wantSplit(t, "1cd.", "abcd", 2)
	wantSplit(t, ".1a d1.", "abcd")
	wantSplit(t, ".1a2b3c4d5.", "abcd", 2)
	wantSplit(t, ".a1b2c3d.", "abcd")
	wantSplit(t, ".ab1cdef", "abcdefghijkl", 2)
	wantSplit(t, "fghij1kl", "abcdefghijkl", 10)
	wantSplit(t, "9.9f9", "abcdef")
}

// P44: patterns that are too many, or not ok, and what is no word, are split nowhere.
func TestSplitRefuses(t *testing.T) {
	na := pattern("na", 1, 0, 0)
	full := slices.Repeat([]impl.Pattern{pattern("x", 1, 1)}, impl.PatternMax-1)
	if got := impl.SplitAt(append(full, na), "banana"); !slices.Equal(got, []int{2, 4}) {
		t.Errorf("PatternMax: %v", got)
	}
	if got := impl.SplitText(append(full, na), "banana"); got != "ba-na-na" {
		t.Errorf("PatternMax: %q", got)
	}
	more := append(full, na, na)
	if got := impl.SplitAt(more, "banana"); len(got) > 0 {
		t.Errorf("one more than PatternMax: %v", got)
	}
	if got := impl.SplitText(more, "banana"); got != "banana" {
		t.Errorf("one more than PatternMax: %q", got)
	}
	for _, bad := range badPatterns() {
		for _, list := range [][]impl.Pattern{{bad}, {na, bad}, {bad, na}, {na, bad, na}} {
			if got := impl.SplitAt(list, "banana"); len(got) > 0 {
				t.Errorf("%.50v: %v", bad, got)
			}
			if got := impl.SplitText(list, "banana"); got != "banana" {
				t.Errorf("%.50v: %q", bad, got)
			}
		}
	}
	every := patternsOf(t, "1a1 1b1 1c1 .1 1.")
	for _, text := range append(notWords, "aaaaaaaaaaaaa", "aaaa-aaaa", "AAAA", "aaaa.", ".aaaa") {
		if got := impl.SplitAt(every, text); len(got) > 0 {
			t.Errorf("%.50q: %v", text, got)
		}
		if got := impl.SplitText(every, text); got != text {
			t.Errorf("%.50q: %.50q", text, got)
		}
	}
}

// P45: words with strokes, and without them again.
func TestSplitText(t *testing.T) {
	for _, c := range []struct {
		patterns string
		word     string
		want     string
	}{
		{"1na", "banana", "ba-na-na"}, {"1na 2na", "banana", "banana"}, {"", "banana", "banana"}, {"1na", "na", "na"}, {"1na", "nana", "na-na"}, {"1a1", "aaaa", "aa-aa"}, {"1a1", "aaaaaaaaaaaa", "aa-a-a-a-a-a-a-a-a-aa"}, {"1a1", "a", "a"}, {".un1", "undo", "un-do"},
	} {
		got := impl.SplitText(patternsOf(t, c.patterns), c.word)
		if got != c.want || impl.SplitBack(got) != c.word {
			t.Errorf("%q by %q: %q, want %q", c.word, c.patterns, got, c.want)
		}
	}
}

// P46: without strokes, of any texts.
func TestSplitBack(t *testing.T) {
	for text, want := range map[string]string{
		"": "", "-": "", "---": "", "a": "a", "-a": "a", "a-": "a", "a-b": "ab", "a--b": "ab", "-a-b-": "ab", "ba-na-na": "banana", "A-Z 1-2\n-": "AZ 12\n", "_\u2010\u2013": "_\u2010\u2013", "\xff-\xfe\x00-": "\xff\xfe\x00", strings.Repeat("a-", 50000): strings.Repeat("a", 50000),
	} {
		if got := impl.SplitBack(text); got != want {
			t.Errorf("%.50q: %.50q, want %.50q", text, got, want)
		}
	}
	r := rand.New(rand.NewSource(903))
	for range 5000 {
		a, b := textOf(r, "ab--\xff -", r.Intn(9)), textOf(r, "-ab\x00", r.Intn(9))
		both := impl.SplitBack(a + b)
		if both != impl.SplitBack(a)+impl.SplitBack(b) || impl.SplitBack(both) != both || both != strings.Join(strings.Split(a+b, "-"), "") {
			t.Fatalf("%q and %q: %q", a, b, both)
		}
	}
}

// somePatterns is some list of patterns that are ok.
func somePatterns(r *rand.Rand, letters string) []impl.Pattern {
	var list []impl.Pattern
	for range r.Intn(impl.PatternMax + 1) {
		list = append(list, somePattern(r, letters))
	}
	return list
}

// wantSplitText fails if the text of a word that is split does not fit its places.
func wantSplitText(t *testing.T, list []impl.Pattern, word string, places []int) {
	t.Helper()
	text := impl.SplitText(list, word)
	if impl.SplitBack(text) != word || len(text) != len(word)+len(places) {
		t.Fatalf("%q: %q, places %v", word, text, places)
	}
	for i, at := range places {
		if text[at+i] != '-' || at < 2 || at > len(word)-2 || i > 0 && at <= places[i-1] {
			t.Fatalf("%q: %q, places %v", word, text, places)
		}
	}
}

// P44, P45: many words are split just where the document says it.
func TestSplitMany(t *testing.T) {
	r := rand.New(rand.NewSource(904))
	counts := map[int]int{}
	for i := range 8000 {
		letters := small[:1+i%4]
		list := somePatterns(r, letters)
		word := textOf(r, letters, 1+r.Intn(impl.WordMax))
		places := impl.SplitAt(list, word)
		if want := splitByWords(list, word); !slices.Equal(places, want) {
			t.Fatalf("%q by %v: %v, want %v", word, list, places, want)
		}
		wantSplitText(t, list, word, places)
		counts[len(places)]++
		if len(impl.SplitAt(nil, word)) > 0 {
			t.Fatalf("%q is split by nothing", word)
		}
		if len(word) > 8 || len(list) == impl.PatternMax {
			continue
		}
		// One of the whole word that none exceeds leaves it whole.
		for k := range list {
			for at := range list[k].Numbers {
				list[k].Numbers[at] = min(list[k].Numbers[at], 8)
			}
		}
		list = append(list, pattern(word, slices.Repeat([]int{8}, len(word)+1)...))
		if got := impl.SplitAt(list, word); len(got) > 0 {
			t.Fatalf("%q by %v: %v", word, list, got)
		}
	}
	if counts[0] < 500 || counts[1] < 500 || counts[2] < 500 || counts[3] < 200 || counts[5] < 50 {
		t.Errorf("too few of some kind: %v", counts)
	}
}

// roomyPatterns are the same patterns, with others behind the ends of all lists.
func roomyPatterns(list []impl.Pattern) []impl.Pattern {
	var room []impl.Pattern
	for _, p := range list {
		room = append(room, impl.Pattern{Letters: p.Letters, Numbers: withRoom(p.Numbers, 77)})
	}
	return withRoom(room, pattern("zz", 7, 7, 7))
}

// wholePatterns are patterns in new memory, with all that stands behind the ends of their lists.
func wholePatterns(list []impl.Pattern) []impl.Pattern {
	whole := allOf(list)
	for i := range whole {
		whole[i].Numbers = allOf(whole[i].Numbers)
	}
	return whole
}

// What was handed in is not changed, nor what stands behind its end; no answer shares memory with it, or with another answer.
func TestSplitsAreNew(t *testing.T) {
	r := rand.New(rand.NewSource(905))
	for range 300 {
		list := roomyPatterns(somePatterns(r, "ab"))
		word := textOf(r, "ab", 1+r.Intn(impl.WordMax))
		kept := wholePatterns(list)
		p := somePattern(r, small)
		text := impl.PatternPut(p)
		want, got := impl.SplitAt(list, word), impl.SplitAt(list, word)
		a, _ := impl.PatternGet(text)
		b, _ := impl.PatternGet(text)
		impl.SplitText(list, word)
		for _, one := range list {
			impl.PatternOk(one)
			impl.PatternPut(one)
		}
		if !slices.EqualFunc(kept, wholePatterns(list), samePattern) {
			t.Fatal("changed")
		}
		places := []place{placeOf("patterns", list), placeOf("places", want), placeOf("places again", got), placeOf("read", a.Numbers), placeOf("read again", b.Numbers)}
		for _, one := range list {
			places = append(places, placeOf("numbers", one.Numbers))
		}
		wantApart(t, places)
		spoil(got, -1)
		spoil(b.Numbers, -1)
		if !slices.Equal(want, impl.SplitAt(list, word)) || !samePattern(a, p) {
			t.Fatal("answers share memory")
		}
	}
}
