package tests

import (
	"math/rand"
	"slices"
	"strings"
	"testing"

	"loop.example/medlar/impl"
)

// wrapByWords is Wrap of patterns and words that are ok, as the document says it.
func wrapByWords(list []impl.Pattern, words []string, width int) []string {
	if len(words) == 0 {
		return nil
	}
	var lines []string
	line := words[0]
	for _, word := range words[1:] {
		room := width - len(line) - len(" ")
		if len(word) <= room {
			line += " " + word
			continue
		}
		at := 0
		for _, place := range splitByWords(list, word) {
			if place+len("-") <= room {
				at = place
			}
		}
		if at == 0 {
			lines, line = append(lines, line), word
		} else {
			lines, line = append(lines, line+" "+word[:at]+"-"), word[at:]
		}
	}
	return append(lines, line)
}

// wantWrap fails if words, with blanks between, are not cut to the lines that are asked for, or are not the words of these.
func wantWrap(t *testing.T, patterns string, text string, width int, want ...string) {
	t.Helper()
	list, words := patternsOf(t, patterns), strings.Fields(text)
	wantList(t, text+", by the document's words", wrapByWords(list, words, width), want...)
	lines, ok := impl.Wrap(list, words, width)
	if !ok {
		t.Errorf("%q: refused", text)
	}
	wantList(t, text, lines, want...)
	wantList(t, text+", and back", impl.Unwrap(lines), words...)
}

// P47: words are cut to lines.
func TestWrap(t *testing.T) {
	wantWrap(t, "", "", 12)
	wantWrap(t, "1na", "", 60)
	wantWrap(t, "", "a", 12, "a")
	wantWrap(t, "", "abcdefghijkl", 12, "abcdefghijkl")
	wantWrap(t, "1a1 1b1", "aaaaaabbbbbb", 12, "aaaaaabbbbbb")
	wantWrap(t, "", "abcdefghijkl abcdefghijkl a", 12, "abcdefghijkl", "abcdefghijkl", "a")
	wantWrap(t, "1na .un1", "a banana banana cat", 12, "a banana ba-", "nana cat")
	wantWrap(t, "", "a b a b a b a b", 12, "a b a b a b", "a b")
	wantWrap(t, "", "a b a b a b a b", 60, "a b a b a b a b")
	wantWrap(t, "", "cat cat cat cat cat", 15, "cat cat cat cat", "cat")
}

// P47: a line that is just full, and one that has one byte too many.
func TestWrapJustFull(t *testing.T) {
	wantWrap(t, "", "abcdef ghijk", 12, "abcdef ghijk")
	wantWrap(t, "", "abcdef ghijkl", 12, "abcdef", "ghijkl")
	wantWrap(t, "", "abcdef ghijkl", 13, "abcdef ghijkl")
	wantWrap(t, "", "abcdef ghijk l", 12, "abcdef ghijk", "l")
	wantWrap(t, "", "abcdef ghij l", 12, "abcdef ghij", "l")
	wantWrap(t, "", "abcdef ghi l", 12, "abcdef ghi l")
	// A word that fits is not split, one that does not is.
	wantWrap(t, "1na", "abcde banana", 12, "abcde banana")
	wantWrap(t, "1na", "abcdef banana", 12, "abcdef bana-", "na")
	// A stroke has to have room, too.
	wantWrap(t, "1na", "abcdefgh banana", 12, "abcdefgh ba-", "nana")
	wantWrap(t, "1na", "abcdefghi banana", 12, "abcdefghi", "banana")
	wantWrap(t, "1na", "abcdefghi banana", 13, "abcdefghi ba-", "nana")
	// Behind a piece a line goes on as any other one.
	wantWrap(t, "1na", "abcdefgh banana bananas a", 12, "abcdefgh ba-", "nana bananas", "a")
	wantWrap(t, "1na", "abcdefgh banana bananass", 12, "abcdefgh ba-", "nana bana-", "nass")
	wide := strings.Repeat("abcdefghijk ", 5)
	wantWrap(t, "", wide, 59, strings.TrimSpace(wide))
	wantWrap(t, "", wide+"a", 60, strings.TrimSpace(wide), "a")
	wantWrap(t, "", strings.Repeat("abcdefghi ", 6), 59, strings.TrimSpace(strings.Repeat("abcdefghi ", 6)))
	wantWrap(t, "", strings.Repeat("abcdefghi ", 6), 58, strings.TrimSpace(strings.Repeat("abcdefghi ", 5)), "abcdefghi")
}

// P47: of several places the last that has room is taken, be it the first of them; if none has, the word begins the next line.
func TestWrapPlaces(t *testing.T) {
	// Places are 2, 3 and 4.
	wantWrap(t, "1a1 1n1", "abcd banana", 12, "abcd banana")
	wantWrap(t, "1a1 1n1", "abcde banana a", 12, "abcde banana", "a")
	wantWrap(t, "1a1 1n1", "abcdef banana", 12, "abcdef bana-", "na")
	wantWrap(t, "1a1 1n1", "abcdefg banana", 12, "abcdefg ban-", "ana")
	wantWrap(t, "1a1 1n1", "abcdefgh banana", 12, "abcdefgh ba-", "nana")
	wantWrap(t, "1a1 1n1", "abcdefghi banana", 12, "abcdefghi", "banana")
	wantWrap(t, "1a1 1n1", "abcdefghijk banana", 12, "abcdefghijk", "banana")
	wantWrap(t, "1a1 1n1", "abcdefghijkl banana", 12, "abcdefghijkl", "banana")
	// Only later ones have no room.
	wantWrap(t, "nan1a", "abcdef banananas", 12, "abcdef", "banananas")
	wantWrap(t, "nan1a", "abcdefg banananas", 15, "abcdefg banan-", "anas")
	wantWrap(t, ".ba1 1nas.", "abcdef banananas", 12, "abcdef ba-", "nananas")
	wantWrap(t, ".ba1 1nas.", "abcdef banananas", 13, "abcdef ba-", "nananas")
	wantWrap(t, ".ba1 1nas.", "abcdef banananas", 14, "abcdef banana-", "nas")
	// One of the whole word of 8 keeps it whole.
	wantWrap(t, "1na 8b8a8n8a8n8a8", "abcdefgh banana", 12, "abcdefgh", "banana")
	wantWrap(t, "1na", "cat cat cat banana nana banana nana cat banana banana", 14, "cat cat cat", "banana nana", "banana nana", "cat banana ba-", "nana")
}

// P47: what is too many, too narrow, too wide, or not ok is refused.
func TestWrapRefuses(t *testing.T) {
	list := []impl.Pattern{pattern("na", 1, 0, 0)}
	full := slices.Repeat([]string{"banana"}, 40)
	refused := func(what string, list []impl.Pattern, words []string, width int) {
		t.Helper()
		if lines, ok := impl.Wrap(list, words, width); ok || len(lines) > 0 {
			t.Errorf("%s: %.50q, %v", what, lines, ok)
		}
	}
	for _, width := range []int{12, 13, 59, 60} {
		lines, ok := impl.Wrap(list, full, width)
		if !ok {
			t.Errorf("width %d is refused", width)
		}
		wantList(t, "40 words", lines, wrapByWords(list, full, width)...)
		refused("41 words", list, append(full, "a"), width)
		refused("many words", list, slices.Repeat(full, 1000), width)
	}
	for _, width := range []int{11, 61, 0, 1, -1, -12, 2, 100, 1 << 40, -1 << 62, 1 << 62} {
		refused("width", list, []string{"a"}, width)
		refused("width", list, nil, width)
		refused("width", nil, nil, width)
	}
	for _, text := range notWords {
		refused(text, list, []string{text}, 20)
		refused(text, nil, []string{"a", text, "b"}, 20)
		refused(text, nil, append(slices.Clone(full[:39]), text), 60)
	}
	patterns := slices.Repeat(list, impl.PatternMax)
	if lines, ok := impl.Wrap(patterns, []string{"abcdefgh", "banana"}, 12); !ok || !slices.Equal(lines, []string{"abcdefgh ba-", "nana"}) {
		t.Errorf("PatternMax: %q, %v", lines, ok)
	}
	refused("one more than PatternMax", append(patterns, list[0]), []string{"banana"}, 12)
	refused("one more than PatternMax", append(patterns, list[0]), nil, 12)
	for _, bad := range badPatterns() {
		refused("a pattern", []impl.Pattern{bad}, []string{"a"}, 12)
		refused("a pattern", []impl.Pattern{list[0], bad, list[0]}, nil, 12)
	}
}

// P47: many words are cut as the document says it, to lines that are not too wide, and have just the words.
func TestWrapMany(t *testing.T) {
	r := rand.New(rand.NewSource(911))
	split, just := 0, 0
	for range 3000 {
		letters := small[:1+r.Intn(3)]
		list := somePatterns(r, letters)
		var words []string
		for range r.Intn(41) {
			words = append(words, textOf(r, letters, 1+r.Intn(impl.WordMax)))
		}
		width := 12 + r.Intn(49)
		if r.Intn(2) == 0 {
			width = 12 + r.Intn(9)
		}
		lines, ok := impl.Wrap(list, words, width)
		if !ok {
			t.Fatalf("%q, %d: refused", words, width)
		}
		wantList(t, "lines", lines, wrapByWords(list, words, width)...)
		wantList(t, "words", impl.Unwrap(lines), words...)
		for i, line := range lines {
			if line == "" || len(line) > width {
				t.Fatalf("%d: %q", width, line)
			}
			if len(line) == width {
				just++
			}
			if strings.HasSuffix(line, "-") {
				split++
			}
			if i == len(lines)-1 && strings.Contains(line, "-") {
				t.Fatalf("the last line: %q", line)
			}
		}
	}
	if split < 2000 || just < 2000 {
		t.Errorf("too few of some kind: %d, %d", split, just)
	}
}

// unwrapByWords is Unwrap, as the document says it.
func unwrapByWords(lines []string) []string {
	var words []string
	goesOn := false
	for i, line := range lines {
		for k, word := range strings.Split(line, " ") {
			if k == 0 && goesOn {
				words[len(words)-1] += word
			} else {
				words = append(words, word)
			}
		}
		goesOn = strings.HasSuffix(line, "-") && i < len(lines)-1
		if goesOn {
			last := &words[len(words)-1]
			*last = (*last)[:len(*last)-1]
		}
	}
	return words
}

// P48: words of lines, whatever these are.
func TestUnwrap(t *testing.T) {
	for _, c := range []struct {
		lines []string
		want  []string
	}{
		{nil, nil}, {[]string{}, nil},
		{[]string{"a b"}, []string{"a", "b"}}, {[]string{"a", "b"}, []string{"a", "b"}}, {[]string{"a b", "c d"}, []string{"a", "b", "c", "d"}},
		{[]string{""}, []string{""}}, {[]string{"", ""}, []string{"", ""}}, {[]string{"a", "", "b"}, []string{"a", "", "b"}},
		{[]string{" "}, []string{"", ""}}, {[]string{" a"}, []string{"", "a"}}, {[]string{"a "}, []string{"a", ""}}, {[]string{"a  b"}, []string{"a", "", "b"}}, {[]string{"   "}, []string{"", "", "", ""}}, {[]string{"a ", " b"}, []string{"a", "", "", "b"}},
		{[]string{"a b-", "c d"}, []string{"a", "bc", "d"}}, {[]string{"ba-", "nana"}, []string{"banana"}}, {[]string{"ba-", "na-", "na"}, []string{"banana"}}, {[]string{"ba-", "na-", "na-"}, []string{"banana-"}},
		{[]string{"a-"}, []string{"a-"}}, {[]string{"-"}, []string{"-"}}, {[]string{"a", "b-"}, []string{"a", "b-"}}, {[]string{"a", "-"}, []string{"a", "-"}},
		{[]string{"-", "a"}, []string{"a"}}, {[]string{"-", "-"}, []string{"-"}}, {[]string{"-", "-", "-"}, []string{"-"}}, {[]string{"-", ""}, []string{""}}, {[]string{"a-", ""}, []string{"a"}}, {[]string{"a-", "", "b"}, []string{"a", "b"}}, {[]string{"a-", " b"}, []string{"a", "b"}}, {[]string{"a-", " "}, []string{"a", ""}}, {[]string{"a -", "b"}, []string{"a", "b"}}, {[]string{"a- ", "b"}, []string{"a-", "", "b"}},
		// One stroke alone is left out, and only at the end.
		{[]string{"a--", "b"}, []string{"a-b"}}, {[]string{"a-b", "c"}, []string{"a-b", "c"}}, {[]string{"-a", "b"}, []string{"-a", "b"}}, {[]string{"a-b-", "-c"}, []string{"a-b-c"}},
		// Other bytes are as good as letters.
		{[]string{"a\tb\n", "\x00 \xff-", "É"}, []string{"a\tb\n", "\x00", "\xffÉ"}}, {[]string{"a\u00a0b"}, []string{"a\u00a0b"}}, {[]string{"a\u2010", "b"}, []string{"a\u2010", "b"}},
	} {
		wantList(t, strings.Join(c.lines, "|")+", by the document's words", unwrapByWords(c.lines), c.want...)
		wantList(t, strings.Join(c.lines, "|"), impl.Unwrap(c.lines), c.want...)
	}
	if words := impl.Unwrap(slices.Repeat([]string{"ab-"}, 200000)); len(words) != 1 || words[0] != strings.Repeat("ab", 200000)+"-" {
		t.Errorf("%d words", len(words))
	}
	if words := impl.Unwrap(slices.Repeat([]string{"a b"}, 50000)); len(words) != 100000 {
		t.Errorf("%d words", len(words))
	}
}

// P48: words of many lines.
func TestUnwrapMany(t *testing.T) {
	r := rand.New(rand.NewSource(912))
	for _, a := range textsOver("a -", 3) {
		for _, b := range textsOver("b -", 3) {
			wantList(t, a+"|"+b, impl.Unwrap([]string{a, b}), unwrapByWords([]string{a, b})...)
		}
	}
	for range 5000 {
		var lines []string
		for range r.Intn(6) {
			lines = append(lines, textOf(r, "ab -\xff-", r.Intn(7)))
		}
		wantList(t, strings.Join(lines, "|"), impl.Unwrap(lines), unwrapByWords(lines)...)
	}
}

// What was handed in is not changed, nor what stands behind its end; no answer shares memory with it, or with another answer.
func TestLinesAreNew(t *testing.T) {
	r := rand.New(rand.NewSource(913))
	for range 300 {
		list := roomyPatterns(somePatterns(r, "ab"))
		var words []string
		for range r.Intn(20) {
			words = append(words, textOf(r, "ab", 1+r.Intn(impl.WordMax)))
		}
		words = withRoom(words, "behind")
		keptPatterns, keptWords := wholePatterns(list), allOf(words)
		lines, _ := impl.Wrap(list, words, 14)
		again, _ := impl.Wrap(list, words, 14)
		want := slices.Clone(lines)
		lines = withRoom(lines, "behind-")
		keptLines := allOf(lines)
		back, backAgain := impl.Unwrap(lines), impl.Unwrap(lines)
		if !slices.EqualFunc(keptPatterns, wholePatterns(list), samePattern) || !slices.Equal(keptWords, allOf(words)) || !slices.Equal(keptLines, allOf(lines)) {
			t.Fatal("changed")
		}
		wantApart(t, []place{placeOf("patterns", list), placeOf("words", words), placeOf("lines", lines), placeOf("lines again", again), placeOf("words of lines", back), placeOf("words of lines again", backAgain)})
		spoil(backAgain, "gone")
		spoil(lines, "gone")
		wantList(t, "words of lines", back, words...)
		spoil(words, "gone")
		wantList(t, "lines", again, want...)
	}
}

// Splitting answers whatever it is given.
func TestAnyPatterns(t *testing.T) {
	r := rand.New(rand.NewSource(914))
	ok, wrapped := 0, 0
	for range 20000 {
		var list []impl.Pattern
		for range r.Intn(3) {
			p := impl.Pattern{Letters: textOf(r, "aab.bA\xff", r.Intn(4))}
			for range len(p.Letters) + 1 - r.Intn(8)/7 {
				p.Numbers = append(p.Numbers, r.Intn(100)%12-r.Intn(10)/9)
			}
			list = append(list, p)
			if text := impl.PatternPut(p); (text != "") != impl.PatternOk(p) {
				t.Fatalf("%v: %q", p, text)
			}
		}
		fine := !slices.ContainsFunc(list, func(p impl.Pattern) bool { return !impl.PatternOk(p) })
		word := textOf(r, "aaaabbbb\x00-", r.Intn(9))
		places := impl.SplitAt(list, word)
		if fine && impl.WordOk(word) {
			ok++
			if !slices.Equal(places, splitByWords(list, word)) {
				t.Fatalf("%v: %q: %v", list, word, places)
			}
		} else if len(places) > 0 || impl.SplitText(list, word) != word {
			t.Fatalf("%v: %q: %v", list, word, places)
		}
		width := 10 + r.Intn(53)
		lines, done := impl.Wrap(list, []string{word, "abab"}, width)
		if done != (fine && impl.WordOk(word) && width >= 12 && width <= 60) || !done && len(lines) > 0 {
			t.Fatalf("%v: %q, %d: %q, %v", list, word, width, lines, done)
		}
		if done {
			wrapped++
		}
	}
	if ok < 1000 || wrapped < 1000 {
		t.Errorf("too few of some kind: %d, %d", ok, wrapped)
	}
}
