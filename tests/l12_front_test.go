package tests

import (
	"math/rand"
	"regexp"
	"slices"
	"strconv"
	"strings"
	"testing"

	"loop.example/medlar/impl"
)

// sameBytes is how many bytes two texts begin with that are the same.
func sameBytes(a string, b string) int {
	n := 0
	for n < len(a) && n < len(b) && a[n] == b[n] {
		n++
	}
	return n
}

// frontByWords is FrontPut of words that are ok, as the document says it.
func frontByWords(words []string) string {
	text := ""
	for i, word := range words {
		n := 0
		if i > 0 {
			n = sameBytes(words[i-1], word)
		}
		text += strconv.Itoa(n) + word[n:] + "\n"
	}
	return text
}

// frontForm is how the line of a word is written.
var frontForm = regexp.MustCompile(`\A(0|[1-9][0-9]?)([a-z]+)\z`)

// frontGetByWords is FrontGet, as the document says it.
func frontGetByWords(text string) ([]string, bool) {
	var words []string
	ahead := ""
	for text != "" {
		line, rest, ended := strings.Cut(text, "\n")
		p := frontForm.FindStringSubmatch(line)
		if !ended || p == nil {
			return nil, false
		}
		n, _ := strconv.Atoi(p[1])
		if n > len(ahead) {
			return nil, false
		}
		word := ahead[:n] + p[2]
		if len(word) > 12 || word <= ahead || sameBytes(word, ahead) != n || len(words) == 300 {
			return nil, false
		}
		words, ahead, text = append(words, word), word, rest
	}
	return words, true
}

// wantFront fails if words are not written as a text, or not read back from it.
func wantFront(t *testing.T, words []string, text string) {
	t.Helper()
	if got := impl.FrontPut(words); got != text {
		t.Errorf("%q: %q, want %q", words, got, text)
	}
	if got, ok := impl.FrontGet(text); !ok || !slices.Equal(got, words) {
		t.Errorf("%q: %q %v, want %q", text, got, ok, words)
	}
	if got, ok := frontGetByWords(text); !ok || !slices.Equal(got, words) || frontByWords(words) != text {
		t.Errorf("%q: by the document's words %q %v", text, got, ok)
	}
}

// wantNoFront fails if a text is read as words.
func wantNoFront(t *testing.T, text string) {
	t.Helper()
	if words, ok := impl.FrontGet(text); ok || len(words) > 0 {
		t.Errorf("%.80q: %.80q %v", text, words, ok)
	}
	if words, ok := frontGetByWords(text); ok {
		t.Errorf("%.80q: by the document's words %.80q", text, words)
	}
}

// P66: words are written by how many letters they begin with as the one ahead, and the rest, and read back.
func TestFront(t *testing.T) {
	for words, text := range map[string]string{
		"": "", "a": "0a\n", "cat": "0cat\n", "a b": "0a\n0b\n", "a aa": "0a\n1a\n", "cat cats do": "0cat\n3s\n0do\n", "cat cats catsy": "0cat\n3s\n4y\n",
		// The same but for the last letter, or but for the first.
		"cat caz": "0cat\n2z\n", "cat zat": "0cat\n0zat\n", "a ab abc abd b": "0a\n1b\n2c\n2d\n0b\n",
		// Only the one ahead counts, not one ahead of that.
		"aaa ab aca": "0aaa\n1b\n1ca\n", "cat do dot": "0cat\n0do\n2t\n", "ca cb cba": "0ca\n1b\n2a\n",
		// Numbers of two figures.
		"abcdefghij abcdefghijk abcdefghijkl abcdefghijkm abcdefghijl b": "0abcdefghij\n10k\n11l\n11m\n10l\n0b\n",
		"aaaaaaaaaaaa aaaaaaaaaaab aaaaaaaaaab zzzzzzzzzzzz":             "0aaaaaaaaaaaa\n11b\n10b\n0zzzzzzzzzzzz\n",
		"a aaaaaaaaaaaa": "0a\n1aaaaaaaaaaa\n",
	} {
		wantFront(t, strings.Fields(words), text)
	}
	if text := impl.FrontPut([]string{}); text != "" {
		t.Errorf("%q", text)
	}
}

// P66: 300 words are met exactly, one more is not written, and not read.
func TestFrontLimits(t *testing.T) {
	for _, n := range []int{1, 2, 299, 300} {
		words := manyWords(n)
		wantFront(t, words, frontByWords(words))
	}
	for _, n := range []int{301, 302, 399} {
		words := manyWords(n)
		if text := impl.FrontPut(words); text != "" {
			t.Errorf("%d words: %q", n, text)
		}
		wantNoFront(t, frontByWords(words))
	}
	wantNoFront(t, frontByWords(manyWords(300))+"0zzz")
	wantNoFront(t, frontByWords(manyWords(300))+"0zzz\n")
}

// P66: what is not words, ascending, each once, is not written.
func TestFrontRefuses(t *testing.T) {
	for _, words := range badLists() {
		if text := impl.FrontPut(words); text != "" {
			t.Errorf("%.80q: %.80q", words, text)
		}
	}
}

// P66: texts that look nearly like that of words are not read.
func TestFrontGetRefuses(t *testing.T) {
	for _, text := range []string{
		// A number greater than the word ahead has letters, or less than it could be.
		"1cat\n", "3cat\n", "0cat\n4s\n", "0cat\n5s\n", "0cat\n99s\n", "0a\n0b\n2c\n", "0cat\n2s\n3o\n0a\n", "0cat\n2ts\n", "0cat\n1ats\n", "0cat\n0cats\n", "0cat\n0caz\n", "0cat\n1az\n", "0cat\n3s\n3t\n3ta\n",
		// Noughts too many, signs, and what is no number.
		"00cat\n", "0cat\n03s\n", "0cat\n003s\n", "+0cat\n", "-0cat\n", "0cat\n+3s\n", "0cat\n-1s\n", "cat\n", "0cat\ns\n", "0cat\n3.0s\n", "0cat\n0x3s\n", "0cat\n3_0s\n", "0cat\n9223372036854775807s\n", "0cat\n9223372036854775808s\n", "0cat\n18446744073709551619s\n", "0cat\n" + strings.Repeat("0", 1000) + "3s\n", "0cat\n" + strings.Repeat("9", 1000) + "s\n", "3cat\n3s\n",
		// Words that are not in order, come twice, or are none.
		"0b\n0a\n", "0cats\n3\n", "0cat\n3\n", "0cat\n2\n", "0cat\n2t\n", "0cat\n0cat\n", "0caz\n2t\n", "0cat\n1a\n", "0a\n0b\n0a\n", "0\n", "0\n0a\n", "0a\n0\n", "0a\n1\n", "0Cat\n", "0cAt\n", "0caT\n", "0cat\n3S\n", "0c4t\n", "0cat\n3s3\n", "0a b\n", "0é\n", "0\xff\n", "0\x00\n", "0`\n", "0{\n", "0-\n", "0abcdefghijklm\n", "0abcdefghijkl\n12m\n", "0a\n1bcdefghijklm\n", "0abcdefghijkl\n11mn\n",
		// Other ends of lines, or none.
		"0cat", "0", "0cat\n3s", "0cat\n0", "\n", "\n\n", "0cat\n\n", "\n0cat\n", "0cat\n\n0do\n", "0cat\r\n", "0cat\n3s\r\n", "0cat0dog\n", "0cat \n", " 0cat\n", "0 cat\n", "0cat\n3 s\n", "0cat\n 3s\n", "0cat,0do\n", "0cat\x00", "x", "0cat\nx", "0cat\x000do\n", "０cat\n",
		strings.Repeat("0a\n", 100000), strings.Repeat("\n", 100000), "0" + strings.Repeat("a", 100000) + "\n", strings.Repeat("0", 100000), strings.Repeat("0", 100000) + "a\n",
		"0" + strings.Repeat("a", 1000000) + "\n" + strings.Repeat("1000000\n", 200),
	} {
		wantNoFront(t, text)
	}
}

// P66: of all short texts, and many others, just those of words are read, and these are written again.
func TestFrontGetMany(t *testing.T) {
	r := rand.New(rand.NewSource(1201))
	texts := textsOver("012ab\n", 6)
	for range 30000 {
		text := frontByWords(someWords(r, "ab", 4, 4))
		for range r.Intn(3) {
			at := r.Intn(len(text) + 1)
			text = text[:at] + textOf(r, "0123ab\n", r.Intn(2)) + text[min(at+r.Intn(2), len(text)):]
		}
		texts = append(texts, text)
	}
	read := 0
	for _, text := range texts {
		want, fits := frontGetByWords(text)
		got, ok := impl.FrontGet(text)
		if ok != fits || !slices.Equal(got, want) || ok && impl.FrontPut(got) != text {
			t.Fatalf("%q: %q %v, want %q %v", text, got, ok, want, fits)
		}
		if ok {
			read++
		}
	}
	if read < 1000 || read > len(texts)/2 {
		t.Errorf("%d of %d were read", read, len(texts))
	}
}

// P66: many words are written and read back.
func TestFrontPutMany(t *testing.T) {
	r := rand.New(rand.NewSource(1202))
	for i := range 2000 {
		words := someWords(r, small[:1+i%26], 1+i%300, 1+i%impl.WordMax)
		text := impl.FrontPut(words)
		if text != frontByWords(words) {
			t.Fatalf("%q: %q", words, text)
		}
		if got, ok := impl.FrontGet(text); !ok || !slices.Equal(got, words) {
			t.Fatalf("%q: %q %v, want %q", text, got, ok, words)
		}
	}
}

// What was handed in is not changed, nor what stands behind its end; no answer shares memory with another one.
func TestFrontsAreNew(t *testing.T) {
	r := rand.New(rand.NewSource(1203))
	for range 300 {
		words := withRoom(someWords(r, "abc", 12, 4), "zz")
		kept := allOf(words)
		text := impl.FrontPut(words)
		a, _ := impl.FrontGet(text)
		b, _ := impl.FrontGet(text)
		if !slices.Equal(kept, allOf(words)) {
			t.Fatal("changed")
		}
		wantApart(t, []place{placeOf("words", words), placeOf("read", a), placeOf("read again", b)})
		spoil(b, "gone")
		if !slices.Equal(a, words) || !slices.Equal(a, kept[:len(a)]) {
			t.Fatal("answers share memory")
		}
	}
}
