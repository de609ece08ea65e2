package tests

import (
	"math"
	"math/rand"
	"slices"
	"strings"
	"testing"

	"loop.example/medlar/impl"
)

const small = "abcdefghijklmnopqrstuvwxyz"

// farByWords is Far as the document says it, beginning by beginning, of texts that are words.
func farByWords(a string, b string) int {
	far := make([][]int, len(a)+1)
	for i := range far {
		far[i] = make([]int, len(b)+1)
		for k := range far[i] {
			switch {
			case i == 0:
				far[i][k] = k
			case k == 0:
				far[i][k] = i
			default:
				changed := far[i-1][k-1]
				if a[i-1] != b[k-1] {
					changed++
				}
				far[i][k] = min(far[i-1][k]+1, far[i][k-1]+1, changed)
				if i > 1 && k > 1 && a[i-2:i] == b[k-1:k]+b[k-2:k-1] {
					far[i][k] = min(far[i][k], far[i-2][k-2]+1)
				}
			}
		}
	}
	return far[len(a)][len(b)]
}

// somePairs is pairs of words: all short ones of two and three letters, and some longer ones that are made of each other.
func somePairs() [][2]string {
	var pairs [][2]string
	for _, words := range [][]string{textsOver("ab", 5)[1:], textsOver("xyz", 3)[1:]} {
		for _, a := range words {
			for _, b := range words {
				pairs = append(pairs, [2]string{a, b})
			}
		}
	}
	r := rand.New(rand.NewSource(1))
	for range 4000 {
		a := textOf(r, "abcd", 1+r.Intn(impl.WordMax))
		b := a
		for range r.Intn(5) {
			near := impl.Near(b)
			b = near[r.Intn(len(near))]
		}
		pairs = append(pairs, [2]string{a, b}, [2]string{a, textOf(r, "abcd", 1+r.Intn(impl.WordMax))})
	}
	return pairs
}

// P1: a word is 1 to WordMax small letters.
func TestWordOk(t *testing.T) {
	if impl.WordMax != 12 {
		t.Errorf("WordMax %d", impl.WordMax)
	}
	for _, s := range []string{"a", "z", "az", "cat", "abcabcabcabc", "zzzzzzzzzzzz", small[:12], small[14:]} {
		if !impl.WordOk(s) {
			t.Errorf("%q is no word", s)
		}
	}
	for _, s := range append([]string{small, small[:13]}, notWords...) {
		if impl.WordOk(s) {
			t.Errorf("%q is a word", s)
		}
	}
	for n := range 30 {
		if ok := n >= 1 && n <= 12; impl.WordOk(strings.Repeat("q", n)) != ok {
			t.Errorf("%d letters: %v", n, !ok)
		}
	}
}

// P1: each letter of a word is a word, and no other byte is one, nor may stand in one.
func TestWordLetters(t *testing.T) {
	for c := range 256 {
		letter := string([]byte{byte(c)})
		ok := c >= 'a' && c <= 'z'
		for _, s := range []string{letter, "a" + letter, letter + "z", "m" + letter + "n"} {
			if impl.WordOk(s) != ok {
				t.Errorf("%q: %v", s, !ok)
			}
		}
	}
}

// P2: Far is the least number of steps, no letter being touched twice.
func TestFar(t *testing.T) {
	for _, c := range []struct {
		a, b string
		far  int
	}{
		{"a", "a", 0}, {"a", "b", 1}, {"a", "ab", 1}, {"a", "ba", 1}, {"ab", "ba", 1}, {"ab", "cd", 2},
		{"cat", "act", 1}, {"cat", "cta", 1}, {"cat", "cart", 1}, {"cat", "tac", 2}, {"kitten", "sitting", 3},
		// Two that are turned beside a letter that is put, or taken away.
		{"ab", "bax", 2}, {"ab", "xba", 2}, {"abx", "ba", 2}, {"xab", "ba", 2}, {"abcd", "bacxd", 2}, {"abcd", "bxacd", 3},
		// One put between two that are turned would touch them twice.
		{"ca", "abc", 3}, {"ab", "bxa", 3}, {"abc", "ca", 3},
		// Turns side by side, and turns that would share a letter.
		{"abcd", "badc", 2}, {"abc", "bca", 2}, {"abc", "cab", 2}, {"abab", "baba", 2}, {"aab", "baa", 2}, {"abcde", "badce", 2},
		{"a", "abcdefghijkl", 11}, {"z", "abcdefghijkl", 12}, {"abcdefghijkl", "badcfehgjilk", 6}, {"aaaaaaaaaaaa", "bbbbbbbbbbbb", 12},
	} {
		if n := impl.Far(c.a, c.b); n != c.far {
			t.Errorf("%s %s: %d, want %d", c.a, c.b, n, c.far)
		}
	}
	for _, p := range somePairs() {
		if n, want := impl.Far(p[0], p[1]), farByWords(p[0], p[1]); n != want {
			t.Fatalf("%s %s: %d, want %d", p[0], p[1], n, want)
		}
	}
}

// P2: Far is the same both ways, 0 just of a word and itself, between the difference of lengths and the longer.
func TestFarBothWays(t *testing.T) {
	for _, p := range somePairs() {
		a, b := p[0], p[1]
		n := impl.Far(a, b)
		longer, shorter := max(len(a), len(b)), min(len(a), len(b))
		if n != impl.Far(b, a) || (n == 0) != (a == b) || n > longer || n < longer-shorter || impl.Far(a, a) != 0 {
			t.Fatalf("%s %s: %d", a, b, n)
		}
	}
}

// P2: Far is -1, if one is no word.
func TestFarOfNoWords(t *testing.T) {
	for _, s := range notWords {
		for _, other := range []string{"a", "cat", "abcabcabcabc", s, ""} {
			if a, b := impl.Far(s, other), impl.Far(other, s); a != -1 || b != -1 {
				t.Errorf("%q %q: %d, %d", s, other, a, b)
			}
		}
	}
}

// nearByFar is all of some words that are just one step away.
func nearByFar(words []string, s string) []string {
	var list []string
	for _, w := range words {
		if farByWords(s, w) == 1 {
			list = append(list, w)
		}
	}
	slices.Sort(list)
	return list
}

// P3: Near is just the words whose Far is 1, ascending, each once: of short ones, held against all words there are.
func TestNearOfShortWords(t *testing.T) {
	words := textsOver(small, 3)[1:]
	for _, s := range []string{"a", "m", "z", "ab", "ba", "aa", "az", "zz"} {
		wantList(t, s, impl.Near(s), nearByFar(words, s)...)
	}
	if n := len(impl.Near("a")); n != 76 {
		t.Errorf("a: %d", n)
	}
}

// P3: of longer words, all Near are one step away, and all of one step away that there may be are there.
func TestNearOfLongWords(t *testing.T) {
	words := textsOver("abx", 7)[1:]
	for _, s := range []string{"abxa", "aaaa", "abab", "xxabx", "aabbxx"} {
		var here []string
		for _, w := range impl.Near(s) {
			if strings.Trim(w, "abx") == "" {
				here = append(here, w)
			}
		}
		wantList(t, s, here, nearByFar(words, s)...)
	}
	for _, c := range []struct {
		word string
		many int
	}{
		{"abcdefghij", 10 + 9 + 250 + 26*11 - 10},
		{"abcdefghijk", 11 + 10 + 275 + 26*12 - 11},
		{"abcdefghijkl", 12 + 11 + 300}, // none is put to WordMax letters
		{"aaaaaaaaaaaa", 1 + 0 + 300},
		{"aaaaaaaaaaa", 1 + 0 + 275 + 25*12 + 1},
	} {
		near := impl.Near(c.word)
		if len(near) != c.many {
			t.Errorf("%s: %d, want %d", c.word, len(near), c.many)
		}
		wantAscending(t, c.word, near)
		for _, w := range near {
			if !impl.WordOk(w) || impl.Far(c.word, w) != 1 || farByWords(c.word, w) != 1 {
				t.Errorf("%s: %q", c.word, w)
			}
		}
	}
}

// P3: nothing is near what is no word.
func TestNearOfNoWords(t *testing.T) {
	for _, s := range notWords {
		if near := impl.Near(s); len(near) != 0 {
			t.Errorf("%q: %q", s, near)
		}
	}
}

// P3: each answer is new memory, spare room included.
func TestNearIsNew(t *testing.T) {
	one, two := impl.Near("cat"), impl.Near("cat")
	kept := slices.Clone(two)
	one = one[:cap(one)]
	for i := range one {
		one[i] = "gone"
	}
	wantList(t, "two", two, kept...)
	wantList(t, "three", impl.Near("cat"), kept...)
}

// P4: Beginning is of bytes, of any texts.
func TestBeginning(t *testing.T) {
	for _, c := range []struct{ a, b, want string }{
		{"", "", ""}, {"", "a", ""}, {"a", "", ""}, {"a", "a", "a"}, {"a", "b", ""}, {"cart", "cat", "ca"}, {"cat", "cats", "cat"}, {"cats", "cat", "cat"},
		{"Cat", "cat", ""}, {"a b", "a c", "a "}, {"xab", "yab", ""}, {"é", "è", "\xc3"}, {"\xff\x00a", "\xff\x00b", "\xff\x00"},
		{strings.Repeat("a", 5000) + "b", strings.Repeat("a", 5000) + "c", strings.Repeat("a", 5000)},
	} {
		if s := impl.Beginning(c.a, c.b); s != c.want {
			t.Errorf("%q %q: %q", c.a, c.b, s)
		}
	}
	texts := textsOver("a\xc3", 5)
	for _, a := range texts {
		for _, b := range texts {
			s := impl.Beginning(a, b)
			n := len(s)
			longer := n < len(a) && n < len(b) && a[n] == b[n]
			if !strings.HasPrefix(a, s) || !strings.HasPrefix(b, s) || longer || s != impl.Beginning(b, a) {
				t.Fatalf("%q %q: %q", a, b, s)
			}
		}
	}
}

// P5, P73: Within is so from Far on, and not of one less.
func TestWithin(t *testing.T) {
	for _, p := range somePairs() {
		a, b := p[0], p[1]
		n := farByWords(a, b)
		for far := -2; far <= 14; far++ {
			if impl.Within(a, b, far) != (n <= far) {
				t.Fatalf("%s %s %d: %v", a, b, far, n > far)
			}
		}
	}
	if !impl.Within("cat", "cat", 0) || impl.Within("cat", "cat", -1) || impl.Within("cat", "cat", math.MinInt) || !impl.Within("cat", "dog", math.MaxInt) {
		t.Error("ends of numbers")
	}
}

// P5: nothing is within what is no word, however far.
func TestWithinOfNoWords(t *testing.T) {
	for _, s := range notWords {
		for _, far := range []int{math.MinInt, -1, 0, 1, 12, math.MaxInt} {
			if impl.Within(s, "cat", far) || impl.Within("cat", s, far) || impl.Within(s, s, far) {
				t.Errorf("%q %d", s, far)
			}
		}
	}
}

// P73: what is near is near the other way round, too, and Within one, but not within none.
func TestNearBothWays(t *testing.T) {
	for _, s := range []string{"a", "zz", "cat", "aabb", "turned", "abcdefghijk", "abcdefghijkl", "aaaaaaaaaaaa"} {
		for _, w := range impl.Near(s) {
			if _, found := slices.BinarySearch(impl.Near(w), s); !found || !impl.Within(s, w, 1) || impl.Within(s, w, 0) {
				t.Errorf("%s: %s", s, w)
			}
		}
	}
	words := textsOver("ab", 4)[1:]
	for _, a := range words {
		for _, b := range words {
			if slices.Contains(impl.Near(a), b) != slices.Contains(impl.Near(b), a) {
				t.Errorf("%s %s", a, b)
			}
		}
	}
}
