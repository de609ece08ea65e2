package tests

import (
	"cmp"
	"math/rand"
	"regexp"
	"slices"
	"strings"
	"testing"

	"loop.example/medlar/impl"
)

// caseForms is how texts of each case look, in the order in which they are looked for, but those of none, and mixed ones.
var caseForms = []struct {
	form *regexp.Regexp
	kind int
}{{regexp.MustCompile(`^[a-z]+$`), 1}, {regexp.MustCompile(`^[A-Z][a-z]*$`), 2}, {regexp.MustCompile(`^[A-Z]+$`), 3}, {regexp.MustCompile(`^[a-zA-Z]+$`), 4}}

// caseByWords is CaseOf, as the document says it.
func caseByWords(text string) int {
	for _, c := range caseForms {
		if c.form.MatchString(text) {
			return c.kind
		}
	}
	return 0
}

// P50: how texts are written.
func TestCaseOf(t *testing.T) {
	if impl.CaseNone != 0 || impl.CaseLower != 1 || impl.CaseFirst != 2 || impl.CaseUpper != 3 || impl.CaseMixed != 4 {
		t.Error("cases")
	}
	for kind, texts := range [][]string{
		{"", "1", " ", "a1", "1a", "A1", "1A", "a b", "A B", " a", "a ", "A ", "abc1", "ABC1", "Abc1", "aBc1", "a-b", "a\n", "\x00", "a\x00", "\xff", "A\xff", "é", "É", "aé", "Éa", "ａ", "@", "[", "`", "{", "a{", "a`", "A@", "A["},
		{"a", "z", "az", "abc", strings.Repeat("z", 1000)},
		{"A", "Z", "Az", "Zz", "Abc", "Z" + strings.Repeat("z", 1000)},
		{"AZ", "ABC", "AA", strings.Repeat("Z", 1000)},
		{"aB", "aBc", "abC", "aBC", "ABc", "AbC", "zZ", "AZz", strings.Repeat("Z", 1000) + "z"},
	} {
		for _, text := range texts {
			if got := impl.CaseOf(text); got != kind || caseByWords(text) != kind {
				t.Errorf("%.20q: %d, want %d", text, got, kind)
			}
		}
	}
	for _, text := range textsOver("azAZ1\xff", 5) {
		if got, want := impl.CaseOf(text), caseByWords(text); got != want {
			t.Fatalf("%q: %d, want %d", text, got, want)
		}
	}
	for c := range 256 {
		text := string([]byte{byte(c)})
		for _, text := range []string{text, text + "a", "a" + text, "A" + text, text + "A"} {
			if got, want := impl.CaseOf(text), caseByWords(text); got != want {
				t.Fatalf("%q: %d, want %d", text, got, want)
			}
		}
	}
}

// likeByWords is CaseLike of a word, as the document says it.
func likeByWords(word string, like string) string {
	switch caseByWords(like) {
	case 2:
		return string(word[0]-'a'+'A') + word[1:]
	case 3:
		b := []byte(word)
		for i := range b {
			b[i] -= 'a' - 'A'
		}
		return string(b)
	}
	return word
}

// P49: words are written like others.
func TestCaseLike(t *testing.T) {
	for _, c := range []struct{ word, like, want string }{
		{"cat", "abc", "cat"}, {"cat", "Abc", "Cat"}, {"cat", "ABC", "CAT"}, {"cat", "aBc", "cat"}, {"cat", "ABc", "cat"}, {"cat", "a", "cat"}, {"cat", "A", "Cat"}, {"cat", "AB", "CAT"}, {"cat", "", "cat"}, {"cat", "A1", "cat"}, {"cat", "AB1", "cat"}, {"cat", "É", "cat"},
		{"a", "Abc", "A"}, {"a", "ABC", "A"}, {"a", "abc", "a"}, {"az", "Az", "Az"}, {"az", "ZA", "AZ"}, {"abcdefghijkl", "A", "Abcdefghijkl"}, {"mnopqrstuvwx", "ZZ", "MNOPQRSTUVWX"}, {"yz", strings.Repeat("A", 1000), "YZ"}, {"yz", strings.Repeat("A", 1000) + "1", "yz"},
	} {
		if got := impl.CaseLike(c.word, c.like); got != c.want || likeByWords(c.word, c.like) != c.want {
			t.Errorf("%q like %.20q: %q, want %q", c.word, c.like, got, c.want)
		}
	}
	likes := textsOver("azAZ1", 4)
	for _, word := range []string{"a", "z", "ab", "zyx", "abcdefghijkl"} {
		for _, like := range likes {
			got, kind := impl.CaseLike(word, like), impl.CaseOf(like)
			if got != likeByWords(word, like) {
				t.Fatalf("%q like %q: %q", word, like, got)
			}
			if kind != impl.CaseNone && kind != impl.CaseMixed && len(word) > 1 && impl.CaseOf(got) != kind || (kind == impl.CaseNone || kind == impl.CaseMixed) && got != word {
				t.Fatalf("%q like %q: %q", word, like, got)
			}
		}
	}
	for _, text := range notWords {
		for _, like := range []string{"abc", "Abc", "ABC", "aBc", "1", "", text} {
			if got := impl.CaseLike(text, like); got != "" {
				t.Errorf("%.20q like %.20q: %.20q", text, like, got)
			}
		}
	}
}

// keyFarByWords is KeyFar of two letters, as the document says it.
func keyFarByWords(a byte, b byte) int {
	const keys = "qwertyuiopasdfghjkl zxcvbnm   "
	i, k := strings.IndexByte(keys, a), strings.IndexByte(keys, b)
	rows, places := i/10-k/10, i%10-k%10
	return min(max(rows, -rows, places, -places), 4)
}

// P51: how far letters are, each pair both ways.
func TestKeyFar(t *testing.T) {
	for pair, want := range map[string]int{
		"qa": 1, "qp": 4, "aa": 0, "qz": 2, "qw": 1, "qe": 2, "qr": 3, "qt": 4, "qy": 4, "as": 1, "al": 4, "zm": 4, "zx": 1, "zv": 3, "zb": 4, "pl": 1, "pm": 3, "pz": 4, "lm": 2, "pn": 4, "ws": 1, "wx": 2, "tg": 1, "tb": 2, "gb": 1, "yg": 1, "ga": 4, "fa": 3, "cv": 1, "tc": 2, "oc": 4, "im": 2, "um": 2,
	} {
		if got := impl.KeyFar(pair[:1], pair[1:]); got != want || keyFarByWords(pair[0], pair[1]) != want {
			t.Errorf("%q: %d, want %d", pair, got, want)
		}
	}
	counts := map[int]int{}
	for i := range small {
		for k := range small {
			a, b := small[i:i+1], small[k:k+1]
			far := impl.KeyFar(a, b)
			if far != keyFarByWords(a[0], b[0]) || far != impl.KeyFar(b, a) || (far == 0) != (a == b) || far < 0 || far > 4 {
				t.Errorf("%q and %q: %d", a, b, far)
			}
			counts[far]++
		}
	}
	if len(counts) != 5 {
		t.Errorf("%v", counts)
	}
	for _, text := range append(slices.Clone(notWords), "ab", "qw", "aa", "qwertyuiop", "Q", "1", ".", "\n", "@") {
		if impl.KeyFar(text, "a") != -1 || impl.KeyFar("q", text) != -1 || impl.KeyFar(text, text) != -1 {
			t.Errorf("%.20q is a letter", text)
		}
	}
	for c := range 256 {
		text := string([]byte{byte(c)})
		if letter := c >= 'a' && c <= 'z'; (impl.KeyFar(text, "g") >= 0) != letter || (impl.KeyFar("g", text) >= 0) != letter {
			t.Errorf("%q", text)
		}
	}
}

// weighByWords is WeighFar of two words, as the document says it: the least of all ways.
func weighByWords(a string, b string) int {
	known := map[[2]int]int{}
	var cost func(i int, k int) int
	cost = func(i int, k int) int {
		if i == len(a) || k == len(b) {
			return 4 * (len(a) - i + len(b) - k)
		}
		if least, ok := known[[2]int{i, k}]; ok {
			return least
		}
		least := min(4+cost(i+1, k), 4+cost(i, k+1), keyFarByWords(a[i], b[k])+cost(i+1, k+1))
		known[[2]int{i, k}] = least
		return least
	}
	return cost(0, 0)
}

// P52: what it costs to make one word of another.
func TestWeighFar(t *testing.T) {
	for _, c := range []struct {
		a, b string
		want int
	}{
		{"cat", "cat", 0}, {"cat", "vat", 1}, {"cat", "ca", 4}, {"cat", "scat", 4}, {"cat", "act", 4}, {"q", "p", 4}, {"q", "a", 1}, {"q", "z", 2}, {"a", "aa", 4}, {"a", "b", 4}, {"a", "aaaaaaaaaaaa", 44}, {"qqqqqqqqqqqq", "pppppppppppp", 48}, {"qqqqqqqqqqqq", "aaaaaaaaaaaa", 12}, {"q", "pppppppppppp", 48}, {"abcdefghijkl", "abcdefghijkl", 0}, {"abcdefghijkl", "bcdefghijklm", 8},
		// Two letters that are turned cost both changes, or that one is taken away and put.
		{"qw", "wq", 2}, {"qp", "pq", 8}, {"er", "re", 2}, {"ab", "ba", 8},
	} {
		if got := impl.WeighFar(c.a, c.b); got != c.want || weighByWords(c.a, c.b) != c.want {
			t.Errorf("%q and %q: %d, by the document's words %d, want %d", c.a, c.b, got, weighByWords(c.a, c.b), c.want)
		}
	}
	for _, text := range notWords {
		if impl.WeighFar(text, "cat") != -1 || impl.WeighFar("cat", text) != -1 || impl.WeighFar(text, text) != -1 {
			t.Errorf("%.20q", text)
		}
	}
}

// P52: it costs the same both ways, of many words.
func TestWeighFarMany(t *testing.T) {
	r := rand.New(rand.NewSource(921))
	for i := range 20000 {
		letters := []string{"qa", "qazp", small, "qwertyuiop", "er"}[i%5]
		a, b := textOf(r, letters, 1+r.Intn(impl.WordMax)), textOf(r, letters, 1+r.Intn(impl.WordMax))
		if i%20 == 0 {
			b = a
		}
		got := impl.WeighFar(a, b)
		if got != weighByWords(a, b) || got != impl.WeighFar(b, a) || (got == 0) != (a == b) || got > 4*max(len(a), len(b)) {
			t.Fatalf("%q and %q: %d, want %d", a, b, got, weighByWords(a, b))
		}
	}
}

// rankedByWords is Ranked of a book that is ok, as the document says it.
func rankedByWords(b impl.Book, word string) []impl.Guess {
	list := bookGuessesByWords(b, word)
	for i := range list {
		list[i].Far = weighByWords(list[i].Word, word)
	}
	slices.SortFunc(list, func(x, y impl.Guess) int {
		if x.Far != y.Far {
			return x.Far - y.Far
		}
		return cmp.Compare(x.Word, y.Word)
	})
	return list
}

// P53: guesses, the cheapest first.
func TestRanked(t *testing.T) {
	const pets = "act\ncart\ncat\nvat\n"
	for _, c := range []struct {
		book, word string
		want       []impl.Guess
	}{
		{pets, "bat", guesses("vat", 1, "cat", 2)}, {pets, "cat", nil}, {pets, "caat", guesses("cart", 3, "cat", 4)}, {pets, "zzzz", nil}, {"", "a", nil}, {"a\n", "a", nil}, {"a\n", "b", guesses("a", 4)},
		// Those that cost the same come by their words.
		{"gat\nhat\nvat\n", "bat", guesses("gat", 1, "hat", 1, "vat", 1)}, {"aat\nbat\npat\nzat\n", "oat", guesses("pat", 1, "aat", 4, "bat", 4, "zat", 4)},
		// What is turned is one step, but two changes.
		{"act\ncst\n", "cat", guesses("cst", 1, "act", 4)},
		// What is further is none, were it cheaper.
		{"aaq\npqq\n", "qqq", guesses("pqq", 4)}, {"aaq\npqp\n", "qqq", guesses("aaq", 2, "pqp", 8)}, {"ppq\nwwq\n", "qqq", guesses("wwq", 2, "ppq", 8)}, {"aaa\n", "qqq", nil},
	} {
		b := bookOf(t, c.book)
		if by := rankedByWords(b, c.word); !slices.Equal(by, c.want) {
			t.Errorf("%q: by the document's words %v, want %v", c.word, by, c.want)
		}
		wantGuesses(t, c.word, impl.Ranked(b, c.word), c.want)
	}
	for _, text := range notWords {
		wantGuesses(t, text, impl.Ranked(bookOf(t, pets), text), nil)
	}
	for _, b := range badBooks() {
		for _, word := range []string{"cta", "caat", "ax", "z", "dog"} {
			wantGuesses(t, word, impl.Ranked(b, word), nil)
		}
	}
}

// P53: what GuessMax leaves out is not ranked, were it the cheapest.
func TestRankedLimits(t *testing.T) {
	var b impl.Book
	for i := range 11 {
		b.Entries = append(b.Entries, impl.Entry{Stem: "a" + small[i:i+1]})
	}
	list := impl.Ranked(b, "al")
	wantGuesses(t, "al", list, rankedByWords(b, "al"))
	if len(list) != impl.GuessMax || list[0] != (impl.Guess{Word: "ai", Far: 1}) || list[1] != (impl.Guess{Word: "aj", Far: 2}) {
		t.Errorf("%v", list)
	}
	wide := wideBook()
	r := rand.New(rand.NewSource(922))
	for range 200 {
		word := textOf(r, "abcdez", 1+r.Intn(7))
		wantGuesses(t, word, impl.Ranked(wide, word), rankedByWords(wide, word))
	}
}

// someKeysBook is some book of letters that are near, and far, on the keyboard.
func someKeysBook(r *rand.Rand, longest int) impl.Book {
	var b impl.Book
	for _, stem := range someWords(r, "qwap", impl.EntryMax, longest) {
		b.Entries = append(b.Entries, impl.Entry{Stem: stem})
	}
	return b
}

// P53: what is ranked is what is guessed, of many books.
func TestRankedMany(t *testing.T) {
	r := rand.New(rand.NewSource(923))
	counts := map[int]int{}
	for range 3000 {
		b := someKeysBook(r, 5)
		word := textOf(r, "qwapz", 1+r.Intn(6))
		list := impl.Ranked(b, word)
		wantGuesses(t, word, list, rankedByWords(b, word))
		for i, g := range list {
			if g.Far != impl.WeighFar(g.Word, word) || i > 0 && list[i-1].Far > g.Far {
				t.Fatalf("%q: %v", word, list)
			}
		}
		counts[min(len(list), 3)]++
	}
	if counts[0] < 100 || counts[1] < 100 || counts[2] < 100 || counts[3] < 100 {
		t.Errorf("too few of some kind: %v", counts)
	}
}

// partsByWords is PartsOf of a book that is ok, as the document says it.
func partsByWords(b impl.Book, word string) []string {
	if !impl.WordOk(word) {
		return nil
	}
	words := impl.BookWords(b)
	known := func(parts ...string) bool {
		for _, part := range parts {
			if len(part) < 3 || !slices.Contains(words, part) {
				return false
			}
		}
		return true
	}
	for i := range len(word) {
		if known(word[:i], word[i:]) {
			return []string{word[:i], word[i:]}
		}
	}
	for i := range len(word) {
		for k := i; k < len(word); k++ {
			if known(word[:i], word[i:k], word[k:]) {
				return []string{word[:i], word[i:k], word[k:]}
			}
		}
	}
	return nil
}

// P54: words as two or three of a book.
func TestPartsOf(t *testing.T) {
	const pets = "end S  s \nas\ncat/S\ndog/S\nfish\n"
	for _, c := range []struct {
		book, word string
		want       []string
	}{
		{pets, "catdog", []string{"cat", "dog"}}, {pets, "dogcat", []string{"dog", "cat"}}, {pets, "catsdogs", []string{"cats", "dogs"}}, {pets, "catcat", []string{"cat", "cat"}}, {pets, "catdogfish", []string{"cat", "dog", "fish"}}, {pets, "catsdogsfish", []string{"cats", "dogs", "fish"}}, {pets, "fishfishfish", []string{"fish", "fish", "fish"}}, {pets, "catcatcat", []string{"cat", "cat", "cat"}},
		{pets, "catdogcatdog", nil}, {pets, "catcatcatcat", nil}, {pets, "catca", nil}, {pets, "catdo", nil}, {pets, "cat", nil}, {pets, "fish", nil}, {pets, "dog", nil}, {pets, "xcatdog", nil}, {pets, "catxdog", nil}, {pets, "catdogx", nil}, {pets, "catdogfishs", nil}, {pets, "a", nil}, {pets, "fishfishfishf", nil}, {pets, "fishfishfishcat", nil},
		// A part has three letters at least, be it ahead, within or behind.
		{pets, "ascat", nil}, {pets, "catas", nil}, {pets, "catasdog", nil}, {pets, "asas", nil}, {"abc\nas\nascat\ncat\n", "abcascat", []string{"abc", "ascat"}}, {"ab\nabc\nabcd\ncd\nd\n", "abcd", nil}, {"ab\nabc\ncde\nde\n", "abcde", nil}, {"abc\nabcd\nde\ndef\nef\n", "abcdef", []string{"abc", "def"}},
		// The first is as short as can be.
		{"abc\nabcd\ndefg\nefg\n", "abcdefg", []string{"abc", "defg"}}, {"abcd\nabcde\nefgh\nfgh\n", "abcdefgh", []string{"abcd", "efgh"}}, {"aaa\naaaa\naaaaa\n", "aaaaaaaa", []string{"aaa", "aaaaa"}}, {"aaaa\naaaaa\n", "aaaaaaaaa", []string{"aaaa", "aaaaa"}}, {"abc\nabcd\nefg\n", "abcdefg", []string{"abcd", "efg"}},
		// Two are taken ahead of three, were the first of these shorter.
		{"abc\nabcdef\ndef\nghi\n", "abcdefghi", []string{"abcdef", "ghi"}}, {"abc\nabcdefgh\ndefg\nhijkl\nijkl\n", "abcdefghijkl", []string{"abcdefgh", "ijkl"}}, {"aaa\naaaaaa\n", "aaaaaaaaa", []string{"aaa", "aaaaaa"}},
		// Of three the first, then the second, is as short as can be.
		{"aaa\naaaa\n", "aaaaaaaaaa", []string{"aaa", "aaa", "aaaa"}}, {"aaa\naaaa\n", "aaaaaaaaaaa", []string{"aaa", "aaaa", "aaaa"}}, {"aaa\naaaa\naaaaa\n", "aaaaaaaaaaaa", []string{"aaa", "aaaa", "aaaaa"}}, {"abc\nabcd\ndefg\nefg\nhij\n", "abcdefghij", []string{"abc", "defg", "hij"}},
		// A word that is known may have parts, too.
		{"cat\ncatdog\ndog\n", "catdog", []string{"cat", "dog"}}, {"cat\ncatdog\ndog\n", "catdogcat", []string{"catdog", "cat"}}, {"", "catdog", nil},
	} {
		b := bookOf(t, c.book)
		by := partsByWords(b, c.word)
		wantList(t, c.word, impl.PartsOf(b, c.word), by...)
		wantList(t, c.word+", by the document's words", by, c.want...)
	}
}

// P54: books that are not ok, and what is no word, have no parts.
func TestPartsOfRefuses(t *testing.T) {
	for _, b := range badBooks() {
		for _, word := range []string{"catcat", "cat", "catscat", "dodo", "catdo"} {
			wantList(t, "a book that is not ok", impl.PartsOf(b, word))
		}
	}
	b := bookOf(t, "cat\ndog\nfish\nfishy\n")
	for _, text := range append(slices.Clone(notWords), "Catdog", "CATDOG", "cat dog", "cat-dog", "fishyfishfish", "catcatcatcatcat") {
		wantList(t, text, impl.PartsOf(b, text))
	}
	wantList(t, "WordMax", impl.PartsOf(b, "fishfishfish"), "fish", "fish", "fish")
}

// P54: parts of many words are known, and make them.
func TestPartsOfMany(t *testing.T) {
	r := rand.New(rand.NewSource(924))
	counts := map[int]int{}
	for i := range 4000 {
		b := someKeysBook(r, 5)
		if i%2 == 0 {
			b = someBook(r)
		}
		words := impl.BookWords(b)
		word := textOf(r, "abcqw", 1+r.Intn(impl.WordMax))
		for r.Intn(8) > 0 && len(words) > 0 {
			word = words[r.Intn(len(words))]
			for range r.Intn(4) {
				word += words[r.Intn(len(words))]
			}
			if len(word) <= impl.WordMax {
				break
			}
		}
		parts := impl.PartsOf(b, word)
		wantList(t, word, parts, partsByWords(b, word)...)
		for _, part := range parts {
			if len(part) < 3 || !impl.BookKnows(b, part) {
				t.Fatalf("%q: %q", word, parts)
			}
		}
		if len(parts) > 0 && strings.Join(parts, "") != word {
			t.Fatalf("%q: %q", word, parts)
		}
		counts[len(parts)]++
	}
	if counts[0] < 500 || counts[2] < 300 || counts[3] < 100 || len(counts) != 3 {
		t.Errorf("too few of some kind: %v", counts)
	}
}

// badOwn are lists that are not one's own words.
func badOwn() [][]string {
	lists := append(badLists(), manyWords(impl.UserMax+1), manyWords(300))
	return append(lists, append(manyWords(impl.UserMax), "a"), append([]string{"zz"}, manyWords(impl.UserMax-1)...))
}

// addByWords is UserAdd of one's own words, as the document says it.
func addByWords(own []string, word string) ([]string, bool) {
	more := append(slices.Clone(own), word)
	slices.Sort(more)
	more = slices.Compact(more)
	if !impl.WordOk(word) || len(more) > 10 {
		return own, false
	}
	return more, true
}

// P55, P56: words are added, and taken away.
func TestUserAddDrop(t *testing.T) {
	if impl.UserMax != 10 {
		t.Error("UserMax")
	}
	for _, c := range []struct {
		own, word string
		added     bool
		more      string
		dropped   bool
		less      string
	}{
		{"", "a", true, "a", false, ""}, {"b", "a", true, "a b", false, "b"}, {"b", "c", true, "b c", false, "b"}, {"a c", "b", true, "a b c", false, "a c"}, {"a", "a", true, "a", true, ""}, {"a b c", "a", true, "a b c", true, "b c"}, {"a b c", "b", true, "a b c", true, "a c"}, {"a b c", "c", true, "a b c", true, "a b"},
		{"cats", "cat", true, "cat cats", false, "cats"}, {"cat", "cats", true, "cat cats", false, "cat"}, {"a", "abcdefghijkl", true, "a abcdefghijkl", false, "a"}, {"abcdefghijkl", "abcdefghijkl", true, "abcdefghijkl", true, ""},
		{"a b c d e f g h i", "j", true, "a b c d e f g h i j", false, "a b c d e f g h i"}, {"b c d e f g h i j", "a", true, "a b c d e f g h i j", false, "b c d e f g h i j"},
		{"a b c d e f g h i j", "k", false, "a b c d e f g h i j", false, "a b c d e f g h i j"}, {"a b c d e f g h i j", "aa", false, "a b c d e f g h i j", false, "a b c d e f g h i j"}, {"a b c d e f g h i j", "e", true, "a b c d e f g h i j", true, "a b c d f g h i j"},
	} {
		own := strings.Fields(c.own)
		more, added := impl.UserAdd(own, c.word)
		less, dropped := impl.UserDrop(own, c.word)
		if added != c.added || dropped != c.dropped {
			t.Errorf("%q and %q: %v, %v", c.own, c.word, added, dropped)
		}
		wantList(t, c.own+" with "+c.word, more, strings.Fields(c.more)...)
		wantList(t, c.own+" without "+c.word, less, strings.Fields(c.less)...)
	}
}

// P55: each word that is there already may be added, of one word and of UserMax; the same words are told, in new memory.
func TestUserAddOfWhatIsThere(t *testing.T) {
	for n := 1; n <= impl.UserMax; n++ {
		for _, word := range manyWords(n) {
			own := withRoom(manyWords(n), "zz")
			kept := allOf(own)
			more, added := impl.UserAdd(own, word)
			again, twice := impl.UserAdd(more, word)
			if !added || !twice {
				t.Errorf("%q with %q: %v, %v", own, word, added, twice)
			}
			wantList(t, "with "+word, more, manyWords(n)...)
			wantList(t, "with it twice", again, manyWords(n)...)
			wantApart(t, []place{placeOf("own", own), placeOf("more", more), placeOf("again", again)})
			wantList(t, "what was handed in", allOf(own), kept...)
		}
	}
}

// P55, P56: what is no word is not added, nor taken away; of what is not one's own words there is nothing.
func TestUserRefuses(t *testing.T) {
	for _, own := range [][]string{nil, {"cat"}, {"a", "cat", "dog"}, manyWords(impl.UserMax)} {
		for _, text := range notWords {
			more, added := impl.UserAdd(own, text)
			less, dropped := impl.UserDrop(own, text)
			if added || dropped {
				t.Errorf("%.20q: %v, %v", text, added, dropped)
			}
			wantList(t, "with what is no word", more, own...)
			wantList(t, "without what is no word", less, own...)
		}
	}
	for _, own := range badOwn() {
		for _, word := range []string{"a", "b", "cat", "dog", "zz", "zzz", "", "A", own[0]} {
			more, added := impl.UserAdd(own, word)
			less, dropped := impl.UserDrop(own, word)
			if added || dropped || len(more) > 0 || len(less) > 0 {
				t.Errorf("%.50q and %.20q: %.50q, %v; %.50q, %v", own, word, more, added, less, dropped)
			}
		}
	}
}

// P55, P56: one leads back from the other, of many words.
func TestUserMany(t *testing.T) {
	r := rand.New(rand.NewSource(925))
	counts := map[string]int{}
	for i := range 10000 {
		own := someWords(r, "abc", impl.UserMax, 3)
		if i%5 == 0 {
			own = manyWords(impl.UserMax)
		}
		word := textOf(r, "abc", 1+r.Intn(3))
		was := slices.Contains(own, word)
		more, added := impl.UserAdd(own, word)
		want, wantAdded := addByWords(own, word)
		if added != wantAdded {
			t.Fatalf("%q with %q: %v", own, word, added)
		}
		wantList(t, "with "+word, more, want...)
		wantAscending(t, "with "+word, more)
		less, dropped := impl.UserDrop(own, word)
		if dropped != was || slices.Contains(less, word) || dropped && len(less) != len(own)-1 {
			t.Fatalf("%q without %q: %q, %v", own, word, less, dropped)
		}
		if added && !slices.Contains(more, word) {
			t.Fatalf("%q with %q: %q", own, word, more)
		}
		if added && was {
			counts["there"]++
		} else if added {
			back, ok := impl.UserDrop(more, word)
			if !ok {
				t.Fatalf("%q without %q again", more, word)
			}
			wantList(t, "without it again", back, own...)
			counts["added"]++
		}
		if dropped {
			back, ok := impl.UserAdd(less, word)
			if !ok {
				t.Fatalf("%q with %q again", less, word)
			}
			wantList(t, "with it again", back, own...)
			counts["dropped"]++
		} else {
			wantList(t, "without what is not there", less, own...)
		}
	}
	if counts["added"] < 1000 || counts["dropped"] < 1000 || counts["there"] < 1000 {
		t.Errorf("too few of some kind: %v", counts)
	}
}
