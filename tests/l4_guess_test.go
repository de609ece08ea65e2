package tests

import (
	"math/rand"
	"reflect"
	"regexp"
	"slices"
	"strings"
	"testing"

	"loop.example/medlar/impl"
)

// guesses reads how guesses are told here: words, with how far they are.
func guesses(pairs ...any) []impl.Guess {
	var list []impl.Guess
	for i := 0; i < len(pairs); i += 2 {
		list = append(list, impl.Guess{Word: pairs[i].(string), Far: pairs[i+1].(int)})
	}
	return list
}

// wantGuesses fails if guesses are not those that are asked for.
func wantGuesses(t *testing.T, what string, got []impl.Guess, want []impl.Guess) {
	t.Helper()
	if !slices.Equal(got, want) {
		t.Fatalf("%s: %v, want %v", what, got, want)
	}
}

// guessesByWords is Guesses of words, as the document says it, however many there are: distance by distance, in the order of words.
func guessesByWords(words []string, word string, far int) []impl.Guess {
	var list []impl.Guess
	for away := 0; away <= min(far, 2*impl.WordMax); away++ {
		for _, other := range words {
			if farByWords(other, word) == away && len(list) < impl.GuessMax {
				list = append(list, impl.Guess{Word: other, Far: away})
			}
		}
	}
	return list
}

// bookGuessesByWords is BookGuesses of a book that is ok, as the document says it.
func bookGuessesByWords(b impl.Book, word string) []impl.Guess {
	words := impl.BookWords(b)
	if !impl.WordOk(word) || slices.Contains(words, word) {
		return nil
	}
	var list []impl.Guess
	for _, g := range guessesByWords(words, word, 2) {
		if g.Far == guessesByWords(words, word, 2)[0].Far {
			list = append(list, g)
		}
	}
	return list
}

// P17: guesses of few words.
func TestGuessesFew(t *testing.T) {
	if impl.GuessMax != 10 {
		t.Error("GuessMax")
	}
	pets := []string{"act", "cart", "cat", "dog"}
	for _, c := range []struct {
		words []string
		word  string
		far   int
		want  []impl.Guess
	}{
		{pets, "cta", 2, guesses("cat", 1, "act", 2)},
		{pets, "cta", 1, guesses("cat", 1)},
		{pets, "cta", 3, guesses("cat", 1, "act", 2, "cart", 3, "dog", 3)},
		{pets, "cat", 0, guesses("cat", 0)},
		{pets, "cta", 0, nil},
		{pets, "cat", 1, guesses("cat", 0, "act", 1, "cart", 1)},
		{pets, "cat", -1, nil},
		{pets, "cat", -1 << 62, nil},
		{pets, "cat", 1 << 62, guesses("cat", 0, "act", 1, "cart", 1, "dog", 3)},
		{nil, "cat", 12, nil},
		{[]string{}, "cat", 12, nil},
		{[]string{"abcdefghijkl"}, "lkjihgfedcba", 12, guesses("abcdefghijkl", 11)},
		{[]string{"aaaaaaaaaaaa"}, "bbbbbbbbbbbb", 12, guesses("aaaaaaaaaaaa", 12)},
		{[]string{"aaaaaaaaaaaa"}, "bbbbbbbbbbbb", 11, nil},
		{[]string{"a", "aaaaaaaaaaaa"}, "a", 12, guesses("a", 0, "aaaaaaaaaaaa", 11)},
		// No letter is touched twice.
		{[]string{"ca"}, "abc", 12, guesses("ca", 3)},
		// The nearer one is the later one.
		{[]string{"aaa", "aab", "abb", "bbb"}, "bbb", 3, guesses("bbb", 0, "abb", 1, "aab", 2, "aaa", 3)},
	} {
		if by := guessesByWords(c.words, c.word, c.far); !slices.Equal(by, c.want) {
			t.Errorf("%q of %q: by the document's words %v, want %v", c.word, c.words, by, c.want)
		}
		wantGuesses(t, c.word, impl.Guesses(c.words, c.word, c.far), c.want)
	}
}

// P17: guesses of many words are those that the document tells.
func TestGuessesMany(t *testing.T) {
	r := rand.New(rand.NewSource(15))
	for i := range 700 {
		letters := small[:1+i%4]
		words := someWords(r, letters, 1+i%60, 1+i%impl.WordMax)
		for range 4 {
			word := textOf(r, letters, 1+r.Intn(impl.WordMax))
			if len(words) > 0 && r.Intn(3) == 0 {
				word = words[r.Intn(len(words))]
			}
			for _, far := range []int{-1, 0, 1, 2, 3, 5, 12, 100} {
				wantGuesses(t, word, impl.Guesses(words, word, far), guessesByWords(words, word, far))
			}
		}
	}
}

// P17: more than GuessMax, and 300 words, and one more.
func TestGuessesLimits(t *testing.T) {
	var words []string
	for _, c := range small[:13] {
		words = append(words, "x"+string(c))
	}
	for _, n := range []int{9, 10, 11, 13} {
		list := impl.Guesses(words[:n], "xz", 1)
		want := guessesByWords(words[:n], "xz", 1)
		if len(list) != min(n, impl.GuessMax) {
			t.Errorf("%d of %d", len(list), n)
		}
		wantGuesses(t, "all as far", list, want)
	}
	// Nearer ones come ahead of GuessMax others, though they are later words.
	wantGuesses(t, "the last is the nearest", impl.Guesses(words, "xm", 1)[:2], guesses("xm", 0, "xa", 1))
	many := manyWords(300)
	if list := impl.Guesses(many, "abc", 9); len(list) != impl.GuessMax {
		t.Errorf("%v", list)
	}
	wantGuesses(t, "300", impl.Guesses(many, "gzz", 3), guessesByWords(many, "gzz", 3))
	if list := impl.Guesses(manyWords(301), "abc", 9); len(list) > 0 {
		t.Errorf("301: %v", list)
	}
}

// P17: nothing is guessed of what is no list of words, or for what is no word.
func TestGuessesRefuses(t *testing.T) {
	for _, words := range badLists() {
		for _, word := range []string{"cat", "a", "b"} {
			if list := impl.Guesses(words, word, 12); len(list) > 0 {
				t.Errorf("%.80q: %v", words, list)
			}
		}
	}
	for _, word := range notWords {
		if list := impl.Guesses([]string{"a", "cat", "z"}, word, 100); len(list) > 0 {
			t.Errorf("%q: %v", word, list)
		}
	}
}

// P18: guesses of a small book.
func TestBookGuessesFew(t *testing.T) {
	b, ok := impl.BookGet("end S  s \nact\ncart\ncat/S\nzebra\n")
	if !ok {
		t.Fatal("no book")
	}
	for _, c := range []struct {
		word string
		want []impl.Guess
	}{
		{"cta", guesses("cat", 1)}, {"cat", nil}, {"cats", nil}, {"act", nil}, {"catss", guesses("cats", 1)}, {"cxt", guesses("cat", 1)}, {"ct", guesses("act", 1, "cat", 1)},
		{"cut", guesses("cat", 1)}, {"zbr", guesses("zebra", 2)}, {"zb", nil}, {"cad", guesses("cat", 1)}, {"tat", guesses("cat", 1)}, {"ca", guesses("cat", 1)}, {"carts", guesses("cart", 1, "cats", 1)}, {"xxt", guesses("act", 2, "cat", 2)}, {"xxcat", guesses("cat", 2)}, {"xxxcat", nil}, {"zzzz", nil},
	} {
		if by := bookGuessesByWords(b, c.word); !slices.Equal(by, c.want) {
			t.Errorf("%q: by the document's words %v, want %v", c.word, by, c.want)
		}
		wantGuesses(t, c.word, impl.BookGuesses(b, c.word), c.want)
	}
	for _, word := range notWords {
		wantGuesses(t, word, impl.BookGuesses(b, word), nil)
	}
	wantGuesses(t, "the empty book", impl.BookGuesses(impl.Book{}, "a"), nil)
	one := impl.Book{Entries: []impl.Entry{{Stem: "a"}}}
	wantGuesses(t, "one letter", impl.BookGuesses(one, "b"), guesses("a", 1))
	wantGuesses(t, "none the same", impl.BookGuesses(one, "bc"), guesses("a", 2))
	wantGuesses(t, "three away", impl.BookGuesses(one, "bcd"), nil)
}

// P18: all that are as far as the nearest are told, but GuessMax of them at most.
func TestBookGuessesAllAsFar(t *testing.T) {
	for _, n := range []int{9, 10, 11, impl.EntryMax} {
		for _, c := range []struct {
			word string
			far  int
		}{{"az", 1}, {"zz", 2}, {"azz", 2}} {
			var b impl.Book
			var want []impl.Guess
			for i := range n {
				b.Entries = append(b.Entries, impl.Entry{Stem: "a" + small[i:i+1]})
				if i < impl.GuessMax {
					want = append(want, impl.Guess{Word: "a" + small[i:i+1], Far: c.far})
				}
			}
			wantGuesses(t, c.word, impl.BookGuesses(b, c.word), want)
		}
	}
	// One nearer word leaves all others out.
	b := impl.Book{Entries: []impl.Entry{{Stem: "ab"}, {Stem: "ac"}, {Stem: "ad"}, {Stem: "zzz"}}}
	wantGuesses(t, "one nearer", impl.BookGuesses(b, "azz"), guesses("zzz", 1))
}

// wideBook is a book of more than 300 words.
func wideBook() impl.Book {
	b := impl.Book{Affixes: eightAffixes(), Entries: entriesOf(impl.EntryMax)}
	for i := range b.Entries {
		b.Entries[i].Flags = "ABCD"
	}
	return b
}

// P18: books guess what the document tells, also those of more than 300 words.
func TestBookGuessesMany(t *testing.T) {
	r := rand.New(rand.NewSource(16))
	wide := wideBook()
	if n := len(impl.BookWords(wide)); n <= 300 {
		t.Fatalf("%d words", n)
	}
	for range 300 {
		word := textOf(r, "abcdez", 1+r.Intn(7))
		wantGuesses(t, word, impl.BookGuesses(wide, word), bookGuessesByWords(wide, word))
	}
	far := map[int]int{}
	for range 300 {
		b := someBook(r)
		for range 5 {
			word := textOf(r, "abcdz", 1+r.Intn(8))
			list := impl.BookGuesses(b, word)
			wantGuesses(t, word, list, bookGuessesByWords(b, word))
			nearest := 99
			for _, known := range impl.BookWords(b) {
				nearest = min(nearest, farByWords(known, word))
			}
			if (len(list) > 0) != (nearest == 1 || nearest == 2) {
				t.Fatalf("%q: %v, the nearest is %d away", word, list, nearest)
			}
			for _, g := range list {
				if g.Far != nearest || !impl.BookKnows(b, g.Word) {
					t.Fatalf("%q: %v", word, list)
				}
			}
			far[nearest]++
		}
	}
	if far[0] < 20 || far[1] < 20 || far[2] < 20 || far[3] < 20 {
		t.Errorf("too few of some kind: %v", far)
	}
}

// P18, P20: books that are not ok guess and mark nothing.
func TestBadBooksGuess(t *testing.T) {
	for _, b := range badBooks() {
		for _, word := range []string{"cta", "caat", "ax", "z", "a", "dog"} {
			if list := impl.BookGuesses(b, word); len(list) > 0 {
				t.Errorf("%+v: %v", b, list)
			}
			if list := impl.Check(b, word+" x, y"); len(list) > 0 {
				t.Errorf("%+v: %v", b, list)
			}
		}
	}
}

// P19: guesses of a machine.
func TestMachineGuesses(t *testing.T) {
	m, _ := impl.MachineOf([]string{"act", "cart", "cat", "dog"})
	wantList(t, "cat", impl.MachineGuesses(m, "cat"), "act", "cart")
	wantList(t, "do", impl.MachineGuesses(m, "do"), "dog")
	wantList(t, "cta", impl.MachineGuesses(m, "cta"), "cat")
	wantList(t, "zzz", impl.MachineGuesses(m, "zzz"))
	for _, word := range notWords {
		wantList(t, word, impl.MachineGuesses(m, word))
	}
	for _, bad := range badMachines() {
		for _, word := range []string{"a", "b", "ab", "aaaaaaaaaaaa"} {
			wantList(t, "not ok", impl.MachineGuesses(bad, word))
		}
	}
	// The empty text is one step from a letter, but is no word.
	wantList(t, "the empty text", impl.MachineGuesses([]impl.State{state(true, 'b', 1), state(true)}, "a"), "b")
	none, _ := impl.MachineOf(nil)
	wantList(t, "no words", impl.MachineGuesses(none, "a"))
	// There may be more than GuessMax, and of machines of more texts than have ranks.
	full := chain(impl.WordMax, 26)
	if list := impl.MachineGuesses(full, strings.Repeat("a", impl.WordMax)); len(list) != 25*impl.WordMax {
		t.Errorf("%d guesses", len(list))
	}
	wantList(t, "one too short", impl.MachineGuesses(chain(2, 1), "a"), "aa")
}

// P19: a machine guesses just the words that it knows one step away, of many machines.
func TestMachineGuessesMany(t *testing.T) {
	r := rand.New(rand.NewSource(17))
	asked := textsOver("abz", 4)[1:]
	for range 300 {
		m := someMachine(r)
		for range 10 {
			word := asked[r.Intn(len(asked))]
			var want []string
			for _, text := range textsFrom(m, 0) {
				if text != "" && farByWords(text, word) == 1 {
					want = append(want, text)
				}
			}
			wantList(t, word, impl.MachineGuesses(m, word), want...)
		}
	}
}

// P71: a machine of a book's words knows what the book knows, and guesses what the book tells one step away.
func TestMachineOfBook(t *testing.T) {
	r := rand.New(rand.NewSource(18))
	nearer := 0
	for range 150 {
		b := someBook(r)
		words := impl.BookWords(b)
		m, ok := impl.MachineOf(words)
		if !ok {
			t.Fatalf("%d words", len(words))
		}
		for range 20 {
			word := textOf(r, "abc", 1+r.Intn(6))
			if impl.MachineKnows(m, word) != impl.BookKnows(b, word) {
				t.Fatalf("%q is known: %v", word, !impl.BookKnows(b, word))
			}
			list := impl.BookGuesses(b, word)
			if len(list) == 0 || list[0].Far != 1 {
				continue
			}
			nearer++
			var told []string
			for _, g := range list {
				told = append(told, g.Word)
			}
			near := impl.MachineGuesses(m, word)
			wantList(t, word, told, near[:min(len(near), impl.GuessMax)]...)
		}
	}
	if nearer < 100 {
		t.Errorf("only %d are near", nearer)
	}
}

// lettersForm is letters side by side.
var lettersForm = regexp.MustCompile(`[a-zA-Z]+`)

// checkByWords is Check of a book that is ok, as the document says it.
func checkByWords(b impl.Book, text string) []impl.Guess {
	var list []impl.Guess
	for _, at := range lettersForm.FindAllStringIndex(text, -1) {
		word := strings.ToLower(text[at[0]:at[1]])
		if !slices.Contains(impl.BookWords(b), word) {
			list = append(list, impl.Guess{Word: word, Far: at[0]})
		}
	}
	return list
}

// P20: what is marked in texts.
func TestCheck(t *testing.T) {
	b, ok := impl.BookGet("end S  s \nact\ncart\ncat/S\n")
	if !ok {
		t.Fatal("no book")
	}
	long := strings.Repeat("catact", 50)
	for _, c := range []struct {
		text string
		want []impl.Guess
	}{
		{"", nil}, {" .,;1 2\n", nil}, {"cat", nil}, {"CAT Cats aCt", nil}, {"dog", guesses("dog", 0)}, {" dog", guesses("dog", 1)}, {"Dog.", guesses("dog", 0)},
		{"The CAT's act, caart", guesses("the", 0, "s", 8, "caart", 15)},
		{"dog dog", guesses("dog", 0, "dog", 4)}, {"cat1dog", guesses("dog", 4)}, {"cat_act-do", guesses("do", 8)}, {"a\x00b", guesses("a", 0, "b", 2)}, {"azAZ[`{@", guesses("azaz", 0)}, {"@x[y`z{w", guesses("x", 1, "y", 3, "z", 5, "w", 7)},
		// Places are those of bytes, and other letters are none.
		{"é dog", guesses("dog", 3)}, {"caté", nil}, {"naïve", guesses("na", 0, "ve", 4)}, {"\xffcat\xffdo", guesses("do", 5)}, {"\u212aat", guesses("at", 3)}, {"\u017fo", guesses("o", 2)},
		// More letters than a word has are no word that is known.
		{"abcdefghijklm", guesses("abcdefghijklm", 0)}, {"catcatcatcatcat", guesses("catcatcatcatcat", 0)}, {long, guesses(long, 0)}, {strings.ToUpper(long), guesses(long, 0)},
		{long[:296] + " Cat", guesses(long[:296], 0)}, {long[:296] + " do.", guesses(long[:296], 0, "do", 297)}, {long + ".", nil}, {long + "c", nil}, {strings.Repeat(" ", 297) + "dog", guesses("dog", 297)}, {strings.Repeat(" ", 298) + "dog", nil}, {strings.Repeat("x ", 100000), nil},
	} {
		wantGuesses(t, c.text, impl.Check(b, c.text), c.want)
	}
	if n := len(impl.Check(b, strings.Repeat("x ", 150))); n != 150 {
		t.Errorf("%d of 150", n)
	}
	wantGuesses(t, "the empty book", impl.Check(impl.Book{}, "Cat a"), guesses("cat", 0, "a", 4))
}

// P20: what is marked in many texts, in order, is not known, and nothing else is left out.
func TestCheckMany(t *testing.T) {
	r := rand.New(rand.NewSource(19))
	marked := 0
	for range 1500 {
		b := someBook(r)
		text := textOf(r, "abcabcABC c.'\x00\xff1", r.Intn(60))
		list := impl.Check(b, text)
		wantGuesses(t, text, list, checkByWords(b, text))
		for _, g := range list {
			if impl.BookKnows(b, g.Word) || !strings.EqualFold(text[g.Far:g.Far+len(g.Word)], g.Word) {
				t.Fatalf("%q: %v", text, g)
			}
		}
		marked += len(list)
	}
	if marked < 1000 {
		t.Errorf("only %d are marked", marked)
	}
}

// What was handed in is not changed, nor what stands behind its end; no answer shares memory with it, or with another answer.
func TestGuessesAreNew(t *testing.T) {
	r := rand.New(rand.NewSource(20))
	for range 60 {
		book := someBook(r)
		b := impl.Book{Affixes: withRoom(book.Affixes, affix("end", "X", "", "x", "")), Entries: withRoom(book.Entries, impl.Entry{Stem: "zz"})}
		affixes, entries := slices.Clone(b.Affixes[:cap(b.Affixes)]), slices.Clone(b.Entries[:cap(b.Entries)])
		words := withRoom(someWords(r, "abc", 30, 4), "zz")
		kept := slices.Clone(words[:cap(words)])
		m := someMachine(r)
		answers := func() ([][]impl.Guess, [][]string) {
			return [][]impl.Guess{impl.Guesses(words, "abc", 3), impl.Guesses(words, "b", 1), impl.BookGuesses(b, "bbz"), impl.Check(b, "zz a b Cx")}, [][]string{impl.MachineGuesses(m, "ab"), impl.MachineGuesses(m, "b")}
		}
		want, wantNear := answers()
		again, againNear := answers()
		gone, goneNear := answers()
		for _, list := range gone {
			spoil(list, impl.Guess{Word: "gone", Far: 7})
		}
		for _, list := range goneNear {
			spoil(list, "gone")
		}
		if !slices.Equal(kept, words[:cap(words)]) || !slices.Equal(affixes, b.Affixes[:cap(b.Affixes)]) || !slices.Equal(entries, b.Entries[:cap(b.Entries)]) {
			t.Fatal("changed")
		}
		spoil(words, "gone")
		spoil(b.Affixes, impl.Affix{})
		spoil(b.Entries, impl.Entry{})
		if !reflect.DeepEqual(want, again) || !reflect.DeepEqual(wantNear, againNear) {
			t.Fatal("answers share memory")
		}
	}
}

// Machines and guesses answer whatever they are given.
func TestAnyStates(t *testing.T) {
	r := rand.New(rand.NewSource(21))
	text := func() string {
		return textOf(r, "abc\x00\xff é", r.Intn(4))
	}
	ok := 0
	for range 30000 {
		m := make([]impl.State, r.Intn(5))
		for at := range m {
			m[at].Ends = r.Intn(2) == 0
			for range r.Intn(3) {
				m[at].Edges = append(m[at].Edges, impl.Edge{Letter: '`' + r.Intn(28), To: r.Intn(len(m)+2) - 1})
			}
		}
		word, rank := text(), r.Intn(7)-2
		if impl.MachineOk(m) {
			ok++
		} else if impl.MachineKnows(m, word) || impl.MachineCount(m) != 0 || impl.MachineRank(m, word) != -1 || impl.MachineWord(m, rank) != "" || len(impl.MachineGuesses(m, word)) > 0 {
			t.Fatalf("%v", m)
		}
		if impl.MachineKnows(m, word) != (impl.MachineRank(m, word) >= 0) {
			t.Fatalf("%v: %q", m, word)
		}
		impl.MachineWord(m, rank)
		impl.MachineGuesses(m, word)
		words := []string{text(), text()}
		if _, made := impl.MachineOf(words); made != (impl.WordOk(words[0]) && impl.WordOk(words[1]) && words[0] < words[1]) {
			t.Fatalf("%q: %v", words, made)
		}
		impl.Guesses(words, text(), r.Intn(5)-1)
		b := impl.Book{Entries: []impl.Entry{{Stem: text(), Flags: text()}}}
		impl.BookGuesses(b, text())
		impl.Check(b, text()+text())
	}
	if ok < 1000 {
		t.Errorf("only %d are ok", ok)
	}
}
