package tests

import (
	"math/rand"
	"reflect"
	"regexp"
	"slices"
	"strings"
	"testing"

	"loop.example/medlar/impl"
)

// sameBook says whether two books are the same; the empty list and the nil list are.
func sameBook(a impl.Book, b impl.Book) bool {
	return slices.Equal(a.Affixes, b.Affixes) && slices.Equal(a.Entries, b.Entries)
}

// entriesOf is so many entries, in order.
func entriesOf(n int) []impl.Entry {
	var list []impl.Entry
	for i := range n {
		list = append(list, impl.Entry{Stem: small[i/5:i/5+1] + small[i%5:i%5+1]})
	}
	return list
}

// fullBook has as many affixes, entries, flags and letters as there may be.
func fullBook() impl.Book {
	b := impl.Book{Affixes: eightAffixes(), Entries: entriesOf(impl.EntryMax)}
	b.Affixes[6] = affix("end", "D", "abcd", "efgh", "abcd")
	b.Entries[20].Flags = "ABCD"
	b.Entries[23].Stem = "zzzzzzzzzzzz"
	return b
}

// sampleBook is a book in which some words have two stems.
func sampleBook() impl.Book {
	return impl.Book{
		Affixes: []impl.Affix{affix("end", "S", "", "s", ""), affix("end", "S", "y", "ies", "y"), affix("front", "U", "", "un", "")},
		Entries: []impl.Entry{{Stem: "cat", Flags: "S"}, {Stem: "cats"}, {Stem: "do", Flags: "SU"}, {Stem: "dos", Flags: "U"}, {Stem: "try", Flags: "S"}, {Stem: "undo", Flags: "SU"}},
	}
}

// badBooks are books that are not ok.
func badBooks() []impl.Book {
	cat, do := impl.Entry{Stem: "cat"}, impl.Entry{Stem: "do"}
	books := []impl.Book{
		{Entries: []impl.Entry{do, cat}}, {Entries: []impl.Entry{cat, cat}}, {Entries: []impl.Entry{cat, {Stem: "cat", Flags: "S"}}}, {Entries: []impl.Entry{cat, do, cat}}, {Entries: []impl.Entry{{Stem: "cats"}, cat}},
		{Entries: entriesOf(impl.EntryMax + 1)},
	}
	for _, list := range badAffixLists() {
		books = append(books, impl.Book{Affixes: list}, impl.Book{Affixes: list, Entries: []impl.Entry{cat}})
	}
	for _, e := range badEntries() {
		books = append(books, impl.Book{Entries: []impl.Entry{e}})
	}
	return books
}

// P9: which books are ok, limits being met exactly.
func TestBookOk(t *testing.T) {
	full := fullBook()
	for i, b := range []impl.Book{{}, full, sampleBook(), {Affixes: full.Affixes}, {Entries: full.Entries}, {Affixes: []impl.Affix{}, Entries: []impl.Entry{}}, {Entries: []impl.Entry{{Stem: "cat"}, {Stem: "cats"}}}} {
		if !impl.BookOk(b) {
			t.Errorf("%d is not ok", i)
		}
	}
	for _, b := range badBooks() {
		if impl.BookOk(b) {
			t.Errorf("ok: %+v", b)
		}
	}
}

// P9, P10, P11, P12: of a book that is not ok there is nothing.
func TestBadBooks(t *testing.T) {
	for _, b := range badBooks() {
		for _, word := range []string{"cat", "do", "aa", "", "y"} {
			if impl.BookKnows(b, word) || len(impl.BookStems(b, word)) > 0 {
				t.Errorf("%+v knows %q", b, word)
			}
		}
		if words := impl.BookWords(b); len(words) > 0 {
			t.Errorf("%+v: %q", b, words)
		}
		if text := impl.BookPut(b); text != "" {
			t.Errorf("%+v: %q", b, text)
		}
	}
}

// P9, P10, P11: of a book whose stems make the same words.
func TestBookSample(t *testing.T) {
	b := sampleBook()
	wantList(t, "words", impl.BookWords(b), "cat", "cats", "do", "dos", "tries", "try", "trys", "undo", "undos", "unundo", "unundos")
	for _, c := range []struct {
		word  string
		stems []string
	}{
		{"cat", []string{"cat"}}, {"cats", []string{"cat", "cats"}}, {"do", []string{"do"}}, {"dos", []string{"do", "dos"}}, {"undo", []string{"do", "undo"}},
		{"undos", []string{"do", "dos", "undo"}}, {"unundos", []string{"undo"}}, {"tries", []string{"try"}}, {"trie", nil}, {"uncat", nil}, {"uncats", nil}, {"catss", nil}, {"", nil}, {"Cat", nil}, {"cat\n", nil}, {"abcabcabcabca", nil},
	} {
		wantList(t, c.word, impl.BookStems(b, c.word), c.stems...)
		if impl.BookKnows(b, c.word) != (len(c.stems) > 0) {
			t.Errorf("knows %q: %v", c.word, len(c.stems) == 0)
		}
	}
	if impl.BookKnows(impl.Book{}, "") || impl.BookKnows(impl.Book{}, "a") || len(impl.BookWords(impl.Book{})) > 0 {
		t.Error("the empty book knows something")
	}
	wantList(t, "affixes alone", impl.BookWords(impl.Book{Affixes: b.Affixes}))
}

// P9, P10, P11: of many books: words are all forms, and a word is known just if some stem makes it, as the document says.
func TestManyBooks(t *testing.T) {
	r := rand.New(rand.NewSource(3))
	asked := append(textsOver("abc", 5), notWords...)
	for range 40 {
		b := someBook(r)
		makers := map[string][]string{}
		for _, e := range b.Entries {
			for _, word := range formsByWords(b.Affixes, e) {
				makers[word] = append(makers[word], e.Stem)
			}
		}
		var words []string
		for word := range makers {
			words = append(words, word)
		}
		slices.Sort(words)
		wantList(t, "words", impl.BookWords(b), words...)
		for _, e := range b.Entries {
			if !slices.Contains(impl.BookStems(b, e.Stem), e.Stem) {
				t.Fatalf("%q is no stem of itself", e.Stem)
			}
		}
		for range 60 {
			word := asked[r.Intn(len(asked))]
			wantList(t, word, impl.BookStems(b, word), makers[word]...)
			if impl.BookKnows(b, word) != (len(makers[word]) > 0) {
				t.Fatalf("%q is known: %v", word, len(makers[word]) == 0)
			}
		}
		for _, word := range words {
			wantList(t, word, impl.BookStems(b, word), makers[word]...)
			if !impl.BookKnows(b, word) {
				t.Fatalf("%q is not known", word)
			}
		}
	}
}

// P9: the words of a full book are all there.
func TestFullBook(t *testing.T) {
	b := impl.Book{Affixes: eightAffixes(), Entries: entriesOf(impl.EntryMax)}
	made := map[string]bool{}
	for i := range b.Entries {
		b.Entries[i].Flags = "ABCD"
		for _, word := range formsByWords(b.Affixes, b.Entries[i]) {
			made[word] = true
		}
	}
	words := impl.BookWords(b)
	wantAscending(t, "words", words)
	if len(words) != len(made) || len(words) < 300 {
		t.Errorf("%d words, want %d", len(words), len(made))
	}
}

// P12: how a book is written.
func TestBookPut(t *testing.T) {
	for _, c := range []struct {
		b    impl.Book
		text string
	}{
		{impl.Book{}, ""},
		{impl.Book{Entries: []impl.Entry{{Stem: "cat"}}}, "cat\n"},
		{impl.Book{Entries: []impl.Entry{{Stem: "cat", Flags: "ABYZ"}, {Stem: "end"}, {Stem: "front"}}}, "cat/ABYZ\nend\nfront\n"},
		{impl.Book{Affixes: []impl.Affix{affix("end", "S", "", "", "")}}, "end S   \n"},
		{impl.Book{Affixes: []impl.Affix{affix("front", "A", "", "", "")}}, "front A   \n"},
		{impl.Book{Affixes: []impl.Affix{affix("front", "Z", "a", "b", "ac"), affix("end", "A", "y", "", "ay")}, Entries: []impl.Entry{{Stem: "do", Flags: "A"}}}, "front Z a b ac\nend A y  ay\ndo/A\n"},
		{sampleBook(), "end S  s \nend S y ies y\nfront U  un \ncat/S\ncats\ndo/SU\ndos/U\ntry/S\nundo/SU\n"},
	} {
		if text := impl.BookPut(c.b); text != c.text {
			t.Errorf("%q, want %q", text, c.text)
		}
		if b, ok := impl.BookGet(c.text); !ok || !sameBook(b, c.b) {
			t.Errorf("%q: %+v %v", c.text, b, ok)
		}
	}
	full := fullBook()
	if b, ok := impl.BookGet(impl.BookPut(full)); !ok || !sameBook(b, full) || strings.Count(impl.BookPut(full), "\n") != impl.AffixMax+impl.EntryMax {
		t.Errorf("%+v %v", b, ok)
	}
}

// P12: texts that are no book.
func TestBookGetRefuses(t *testing.T) {
	texts := []string{
		"\n", " \n", "cat", "cat\n\n", "\ncat\n", "cat\n\ndo\n", "cat\ndo", "cat \n", " cat\n", "cat\r\n", "cat\x00\n", "Cat\n", "c4t\n", "é\n", "abcabcabcabca\n",
		"cat/\n", "cat/BA\n", "cat/AA\n", "cat/a\n", "cat/ABCDE\n", "cat//A\n", "cat/A/B\n", "/A\n", "cat /A\n", "cat/ A\n", "do\ncat\n", "cat\ncat\n", "cat\ncat/A\n", "cats\ncat\n",
		"end\n \n", "end S  s\n", "end S  s  \n", "end  S  s \n", " end S  s \n", "end S s \n", "end s  s \n", "end SS  s \n", "end   s \n", "End S  s \n", "ends S  s \n", "front\tS\t\ts\t\n", "end S y s x\n", "end S y s ya\n", "front S y s ay\n",
		"end S abcde  abcde\n", "end S  abcde \n", "end S   abcde\n", "end S  S \n", "end S  s \nend S  s \n", "end S  s ", "cat\nend S  s \n", "end S  s \ncat\nend T  s \n", "end S  s \n\ncat\n", "back S  s \n", " S  s \n", "true S  s \n",
		impl.BookPut(fullBook()) + "zzzzzzzzzzzzz\n", "front A  b \n" + impl.BookPut(fullBook()), strings.Repeat("a\n", 100000), strings.Repeat("end S  s \n", 10000), strings.Repeat(" ", 100000), strings.Repeat("\n", 100000),
	}
	for _, n := range []int{impl.EntryMax + 1, impl.EntryMax + 20} {
		text := ""
		for _, e := range entriesOf(n) {
			text += e.Stem + "\n"
		}
		texts = append(texts, text)
	}
	for _, text := range texts {
		if b, ok := impl.BookGet(text); ok || !sameBook(b, impl.Book{}) {
			t.Errorf("%.40q: %+v %v", text, b, ok)
		}
	}
}

var (
	affixForm = regexp.MustCompile(`\A(end|front) ([A-Z]) ([a-z]{0,4}) ([a-z]{0,4}) ([a-z]{0,4})\z`)
	entryForm = regexp.MustCompile(`\A([a-z]{1,12})(?:/([A-Z]{1,4}))?\z`)
)

// bookByWords reads a book line by line, by forms of lines.
func bookByWords(text string) (impl.Book, bool) {
	var b impl.Book
	for text != "" {
		line, rest, found := strings.Cut(text, "\n")
		text = rest
		if p := affixForm.FindStringSubmatch(line); found && p != nil && len(b.Entries) == 0 {
			b.Affixes = append(b.Affixes, affix(p[1], p[2], p[3], p[4], p[5]))
		} else if p := entryForm.FindStringSubmatch(line); found && p != nil {
			b.Entries = append(b.Entries, impl.Entry{Stem: p[1], Flags: p[2]})
		} else {
			return impl.Book{}, false
		}
	}
	if !impl.BookOk(b) {
		return impl.Book{}, false
	}
	return b, true
}

// P12: what is written is read back, of many books; with a byte more, less or changed it is read just if it is written so.
func TestBookBothWays(t *testing.T) {
	r := rand.New(rand.NewSource(4))
	for range 200 {
		b := someBook(r)
		text := impl.BookPut(b)
		if back, ok := impl.BookGet(text); !ok || !sameBook(back, b) {
			t.Fatalf("%q: %+v", text, back)
		}
		for range 200 {
			at := r.Intn(len(text) + 1)
			put := textOf(r, "\n /abcxyzABCDE\x00", r.Intn(2))
			changed := text[:at] + put + text[min(len(text), at+r.Intn(2)):]
			want, there := bookByWords(changed)
			got, ok := impl.BookGet(changed)
			if ok != there || !sameBook(got, want) || ok && impl.BookPut(got) != changed {
				t.Fatalf("%q: %+v %v", changed, got, ok)
			}
		}
	}
}

// P74: with flags taken from an entry there are no other words.
func TestFlagLess(t *testing.T) {
	r := rand.New(rand.NewSource(5))
	books := []impl.Book{sampleBook()}
	for range 60 {
		books = append(books, someBook(r))
	}
	for _, b := range books {
		words := impl.BookWords(b)
		for i, e := range b.Entries {
			for k := range len(e.Flags) {
				less := impl.Book{Affixes: b.Affixes, Entries: slices.Clone(b.Entries)}
				less.Entries[i].Flags = e.Flags[:k] + e.Flags[k+1:]
				fewer := impl.BookWords(less)
				if len(fewer) > len(words) || len(fewer) < len(b.Entries) {
					t.Fatalf("%d of %d words", len(fewer), len(words))
				}
				for _, word := range fewer {
					if _, found := slices.BinarySearch(words, word); !found || !impl.BookKnows(b, word) {
						t.Fatalf("%q without %q of %q alone", word, e.Flags[k:k+1], e.Stem)
					}
				}
			}
		}
	}
	less := sampleBook()
	less.Entries[5].Flags = "S"
	wantList(t, "less", impl.BookWords(less), "cat", "cats", "do", "dos", "tries", "try", "trys", "undo", "undos")
}

// withRoom is a list of the same values, with others behind its end.
func withRoom[T any](list []T, behind T) []T {
	room := append(slices.Clone(list), behind, behind, behind, behind)
	return room[:len(list)]
}

// spoil writes over all of a list, spare room included.
func spoil[T any](list []T, value T) {
	list = list[:cap(list)]
	for i := range list {
		list[i] = value
	}
}

// What was handed in is not changed, nor what stands behind its end; no answer shares memory with it, or with another answer.
func TestBookIsLeftAlone(t *testing.T) {
	room := affix("end", "X", "", "x", "")
	last := impl.Entry{Stem: "zz", Flags: "X"}
	for _, sample := range []impl.Book{sampleBook(), fullBook(), {}} {
		b := impl.Book{Affixes: withRoom(sample.Affixes, room), Entries: withRoom(sample.Entries, last)}
		affixes, entries := slices.Clone(b.Affixes[:cap(b.Affixes)]), slices.Clone(b.Entries[:cap(b.Entries)])
		answers := func() []any {
			got, _ := impl.BookGet(impl.BookPut(b))
			list := []any{impl.BookWords(b), impl.BookStems(b, "cats"), impl.BookOk(b), impl.BookKnows(b, "cats"), got.Affixes, got.Entries}
			for _, e := range b.Entries {
				list = append(list, impl.Forms(b.Affixes, e))
			}
			return list
		}
		want, kept := answers(), answers()
		for _, x := range answers() {
			switch list := x.(type) {
			case []string:
				spoil(list, "gone")
			case []impl.Affix:
				spoil(list, impl.Affix{})
			case []impl.Entry:
				spoil(list, impl.Entry{})
			}
		}
		if !reflect.DeepEqual(affixes, b.Affixes[:cap(b.Affixes)]) || !reflect.DeepEqual(entries, b.Entries[:cap(b.Entries)]) {
			t.Fatalf("changed: %+v", b)
		}
		spoil(b.Affixes, impl.Affix{})
		spoil(b.Entries, impl.Entry{})
		if !reflect.DeepEqual(want, kept) {
			t.Fatal("answers share memory")
		}
		copy(b.Affixes[:cap(b.Affixes)], affixes)
		copy(b.Entries[:cap(b.Entries)], entries)
		if !reflect.DeepEqual(want, answers()) {
			t.Fatal("answers changed with the book, or from call to call")
		}
	}
}

// Every function answers whatever bytes it is given.
func TestAnyBytes(t *testing.T) {
	r := rand.New(rand.NewSource(6))
	text := func() string {
		return textOf(r, "ab\x00\xff \n/ABé", r.Intn(6))
	}
	for range 20000 {
		a := impl.Affix{Flag: text(), Front: r.Intn(2) == 0, Strip: text(), Add: text(), When: text()}
		e := impl.Entry{Stem: text(), Flags: text()}
		b := impl.Book{Affixes: []impl.Affix{a}, Entries: []impl.Entry{e}}
		if impl.BookOk(b) != (impl.AffixOk(a) && len(impl.Forms(b.Affixes, e)) > 0) {
			t.Fatalf("%+v", b)
		}
		impl.Far(text(), text())
		impl.Near(text())
		impl.Beginning(text(), text())
		impl.Within(text(), text(), r.Intn(5)-2)
		impl.AffixDo(a, text())
		impl.AffixBack(a, text())
		impl.BookWords(b)
		impl.BookKnows(b, text())
		impl.BookStems(b, text())
		if got, ok := impl.BookGet(text()); ok != impl.BookOk(got) && ok {
			t.Fatalf("%+v", got)
		}
		if impl.BookOk(b) && impl.BookPut(b) == "" {
			t.Fatalf("%+v", b)
		}
	}
}
