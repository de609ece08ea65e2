package tests

import (
	"math/rand"
	"slices"
	"strings"
	"testing"

	"loop.example/medlar/impl"
)

// sameDelta says whether two changes are the same; the empty list and the nil list are.
func sameDelta(a impl.Delta, b impl.Delta) bool {
	return slices.Equal(a.Goes, b.Goes) && slices.Equal(a.Comes, b.Comes) && a.Affixes == b.Affixes && slices.Equal(a.List, b.List)
}

// bookOf is the book of a text that is one.
func bookOf(t *testing.T, text string) impl.Book {
	t.Helper()
	b, ok := impl.BookGet(text)
	if !ok {
		t.Fatalf("%q is no book", text)
	}
	return b
}

// deltaOf is the change of a text that is one.
func deltaOf(t *testing.T, text string) impl.Delta {
	t.Helper()
	d, ok := impl.DeltaGet(text)
	if !ok {
		t.Fatalf("%q is no change", text)
	}
	return d
}

// stemsOf is so many stems of so many letters, in order, from a first one on.
func stemsOf(first int, n int, length int) []string {
	var list []string
	for i := first; i < first+n; i++ {
		list = append(list, strings.Repeat("x", length-2)+small[i/26:i/26+1]+small[i%26:i%26+1])
	}
	return list
}

// entriesWith is an entry for each stem, with flags.
func entriesWith(stems []string, flags string) []impl.Entry {
	var list []impl.Entry
	for _, stem := range stems {
		list = append(list, impl.Entry{Stem: stem, Flags: flags})
	}
	return list
}

// capitals are all that flags are made of.
const capitals = "ABCDEFGHIJKLMNOPQRSTUVWXYZ"

// longAffixes is AffixMax affixes that are written as long as there may be.
func longAffixes() []impl.Affix {
	var list []impl.Affix
	for i := range impl.AffixMax {
		list = append(list, affix("front", capitals[i:i+1], "abcd", "abcd", "abcd"))
	}
	return list
}

// fullDelta has as much of all as there may be.
func fullDelta() impl.Delta {
	return impl.Delta{Goes: stemsOf(0, impl.EntryMax, impl.WordMax), Comes: entriesWith(stemsOf(impl.EntryMax, impl.EntryMax, impl.WordMax), "ABCD"), Affixes: true, List: longAffixes()}
}

// badDeltas are changes that are not ok.
func badDeltas() []impl.Delta {
	cat, do := impl.Entry{Stem: "cat"}, impl.Entry{Stem: "do"}
	s := affix("end", "S", "", "s", "")
	list := []impl.Delta{
		{Goes: []string{"do", "cat"}}, {Goes: []string{"cat", "cat"}}, {Goes: []string{"cats", "cat"}}, {Goes: stemsOf(0, impl.EntryMax+1, 2)},
		{Comes: []impl.Entry{do, cat}}, {Comes: []impl.Entry{cat, cat}}, {Comes: []impl.Entry{cat, {Stem: "cat", Flags: "S"}}}, {Comes: entriesWith(stemsOf(0, impl.EntryMax+1, 2), "")},
		// A stem is in both.
		{Goes: []string{"cat"}, Comes: []impl.Entry{cat}}, {Goes: []string{"cat"}, Comes: []impl.Entry{{Stem: "cat", Flags: "S"}}}, {Goes: []string{"a", "do"}, Comes: []impl.Entry{cat, do, {Stem: "e"}}}, {Goes: []string{"a", "do"}, Comes: []impl.Entry{{Stem: "a"}, cat}}, {Goes: []string{"a", "do"}, Comes: []impl.Entry{cat, do}, Affixes: true},
		// List without Affixes.
		{List: []impl.Affix{s}}, {Goes: []string{"do"}, Comes: []impl.Entry{cat}, List: eightAffixes()},
	}
	for _, affixes := range badAffixLists() {
		list = append(list, impl.Delta{Affixes: true, List: affixes}, impl.Delta{List: affixes})
	}
	for _, e := range badEntries() {
		list = append(list, impl.Delta{Comes: []impl.Entry{e}}, impl.Delta{Goes: []string{"do"}, Comes: []impl.Entry{e}, Affixes: true})
	}
	for _, word := range notWords {
		list = append(list, impl.Delta{Goes: []string{word}}, impl.Delta{Goes: []string{word}, Comes: []impl.Entry{cat}})
	}
	return list
}

// goodDeltas are changes that are ok, limits being met exactly.
func goodDeltas() []impl.Delta {
	full := fullDelta()
	cat, do := impl.Entry{Stem: "cat"}, impl.Entry{Stem: "do", Flags: "ABYZ"}
	return []impl.Delta{
		{}, {Goes: []string{}, Comes: []impl.Entry{}, List: []impl.Affix{}}, {Affixes: true}, {Affixes: true, List: eightAffixes()}, {Affixes: true, List: []impl.Affix{affix("end", "S", "", "", "")}},
		full, {Goes: full.Goes}, {Comes: full.Comes}, {Affixes: true, List: full.List}, {Goes: full.Goes, Comes: full.Comes},
		{Goes: []string{"cat"}, Comes: []impl.Entry{do}}, {Goes: []string{"do"}, Comes: []impl.Entry{cat}}, {Goes: []string{"cat", "cats"}, Comes: []impl.Entry{{Stem: "ca"}, {Stem: "catss"}}}, {Goes: []string{"a", "c"}, Comes: []impl.Entry{{Stem: "b"}, {Stem: "d"}}, Affixes: true},
	}
}

// P21, P22, P25: which changes are ok.
func TestDeltaOk(t *testing.T) {
	for i, d := range goodDeltas() {
		if !impl.DeltaOk(d) {
			t.Errorf("%d is not ok: %+v", i, d)
		}
	}
	for _, d := range badDeltas() {
		if impl.DeltaOk(d) {
			t.Errorf("ok: %+v", d)
		}
	}
}

// P22, P23, P25: of a change that is not ok there is nothing; nor is anything done to a book that is not ok.
func TestBadDeltas(t *testing.T) {
	books := []impl.Book{{}, sampleBook(), fullBook()}
	for _, d := range badDeltas() {
		for _, b := range books {
			if got, ok := impl.DeltaDo(b, d); ok || !sameBook(got, impl.Book{}) {
				t.Errorf("%+v: %+v %v", d, got, ok)
			}
		}
		if text := impl.DeltaPut(d); text != "" {
			t.Errorf("%+v: %q", d, text)
		}
		for _, good := range []impl.Delta{{}, {Affixes: true}, {Goes: []string{"cat"}}, {Comes: []impl.Entry{{Stem: "cat"}}}} {
			one, first := impl.DeltaBoth(d, good)
			two, second := impl.DeltaBoth(good, d)
			if first || second || !sameDelta(one, impl.Delta{}) || !sameDelta(two, impl.Delta{}) {
				t.Errorf("%+v: %+v %+v", d, one, two)
			}
		}
	}
	for _, b := range badBooks() {
		for _, d := range []impl.Delta{{}, {Affixes: true}, {Goes: []string{"cat"}}, {Goes: []string{"zz"}}, {Affixes: true, List: eightAffixes()}} {
			if got, ok := impl.DeltaDo(b, d); ok || !sameBook(got, impl.Book{}) {
				t.Errorf("%+v: %+v %v", b, got, ok)
			}
		}
		for _, good := range books {
			if d := impl.DeltaOf(b, good); !sameDelta(d, impl.Delta{}) {
				t.Errorf("from %+v: %+v", b, d)
			}
			if d := impl.DeltaOf(good, b); !sameDelta(d, impl.Delta{}) {
				t.Errorf("to %+v: %+v", b, d)
			}
		}
	}
}

// P21: what changes from one book to another one.
func TestDeltaOf(t *testing.T) {
	for _, c := range []struct{ a, b, there, back string }{
		{"", "", "", ""},
		{"cat\n", "cat\n", "", ""},
		{"", "cat\n", "+cat\n", "-cat\n"},
		{"", "cat/SU\ndo\n", "+cat/SU\n+do\n", "-cat\n-do\n"},
		// A stem that comes in the place of one with other flags does not go.
		{"cat\n", "cat/S\n", "+cat/S\n", "+cat\n"},
		{"cat/S\n", "cat/T\n", "+cat/T\n", "+cat/S\n"},
		{"a\ncat/S\nz\n", "a\ncat\nz\n", "+cat\n", "+cat/S\n"},
		{"a\nb/S\nc\n", "a\nb/S\nd\n", "-c\n+d\n", "-d\n+c\n"},
		{"a\nc\ne\n", "b\nd\nf\n", "-a\n-c\n-e\n+b\n+d\n+f\n", "-b\n-d\n-f\n+a\n+c\n+e\n"},
		{"cat\n", "ca\ncats\n", "-cat\n+ca\n+cats\n", "-ca\n-cats\n+cat\n"},
		// Affixes that change alone, also to none, and in their order alone.
		{"end S  s \ncat/S\n", "front S  s \ncat/S\n", "affixes\nfront S  s \n", "affixes\nend S  s \n"},
		{"end S  s \ncat/S\n", "cat/S\n", "affixes\n", "affixes\nend S  s \n"},
		{"end S  s \nend T  t \n", "end T  t \nend S  s \n", "affixes\nend T  t \nend S  s \n", "affixes\nend S  s \nend T  t \n"},
		{"end S  s \n", "end S  s \nend T  t \n", "affixes\nend S  s \nend T  t \n", "affixes\nend S  s \n"},
		{"end S  s \n", "end S  s x\n", "affixes\nend S  s x\n", "affixes\nend S  s \n"},
		{"end S  s \n", "end S  s \n", "", ""},
		{"end S  s \ncat/S\ndo\n", "act\ncat\n", "affixes\n-do\n+act\n+cat\n", "affixes\nend S  s \n-act\n+cat/S\n+do\n"},
	} {
		a, b := bookOf(t, c.a), bookOf(t, c.b)
		if text := impl.DeltaPut(impl.DeltaOf(a, b)); text != c.there || !sameDelta(impl.DeltaOf(a, b), deltaOf(t, c.there)) {
			t.Errorf("%q to %q: %q", c.a, c.b, text)
		}
		if text := impl.DeltaPut(impl.DeltaOf(b, a)); text != c.back || !sameDelta(impl.DeltaOf(b, a), deltaOf(t, c.back)) {
			t.Errorf("%q to %q: %q", c.b, c.a, text)
		}
		if got, ok := impl.DeltaDo(a, deltaOf(t, c.there)); !ok || !sameBook(got, b) {
			t.Errorf("%q by %q: %+v %v", c.a, c.there, got, ok)
		}
		if got, ok := impl.DeltaDo(b, deltaOf(t, c.back)); !ok || !sameBook(got, a) {
			t.Errorf("%q by %q: %+v %v", c.b, c.back, got, ok)
		}
	}
}

// deltaByWords is DeltaOf of books that are ok, as the document says it.
func deltaByWords(a impl.Book, b impl.Book) impl.Delta {
	var d impl.Delta
	hasStem := func(list []impl.Entry, stem string) bool {
		return slices.ContainsFunc(list, func(e impl.Entry) bool { return e.Stem == stem })
	}
	for _, e := range a.Entries {
		if !hasStem(b.Entries, e.Stem) {
			d.Goes = append(d.Goes, e.Stem)
		}
	}
	for _, e := range b.Entries {
		if !slices.Contains(a.Entries, e) {
			d.Comes = append(d.Comes, e)
		}
	}
	if impl.BookPut(impl.Book{Affixes: a.Affixes}) != impl.BookPut(impl.Book{Affixes: b.Affixes}) {
		d.Affixes, d.List = true, b.Affixes
	}
	return d
}

// bookNear is a book with some entries, flags and affixes of another one.
func bookNear(r *rand.Rand, b impl.Book) impl.Book {
	other := someBook(r)
	near := impl.Book{Affixes: slices.Clone(b.Affixes)}
	switch r.Intn(4) {
	case 0:
		near.Affixes = other.Affixes
	case 1:
		r.Shuffle(len(near.Affixes), func(i, k int) {
			near.Affixes[i], near.Affixes[k] = near.Affixes[k], near.Affixes[i]
		})
	}
	entries := map[string]string{}
	for _, e := range append(slices.Clone(b.Entries), other.Entries[:len(other.Entries)/2]...) {
		if r.Intn(4) > 0 && len(entries) < impl.EntryMax {
			entries[e.Stem] = e.Flags
		}
	}
	for stem, flags := range entries {
		near.Entries = append(near.Entries, impl.Entry{Stem: stem, Flags: flags})
	}
	slices.SortFunc(near.Entries, func(x, y impl.Entry) int { return strings.Compare(x.Stem, y.Stem) })
	return near
}

// P21: of many books: a change leads from one to the other, and the other way round back; of a book and itself it is nothing.
func TestDeltaOfMany(t *testing.T) {
	r := rand.New(rand.NewSource(31))
	kinds := map[string]int{}
	for range 2000 {
		a := someBook(r)
		b := bookNear(r, a)
		d := impl.DeltaOf(a, b)
		if !impl.DeltaOk(d) || !sameDelta(d, deltaByWords(a, b)) {
			t.Fatalf("%q to %q: %+v", impl.BookPut(a), impl.BookPut(b), d)
		}
		if got, ok := impl.DeltaDo(a, d); !ok || !sameBook(got, b) {
			t.Fatalf("%q to %q: %+v %v", impl.BookPut(a), impl.BookPut(b), got, ok)
		}
		if got, ok := impl.DeltaDo(b, impl.DeltaOf(b, a)); !ok || !sameBook(got, a) {
			t.Fatalf("%q back to %q: %+v %v", impl.BookPut(b), impl.BookPut(a), got, ok)
		}
		if same := impl.DeltaOf(b, impl.Book{Affixes: slices.Clone(b.Affixes), Entries: slices.Clone(b.Entries)}); !sameDelta(same, impl.Delta{}) {
			t.Fatalf("%q to itself: %+v", impl.BookPut(b), same)
		}
		for kind, is := range map[string]bool{"goes": len(d.Goes) > 0, "comes": len(d.Comes) > 0, "affixes": d.Affixes, "no affixes": !d.Affixes} {
			if is {
				kinds[kind]++
			}
		}
	}
	for _, kind := range []string{"goes", "comes", "affixes", "no affixes"} {
		if kinds[kind] < 200 {
			t.Errorf("too few of some kind: %v", kinds)
		}
	}
}

// P21: between the fullest books, of which no stem is in both.
func TestDeltaBetweenFullBooks(t *testing.T) {
	a := impl.Book{Affixes: eightAffixes(), Entries: entriesWith(stemsOf(0, impl.EntryMax, impl.WordMax), "ABCD")}
	b := impl.Book{Affixes: longAffixes(), Entries: entriesWith(stemsOf(impl.EntryMax, impl.EntryMax, impl.WordMax), "EFGH")}
	d := impl.DeltaOf(a, b)
	if len(d.Goes) != impl.EntryMax || len(d.Comes) != impl.EntryMax || len(d.List) != impl.AffixMax || !d.Affixes || !impl.DeltaOk(d) {
		t.Fatalf("%+v", d)
	}
	if got, ok := impl.DeltaDo(a, d); !ok || !sameBook(got, b) {
		t.Errorf("%+v %v", got, ok)
	}
	if got, ok := impl.DeltaDo(b, d); ok || !sameBook(got, b) {
		t.Errorf("twice: %+v %v", got, ok)
	}
}

// P22: what a change makes of a book, and what cannot be done.
func TestDeltaDo(t *testing.T) {
	const no = "no"
	for _, c := range []struct{ book, delta, want string }{
		{"", "", ""}, {"cat\n", "", "cat\n"}, {"end S  s \ncat/S\n", "", "end S  s \ncat/S\n"},
		{"", "+cat\n", "cat\n"}, {"cat\n", "-cat\n", ""}, {"cat\n", "+cat\n", "cat\n"},
		{"cat/S\n", "+cat/T\n", "cat/T\n"}, {"cat/S\n", "+cat\n", "cat\n"}, {"cat\n", "+cat/ABCD\n", "cat/ABCD\n"},
		{"b\nd\n", "+a\n+c\n+e\n", "a\nb\nc\nd\ne\n"}, {"a\nb\nc\n", "-a\n-c\n", "b\n"}, {"a\nb\nc\n", "-b\n+bb/X\n", "a\nbb/X\nc\n"}, {"a/A\nb/B\nc/C\n", "-a\n+b\n+d/D\n", "b\nc/C\nd/D\n"},
		{"cat\n", "+ca\n+cats\n", "ca\ncat\ncats\n"},
		// Affixes alone, with and without a list.
		{"cat/S\n", "affixes\nend S  s \n", "end S  s \ncat/S\n"}, {"end S  s \ncat/S\n", "affixes\n", "cat/S\n"}, {"end S  s \ncat/S\n", "affixes\nfront S  s \nend S  s \n", "front S  s \nend S  s \ncat/S\n"}, {"end S  s \ncat/S\n", "affixes\nend S  s \n", "end S  s \ncat/S\n"}, {"", "affixes\n", ""},
		{"end S  s \ncat/S\n", "affixes\nend T  t \n-cat\n+do/T\n", "end T  t \ndo/T\n"}, {"end S  s \ncat/S\n", "+do\n", "end S  s \ncat/S\ndo\n"},
		// Something that goes and is not there.
		{"", "-cat\n", no}, {"cat\n", "-ca\n", no}, {"cat\n", "-cats\n", no}, {"cat\n", "-do\n", no}, {"cat\n", "-cat\n-do\n", no}, {"cat\n", "-a\n-cat\n", no}, {"end S  s \ncat/S\n", "affixes\n-do\n+dog\n", no}, {"cat\n", "-do\n+dog\n", no}, {"cat/S\ndo\n", "-x\n+cat\n", no},
	} {
		b := bookOf(t, c.book)
		got, ok := impl.DeltaDo(b, deltaOf(t, c.delta))
		want := c.want
		if want == no {
			want = c.book
		}
		if ok != (c.want != no) || !sameBook(got, bookOf(t, want)) {
			t.Errorf("%q by %q: %q %v", c.book, c.delta, impl.BookPut(got), ok)
		}
	}
}

// P22: EntryMax entries are met exactly, and one more behind a change is refused; between them it may be.
func TestDeltaDoLimits(t *testing.T) {
	stems := stemsOf(0, impl.EntryMax+2, 3)
	most := impl.Book{Affixes: eightAffixes(), Entries: entriesWith(stems[:impl.EntryMax], "A")}
	fewer := impl.Book{Affixes: eightAffixes(), Entries: entriesWith(stems[:impl.EntryMax-1], "A")}
	for i, c := range []struct {
		b       impl.Book
		d       impl.Delta
		ok      bool
		entries int
	}{
		{fewer, impl.Delta{Comes: entriesWith(stems[23:24], "")}, true, impl.EntryMax},
		{fewer, impl.Delta{Comes: entriesWith(stems[23:25], "")}, false, impl.EntryMax - 1},
		{most, impl.Delta{Comes: entriesWith(stems[24:25], "")}, false, impl.EntryMax},
		{most, impl.Delta{Comes: entriesWith(stems[24:25], ""), Affixes: true}, false, impl.EntryMax},
		{most, impl.Delta{Comes: entriesWith(stems[22:24], "B")}, true, impl.EntryMax},
		{most, impl.Delta{Comes: entriesWith(stems[23:25], "B")}, false, impl.EntryMax},
		{most, impl.Delta{Goes: stems[:1], Comes: entriesWith(stems[24:25], "")}, true, impl.EntryMax},
		{most, impl.Delta{Goes: stems[23:24], Comes: entriesWith(stems[24:25], "")}, true, impl.EntryMax},
		{most, impl.Delta{Goes: stems[:1], Comes: entriesWith(stems[24:26], "")}, false, impl.EntryMax},
		{most, impl.Delta{Goes: stems[:2], Comes: entriesWith(stems[24:26], "")}, true, impl.EntryMax},
		{most, impl.Delta{Comes: entriesWith(stems[:24], "CD")}, true, impl.EntryMax},
		{most, impl.Delta{Comes: entriesWith(stems[1:25], "CD")}, false, impl.EntryMax},
		{most, impl.Delta{Goes: stems[:24]}, true, 0},
		{impl.Book{}, impl.Delta{Comes: entriesWith(stems[:24], "ABCD"), Affixes: true, List: eightAffixes()}, true, impl.EntryMax},
	} {
		got, ok := impl.DeltaDo(c.b, c.d)
		if ok != c.ok || len(got.Entries) != c.entries || !ok && !sameBook(got, c.b) || !impl.BookOk(got) {
			t.Errorf("%d: %+v %v", i, got, ok)
		}
	}
}

// doneByWords is DeltaDo of what is ok, as the document says it, stem by stem.
func doneByWords(b impl.Book, d impl.Delta) (impl.Book, bool) {
	flags := map[string]string{}
	for _, e := range b.Entries {
		flags[e.Stem] = e.Flags
	}
	for _, stem := range d.Goes {
		if _, there := flags[stem]; !there {
			return b, false
		}
		delete(flags, stem)
	}
	for _, e := range d.Comes {
		flags[e.Stem] = e.Flags
	}
	made := impl.Book{Affixes: b.Affixes}
	if d.Affixes {
		made.Affixes = d.List
	}
	for stem, f := range flags {
		made.Entries = append(made.Entries, impl.Entry{Stem: stem, Flags: f})
	}
	slices.SortFunc(made.Entries, func(x, y impl.Entry) int { return strings.Compare(x.Stem, y.Stem) })
	if len(made.Entries) > impl.EntryMax {
		return b, false
	}
	return made, true
}

// someDelta is some change that is ok, most of which goes being in a book.
func someDelta(r *rand.Rand, b impl.Book) impl.Delta {
	var d impl.Delta
	other := someBook(r)
	goes := map[string]bool{}
	for _, e := range b.Entries {
		if r.Intn(4) == 0 {
			goes[e.Stem] = true
		}
	}
	if r.Intn(6) == 0 {
		goes[textOf(r, "abc", 1+r.Intn(3))] = true
	}
	for stem := range goes {
		d.Goes = append(d.Goes, stem)
	}
	slices.Sort(d.Goes)
	d.Goes = d.Goes[:min(len(d.Goes), impl.EntryMax)]
	for _, e := range other.Entries {
		if r.Intn(2) == 0 && !slices.Contains(d.Goes, e.Stem) {
			d.Comes = append(d.Comes, e)
		}
	}
	if r.Intn(3) == 0 {
		d.Affixes = true
		d.List = other.Affixes
	}
	return d
}

// P22: of many changes: what comes is there, what goes is not, all else as it was.
func TestDeltaDoMany(t *testing.T) {
	r := rand.New(rand.NewSource(32))
	done := map[bool]int{}
	for range 4000 {
		b := someBook(r)
		d := someDelta(r, b)
		got, ok := impl.DeltaDo(b, d)
		want, can := doneByWords(b, d)
		done[ok]++
		if ok != can || !sameBook(got, want) {
			t.Fatalf("%q by %q: %q %v", impl.BookPut(b), impl.DeltaPut(d), impl.BookPut(got), ok)
		}
		if !ok {
			continue
		}
		for _, e := range got.Entries {
			if slices.Contains(d.Goes, e.Stem) || !slices.Contains(d.Comes, e) && !slices.Contains(b.Entries, e) {
				t.Fatalf("%q by %q: %+v", impl.BookPut(b), impl.DeltaPut(d), e)
			}
		}
		for _, e := range d.Comes {
			if !slices.Contains(got.Entries, e) {
				t.Fatalf("%q by %q: without %+v", impl.BookPut(b), impl.DeltaPut(d), e)
			}
		}
	}
	if done[true] < 500 || done[false] < 500 {
		t.Errorf("too few of some kind: %v", done)
	}
}

// P23: two changes as one.
func TestDeltaBoth(t *testing.T) {
	for _, c := range []struct{ a, b, want string }{
		{"", "", ""}, {"+a\n", "", "+a\n"}, {"", "+a\n", "+a\n"}, {"-a\n", "", "-a\n"}, {"", "-a\n", "-a\n"}, {"-a\n", "-a\n", "-a\n"},
		// A stem that goes and comes back, and the other way round.
		{"-a\n", "+a\n", "+a\n"}, {"-a\n", "+a/S\n", "+a/S\n"}, {"+a\n", "-a\n", "-a\n"}, {"+a/S\n", "-a\n", "-a\n"},
		{"+a/S\n", "+a/T\n", "+a/T\n"}, {"+a/S\n", "+a\n", "+a\n"}, {"+a\n", "+a/S\n", "+a/S\n"},
		{"+b\n", "+a\n", "+a\n+b\n"}, {"-b\n", "-a\n", "-a\n-b\n"}, {"-b\n+c\n", "-a\n+d\n", "-a\n-b\n+c\n+d\n"}, {"-b\n+c/C\n+d\n", "-c\n+b/B\n", "-c\n+b/B\n+d\n"}, {"-a\n-b\n+c\n+d\n", "-c\n-e\n+a\n+f\n", "-b\n-c\n-e\n+a\n+d\n+f\n"},
		// Affixes are the later one's, if it has them, also none.
		{"affixes\n", "", "affixes\n"}, {"", "affixes\n", "affixes\n"}, {"affixes\nend S  s \n", "", "affixes\nend S  s \n"}, {"", "affixes\nend S  s \n", "affixes\nend S  s \n"},
		{"affixes\nend S  s \n", "affixes\n", "affixes\n"}, {"affixes\n", "affixes\nend S  s \n", "affixes\nend S  s \n"}, {"affixes\nend S  s \n", "affixes\nend T  t \n", "affixes\nend T  t \n"},
		{"affixes\nend S  s \n+a\n", "+b\n", "affixes\nend S  s \n+a\n+b\n"}, {"affixes\nend S  s \nend T  t \n-a\n", "affixes\nend T  t \nend S  s \n+a\n", "affixes\nend T  t \nend S  s \n+a\n"},
	} {
		got, ok := impl.DeltaBoth(deltaOf(t, c.a), deltaOf(t, c.b))
		if text := impl.DeltaPut(got); !ok || text != c.want || !sameDelta(got, deltaOf(t, c.want)) {
			t.Errorf("%q and %q: %q %v", c.a, c.b, text, ok)
		}
	}
}

// P23: EntryMax stems that go, and that come, are met exactly; one more is refused.
func TestDeltaBothLimits(t *testing.T) {
	stems := stemsOf(0, impl.EntryMax+1, 3)
	goes := func(from, to int) impl.Delta { return impl.Delta{Goes: stems[from:to]} }
	comes := func(from, to int) impl.Delta { return impl.Delta{Comes: entriesWith(stems[from:to], "")} }
	for i, c := range []struct {
		a, b          impl.Delta
		ok            bool
		going, coming int
	}{
		{goes(0, 12), goes(12, 24), true, 24, 0}, {goes(0, 12), goes(12, 25), false, 0, 0}, {goes(0, 24), goes(1, 25), false, 0, 0}, {goes(0, 24), goes(0, 24), true, 24, 0},
		{comes(0, 12), comes(12, 24), true, 0, 24}, {comes(0, 12), comes(12, 25), false, 0, 0}, {comes(0, 24), comes(24, 25), false, 0, 0}, {comes(0, 24), comes(0, 24), true, 0, 24},
		{goes(0, 24), comes(0, 24), true, 0, 24}, {goes(0, 24), comes(1, 25), true, 1, 24}, {comes(0, 24), goes(1, 25), true, 24, 1},
	} {
		got, ok := impl.DeltaBoth(c.a, c.b)
		if ok != c.ok || len(got.Goes) != c.going || len(got.Comes) != c.coming || !impl.DeltaOk(got) {
			t.Errorf("%d: %+v %v", i, got, ok)
		}
	}
	many := comes(0, 24)
	many.Affixes, many.List = true, eightAffixes()
	if got, ok := impl.DeltaBoth(many, comes(24, 25)); ok || !sameDelta(got, impl.Delta{}) {
		t.Errorf("%+v %v", got, ok)
	}
}

// bothByWords is DeltaBoth of changes that are ok, as the document says it.
func bothByWords(a impl.Delta, b impl.Delta) (impl.Delta, bool) {
	says := func(d impl.Delta, stem string) (impl.Entry, bool, bool) {
		for _, e := range d.Comes {
			if e.Stem == stem {
				return e, true, true
			}
		}
		return impl.Entry{}, false, slices.Contains(d.Goes, stem)
	}
	stems := append(slices.Clone(a.Goes), b.Goes...)
	for _, e := range append(slices.Clone(a.Comes), b.Comes...) {
		stems = append(stems, e.Stem)
	}
	slices.Sort(stems)
	var both impl.Delta
	for _, stem := range slices.Compact(stems) {
		e, comes, something := says(b, stem)
		if !something {
			e, comes, _ = says(a, stem)
		}
		if comes {
			both.Comes = append(both.Comes, e)
		} else {
			both.Goes = append(both.Goes, stem)
		}
	}
	both.Affixes = a.Affixes || b.Affixes
	both.List = a.List
	if b.Affixes {
		both.List = b.List
	}
	if len(both.Goes) > impl.EntryMax || len(both.Comes) > impl.EntryMax {
		return impl.Delta{}, false
	}
	return both, true
}

// P23: of many changes: as one they lead where both do, one behind the other, if it can be done.
func TestDeltaBothMany(t *testing.T) {
	r := rand.New(rand.NewSource(33))
	led := 0
	for range 6000 {
		b := someBook(r)
		b.Entries = b.Entries[:len(b.Entries)/2]
		first := someDelta(r, b)
		middle, _ := impl.DeltaDo(b, first)
		second := someDelta(r, middle)
		both, ok := impl.DeltaBoth(first, second)
		want, can := bothByWords(first, second)
		if ok != can || !sameDelta(both, want) {
			t.Fatalf("%q and %q: %q %v", impl.DeltaPut(first), impl.DeltaPut(second), impl.DeltaPut(both), ok)
		}
		one, fine := impl.DeltaDo(b, first)
		two, fine2 := impl.DeltaDo(one, second)
		got, done := impl.DeltaDo(b, both)
		if !ok || !fine || !fine2 || !done {
			continue
		}
		led++
		if !sameBook(got, two) {
			t.Fatalf("%q by %q and %q: %q, want %q", impl.BookPut(b), impl.DeltaPut(first), impl.DeltaPut(second), impl.BookPut(got), impl.BookPut(two))
		}
	}
	if led < 500 {
		t.Errorf("only %d led on", led)
	}
}

// P24: from the first of three books to the third, unless something goes that only the second has.
func TestDeltaOfThree(t *testing.T) {
	r := rand.New(rand.NewSource(34))
	led := map[bool]int{}
	for range 4000 {
		a := someBook(r)
		a.Entries = a.Entries[:min(len(a.Entries), 12)]
		b := bookNear(r, a)
		b.Entries = b.Entries[:min(len(b.Entries), 12)]
		c := bookNear(r, b)
		c.Entries = c.Entries[:min(len(c.Entries), 12)]
		both, ok := impl.DeltaBoth(impl.DeltaOf(a, b), impl.DeltaOf(b, c))
		if !ok {
			t.Fatalf("%q, %q, %q", impl.BookPut(a), impl.BookPut(b), impl.BookPut(c))
		}
		only := false
		for _, e := range b.Entries {
			has := func(x impl.Entry) bool { return x.Stem == e.Stem }
			only = only || !slices.ContainsFunc(a.Entries, has) && !slices.ContainsFunc(c.Entries, has)
		}
		got, done := impl.DeltaDo(a, both)
		want := c
		if only {
			want = a
		}
		if done == only || !sameBook(got, want) {
			t.Fatalf("%q, %q, %q: %q %v", impl.BookPut(a), impl.BookPut(b), impl.BookPut(c), impl.BookPut(got), done)
		}
		led[done]++
	}
	if led[true] < 200 || led[false] < 200 {
		t.Errorf("too few of some kind: %v", led)
	}
	// A stem that goes and comes back with other flags, and affixes that come and go.
	a, b, c := bookOf(t, "end S  s \ncat/S\ndo\n"), bookOf(t, "do\n"), bookOf(t, "end S  s \ncat/T\ndo\n")
	both, ok := impl.DeltaBoth(impl.DeltaOf(a, b), impl.DeltaOf(b, c))
	if text := impl.DeltaPut(both); !ok || text != "affixes\nend S  s \n+cat/T\n" {
		t.Errorf("%q %v", text, ok)
	}
	if got, ok := impl.DeltaDo(a, both); !ok || !sameBook(got, c) {
		t.Errorf("%+v %v", got, ok)
	}
}

// P75: a change and the one back, made one, leave the book, if it can be done; nothing done does.
func TestDeltaAndBack(t *testing.T) {
	r := rand.New(rand.NewSource(35))
	left := map[bool]int{}
	for range 3000 {
		a := someBook(r)
		b := bookNear(r, a)
		if r.Intn(2) == 0 {
			// Nothing comes that would have to go again.
			b.Entries = slices.DeleteFunc(b.Entries, func(e impl.Entry) bool {
				return !slices.ContainsFunc(a.Entries, func(x impl.Entry) bool { return x.Stem == e.Stem })
			})
		}
		there, back := impl.DeltaOf(a, b), impl.DeltaOf(b, a)
		both, ok := impl.DeltaBoth(there, back)
		if !ok {
			continue
		}
		got, done := impl.DeltaDo(a, both)
		if done != (len(back.Goes) == 0) || !sameBook(got, a) {
			t.Fatalf("%q by %q: %q %v", impl.BookPut(a), impl.DeltaPut(both), impl.BookPut(got), done)
		}
		left[done]++
		if got, ok := impl.DeltaDo(b, impl.Delta{}); !ok || !sameBook(got, b) {
			t.Fatalf("nothing done to %q: %q", impl.BookPut(b), impl.BookPut(got))
		}
	}
	if left[true] < 200 || left[false] < 200 {
		t.Errorf("too few of some kind: %v", left)
	}
}
