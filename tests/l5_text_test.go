package tests

import (
	"math/rand"
	"reflect"
	"slices"
	"strings"
	"testing"

	"loop.example/medlar/impl"
)

// P25: how a change is written.
func TestDeltaPut(t *testing.T) {
	full := fullDelta()
	for _, c := range []struct {
		d    impl.Delta
		text string
	}{
		{impl.Delta{}, ""},
		{impl.Delta{Affixes: true}, "affixes\n"},
		{impl.Delta{Affixes: true, List: []impl.Affix{affix("front", "U", "", "un", ""), affix("end", "S", "y", "ies", "y")}}, "affixes\nfront U  un \nend S y ies y\n"},
		{impl.Delta{Goes: []string{"cat", "do"}}, "-cat\n-do\n"},
		{impl.Delta{Comes: []impl.Entry{{Stem: "cat"}, {Stem: "do", Flags: "SU"}}}, "+cat\n+do/SU\n"},
		{impl.Delta{Goes: []string{"z"}, Comes: []impl.Entry{{Stem: "a"}}, Affixes: true}, "affixes\n-z\n+a\n"},
		// Words that are names of lines.
		{impl.Delta{Goes: []string{"affixes", "end", "front"}, Comes: []impl.Entry{{Stem: "release"}, {Stem: "seal", Flags: "A"}}}, "-affixes\n-end\n-front\n+release\n+seal/A\n"},
	} {
		if text := impl.DeltaPut(c.d); text != c.text {
			t.Errorf("%q, want %q", text, c.text)
		}
		if d, ok := impl.DeltaGet(c.text); !ok || !sameDelta(d, c.d) {
			t.Errorf("%q: %+v %v", c.text, d, ok)
		}
	}
	text := impl.DeltaPut(full)
	if d, ok := impl.DeltaGet(text); !ok || !sameDelta(d, full) || strings.Count(text, "\n") != 1+impl.AffixMax+2*impl.EntryMax {
		t.Errorf("%+v %v", d, ok)
	}
	for _, d := range goodDeltas() {
		if back, ok := impl.DeltaGet(impl.DeltaPut(d)); !ok || !sameDelta(back, d) {
			t.Errorf("%+v: %+v %v", d, back, ok)
		}
	}
}

// P25: texts that are no change.
func TestDeltaGetRefuses(t *testing.T) {
	full := impl.DeltaPut(fullDelta())
	texts := []string{
		"\n", " ", " \n", "x", "cat\n", "cat/S\n", "\n\n", "\r\n",
		// The last line without its newline, and more behind it.
		"+cat", "-cat", "affixes", "+cat\n+do", "-cat\n-do", "affixes\nend S  s ", "+cat\n\n", "\n+cat\n", "+cat\n\n+do\n", "+cat\r\n", "+cat\x00\n", "+cat \n", " +cat\n", "+ cat\n", "+cat\n ",
		"+\n", "-\n", "+/S\n", "-/S\n", "++cat\n", "--cat\n", "+-cat\n", "-+cat\n", "*cat\n", "+Cat\n", "-Cat\n", "-A\n", "+é\n", "+abcabcabcabca\n", "-abcabcabcabca\n", "+c4t\n",
		"-cat/S\n", "-cat/\n", "+cat/\n", "+cat/BA\n", "+cat/AA\n", "+cat/a\n", "+cat/ABCDE\n", "+cat//A\n", "+cat/A/B\n", "+cat/A \n",
		// In another order, or twice.
		"+do\n+cat\n", "+cat\n+cat\n", "+cat\n+cat/S\n", "-do\n-cat\n", "-cat\n-cat\n", "+cat\n-do\n", "-cat\n+ant\n-do\n", "+cat\naffixes\n", "-cat\naffixes\n", "+cat\naffixes\nend S  s \n", "affixes\naffixes\n", "affixes\n-cat\naffixes\n", "affixes\n-cat\nend S  s \n", "affixes\n+cat\nend S  s \n", "end S  s \naffixes\n",
		// A stem in both.
		"-cat\n+cat\n", "-cat\n+cat/S\n", "-a\n-cat\n+b\n+cat\n",
		// A list without affixes, or of what is none.
		"end S  s \n", "front S  s \n", "end S  s \n+cat\n", "affixes\nend S  s\n", "affixes\nend S  s  \n", "affixes\nend s  s \n", "affixes\nend S y s x\n", "affixes\nfront S y s ay\n", "affixes\nend S  s \nend S  s \n", "affixes\nback S  s \n", "affixes\nend S abcde  abcde\n", "affixes\n\n", "affixes \n", " affixes\n", "Affixes\n", "affix\n", "affixes S  s \n", "affixes\n end S  s \n", "affixes end S  s \n", "+affixes\nend S  s \n", "affixes\n+end S  s \n",
		"affixes\nend Z  z \n" + strings.TrimPrefix(full, "affixes\n"), full + "+zz\n", strings.Replace(full, "\n-", "\n-a\n-", 1), full + full, full[:len(full)-1], full[1:],
		strings.Repeat("+a\n", 100000), strings.Repeat("affixes\n", 100000), strings.Repeat("-", 100000), strings.Repeat("\n", 100000),
	}
	for _, sign := range []string{"+", "-"} {
		texts = append(texts, sign+strings.Join(stemsOf(0, impl.EntryMax+1, 2), "\n"+sign)+"\n")
		if d, ok := impl.DeltaGet(sign + strings.Join(stemsOf(0, impl.EntryMax, 2), "\n"+sign) + "\n"); !ok || len(d.Goes)+len(d.Comes) != impl.EntryMax {
			t.Errorf("%+v %v", d, ok)
		}
	}
	for _, text := range texts {
		if d, ok := impl.DeltaGet(text); ok || !sameDelta(d, impl.Delta{}) {
			t.Errorf("%.60q: %+v %v", text, d, ok)
		}
	}
}

// deltaGetByWords reads a change line by line, by forms of lines, each kind of them behind the one ahead.
func deltaGetByWords(text string) (impl.Delta, bool) {
	var d impl.Delta
	kind := 0
	for text != "" {
		line, rest, found := strings.Cut(text, "\n")
		text = rest
		here := 9
		if p := affixForm.FindStringSubmatch(line); p != nil {
			here = 2
			d.List = append(d.List, affix(p[1], p[2], p[3], p[4], p[5]))
		} else if line == "affixes" && kind == 0 {
			here = 1
			d.Affixes = true
		} else if len(line) > 1 && entryForm.MatchString(line[1:]) {
			p := entryForm.FindStringSubmatch(line[1:])
			if line[0] == '-' && p[2] == "" {
				here = 3
				d.Goes = append(d.Goes, p[1])
			} else if line[0] == '+' {
				here = 4
				d.Comes = append(d.Comes, impl.Entry{Stem: p[1], Flags: p[2]})
			}
		}
		if !found || here == 9 || here < kind {
			return impl.Delta{}, false
		}
		kind = here
	}
	if !impl.DeltaOk(d) {
		return impl.Delta{}, false
	}
	return d, true
}

// P25: what is written is read back, of many changes; with a byte or a line more, less or changed it is read just if it is written so.
func TestDeltaBothWays(t *testing.T) {
	r := rand.New(rand.NewSource(36))
	read := 0
	for range 400 {
		d := someDelta(r, someBook(r))
		text := impl.DeltaPut(d)
		if back, ok := impl.DeltaGet(text); !ok || !sameDelta(back, d) {
			t.Fatalf("%q: %+v", text, back)
		}
		for range 100 {
			at := r.Intn(len(text) + 1)
			put := textOf(r, "\n /+-abcxyzABCDE\x00", r.Intn(2))
			if r.Intn(4) == 0 {
				put = []string{"affixes\n", "-a\n", "+a\n", "+b/A\n", "end A  b \n", "\n"}[r.Intn(6)]
				at = strings.LastIndexByte(text[:at], '\n') + 1
			}
			changed := text[:at] + put + text[min(len(text), at+r.Intn(2)):]
			want, there := deltaGetByWords(changed)
			got, ok := impl.DeltaGet(changed)
			if ok != there || !sameDelta(got, want) || ok && impl.DeltaPut(got) != changed {
				t.Fatalf("%q: %+v %v", changed, got, ok)
			}
			if ok {
				read++
			}
		}
	}
	if read < 1000 {
		t.Errorf("only %d were read", read)
	}
}

// roomyDelta is the same change, with others behind the ends of its lists.
func roomyDelta(d impl.Delta) impl.Delta {
	return impl.Delta{Goes: withRoom(d.Goes, "zz"), Comes: withRoom(d.Comes, impl.Entry{Stem: "zz", Flags: "X"}), Affixes: d.Affixes, List: withRoom(d.List, affix("end", "X", "", "x", ""))}
}

// roomyBook is the same book, with others behind the ends of its lists.
func roomyBook(b impl.Book) impl.Book {
	return impl.Book{Affixes: withRoom(b.Affixes, affix("end", "X", "", "x", "")), Entries: withRoom(b.Entries, impl.Entry{Stem: "zz", Flags: "X"})}
}

// allOf copies all of a list, spare room included.
func allOf[T any](list []T) []T {
	return slices.Clone(list[:cap(list)])
}

// wholeDelta is a change with all that stands in its lists and behind their ends.
func wholeDelta(d impl.Delta) impl.Delta {
	return impl.Delta{Goes: allOf(d.Goes), Comes: allOf(d.Comes), Affixes: d.Affixes, List: allOf(d.List)}
}

// wholeBook is a book with all that stands in its lists and behind their ends.
func wholeBook(b impl.Book) impl.Book {
	return impl.Book{Affixes: allOf(b.Affixes), Entries: allOf(b.Entries)}
}

// spoilDelta writes over all lists of a change, spare room included.
func spoilDelta(d impl.Delta) {
	spoil(d.Goes, "gone")
	spoil(d.Comes, impl.Entry{Stem: "gone"})
	spoil(d.List, impl.Affix{Flag: "gone"})
}

// spoilBook writes over all lists of a book, spare room included.
func spoilBook(b impl.Book) {
	spoil(b.Affixes, impl.Affix{Flag: "gone"})
	spoil(b.Entries, impl.Entry{Stem: "gone"})
}

// What was handed in is not changed, nor what stands behind its end; no answer shares memory with it, or with another answer.
func TestDeltasAreNew(t *testing.T) {
	r := rand.New(rand.NewSource(37))
	for i := range 400 {
		plain := someBook(r)
		a, b := roomyBook(plain), roomyBook(bookNear(r, plain))
		d, e := roomyDelta(someDelta(r, a)), roomyDelta(someDelta(r, b))
		if i%3 == 0 {
			// What goes is not there, or nothing changes.
			d, e = roomyDelta(impl.Delta{Goes: []string{"zzz"}}), roomyDelta(impl.Delta{})
		}
		books, deltas := []impl.Book{a, b}, []impl.Delta{d, e}
		var wholeBooks []impl.Book
		var wholeDeltas []impl.Delta
		for k := range 2 {
			wholeBooks = append(wholeBooks, wholeBook(books[k]))
			wholeDeltas = append(wholeDeltas, wholeDelta(deltas[k]))
		}
		answers := func() ([]impl.Book, []impl.Delta) {
			one, _ := impl.DeltaDo(a, d)
			two, _ := impl.DeltaDo(b, e)
			both, _ := impl.DeltaBoth(d, e)
			read, _ := impl.DeltaGet(impl.DeltaPut(d))
			return []impl.Book{one, two}, []impl.Delta{both, read, impl.DeltaOf(a, b), impl.DeltaOf(b, a)}
		}
		wantBooks, wantDeltas := answers()
		keptBooks, keptDeltas := answers()
		goneBooks, goneDeltas := answers()
		for _, gone := range goneBooks {
			spoilBook(gone)
		}
		for _, gone := range goneDeltas {
			spoilDelta(gone)
		}
		for k := range 2 {
			if !reflect.DeepEqual(wholeBook(books[k]), wholeBooks[k]) || !reflect.DeepEqual(wholeDelta(deltas[k]), wholeDeltas[k]) {
				t.Fatal("an argument is changed")
			}
		}
		for k := range 2 {
			spoilBook(books[k])
			spoilDelta(deltas[k])
		}
		if !reflect.DeepEqual(wantBooks, keptBooks) || !reflect.DeepEqual(wantDeltas, keptDeltas) {
			t.Fatal("answers share memory, or change from call to call")
		}
		for k := range wantBooks {
			if slices.ContainsFunc(wantBooks[k].Entries, func(x impl.Entry) bool { return x.Stem == "gone" }) || slices.ContainsFunc(wantBooks[k].Affixes, func(x impl.Affix) bool { return x.Flag == "gone" }) {
				t.Fatal("a book shares memory with an argument")
			}
		}
		for _, x := range wantDeltas {
			if !impl.DeltaOk(x) {
				t.Fatal("a change shares memory with an argument")
			}
		}
	}
}

// Changes are answered whatever they are made of.
func TestAnyDelta(t *testing.T) {
	r := rand.New(rand.NewSource(38))
	text := func() string {
		return textOf(r, "ab\x00\xff \n/A+-", r.Intn(4))
	}
	ok := 0
	for range 20000 {
		some := func() impl.Delta {
			d := impl.Delta{Affixes: r.Intn(2) == 0}
			for range r.Intn(3) {
				d.Goes = append(d.Goes, textOf(r, "abcA", r.Intn(3)))
			}
			for range r.Intn(3) {
				d.Comes = append(d.Comes, impl.Entry{Stem: textOf(r, "abcA", 1+r.Intn(2)), Flags: textOf(r, "ABC", r.Intn(2))})
			}
			if r.Intn(4) == 0 {
				d.List = append(d.List, impl.Affix{Flag: textOf(r, "AB\xff", 1), Strip: text(), Add: text(), When: text()})
			}
			return d
		}
		d, e := some(), some()
		b := impl.Book{Entries: []impl.Entry{{Stem: textOf(r, "abA", 1), Flags: textOf(r, "AB", r.Intn(3))}}}
		made, done := impl.DeltaDo(b, d)
		both, fine := impl.DeltaBoth(d, e)
		written := impl.DeltaPut(d)
		read, there := impl.DeltaGet(text() + text())
		if done && !impl.BookOk(made) || fine != (impl.DeltaOk(d) && impl.DeltaOk(e)) || !impl.DeltaOk(both) || there && !impl.DeltaOk(read) {
			t.Fatalf("%+v, %+v", d, e)
		}
		if impl.DeltaOk(d) {
			ok++
			if back, _ := impl.DeltaGet(written); !sameDelta(back, d) {
				t.Fatalf("%+v: %q", d, written)
			}
		} else if done || len(made.Entries) > 0 || written != "" {
			t.Fatalf("%+v", d)
		}
		if x := impl.DeltaOf(b, made); !impl.DeltaOk(x) {
			t.Fatalf("%+v", x)
		}
	}
	if ok < 1000 {
		t.Errorf("only %d are ok", ok)
	}
}
