package tests

import (
	"math/rand"
	"slices"
	"strings"
	"testing"

	"loop.example/medlar/impl"
)

// affix reads how affixes are told here: where, flag, strip, add, when.
func affix(side, flag, strip, add, when string) impl.Affix {
	return impl.Affix{Flag: flag, Front: side == "front", Strip: strip, Add: add, When: when}
}

// turnedText is a text from its end on.
func turnedText(s string) string {
	b := []byte(s)
	slices.Reverse(b)
	return string(b)
}

// doByWords is AffixDo of an affix that is ok, as the document says it; one at the beginning is one at the end of texts that are turned.
func doByWords(a impl.Affix, stem string) (string, bool) {
	if a.Front {
		word, ok := doByWords(affix("end", a.Flag, turnedText(a.Strip), turnedText(a.Add), turnedText(a.When)), turnedText(stem))
		return turnedText(word), ok
	}
	if !impl.WordOk(stem) || !strings.HasSuffix(stem, a.When) || !strings.HasSuffix(stem, a.Strip) {
		return "", false
	}
	word := strings.TrimSuffix(stem, a.Strip) + a.Add
	if !impl.WordOk(word) {
		return "", false
	}
	return word, true
}

// manyAffixes is all affixes that are ok, of parts of two letters a and b at most.
func manyAffixes() []impl.Affix {
	var list []impl.Affix
	parts := textsOver("ab", 2)
	for _, side := range []string{"end", "front"} {
		for _, strip := range parts {
			for _, add := range parts {
				for _, when := range parts {
					if a := affix(side, "A", strip, add, when); impl.AffixOk(a) {
						list = append(list, a)
					}
				}
			}
		}
	}
	return list
}

// badAffixes are affixes that are not ok.
var badAffixes = []impl.Affix{
	{}, affix("end", "", "", "s", ""), affix("end", "s", "", "s", ""), affix("end", "SS", "", "s", ""), affix("end", "@", "", "s", ""), affix("end", "[", "", "s", ""), affix("end", "1", "", "s", ""), affix("end", "É", "", "s", ""),
	affix("end", "S", "abcde", "", "abcde"), affix("end", "S", "", "abcde", ""), affix("end", "S", "", "", "abcde"),
	affix("end", "S", "Y", "", "Y"), affix("end", "S", "", "S", ""), affix("end", "S", "", "", "X"), affix("end", "S", "", "a b", ""), affix("end", "S", "", "", "é"), affix("end", "S", "", "{", ""), affix("end", "S", "", "`", ""), affix("end", "S", "", "\n", ""),
	affix("end", "S", "y", "s", ""), affix("end", "S", "y", "s", "x"), affix("end", "S", "y", "s", "ya"), affix("end", "S", "ab", "s", "b"), affix("end", "S", "ab", "s", "ba"),
	affix("front", "S", "y", "s", ""), affix("front", "S", "y", "s", "x"), affix("front", "S", "y", "s", "ay"), affix("front", "S", "ab", "s", "a"), affix("front", "S", "ab", "s", "ba"), affix("front", "s", "", "", ""), affix("front", "S", "", "abcde", ""),
}

// P6, P7: which affixes are ok.
func TestAffixOk(t *testing.T) {
	if impl.PartMax != 4 || impl.AffixMax != 8 || impl.FlagMax != 4 || impl.EntryMax != 24 {
		t.Error("limits")
	}
	for _, a := range []impl.Affix{
		affix("end", "S", "", "", ""), affix("end", "A", "", "s", ""), affix("end", "Z", "y", "ies", "y"), affix("end", "S", "y", "ies", "ay"), affix("end", "S", "", "", "y"),
		affix("end", "S", "abcd", "efgh", "abcd"), affix("end", "S", "d", "", "abcd"), affix("front", "U", "", "un", ""), affix("front", "U", "a", "b", "ab"), affix("front", "U", "abcd", "abcd", "abcd"),
	} {
		if !impl.AffixOk(a) {
			t.Errorf("not ok: %+v", a)
		}
	}
	for _, a := range badAffixes {
		if impl.AffixOk(a) {
			t.Errorf("ok: %+v", a)
		}
	}
	for c := range 256 {
		flag := string([]byte{byte(c)})
		if ok := c >= 'A' && c <= 'Z'; impl.AffixOk(affix("end", flag, "", "s", "")) != ok {
			t.Errorf("flag %q: %v", flag, !ok)
		}
		if ok := c >= 'a' && c <= 'z'; impl.AffixOk(affix("end", "S", "", flag, "")) != ok {
			t.Errorf("add %q: %v", flag, !ok)
		}
	}
}

// P6, P7: what affixes make, and lead back to, at the edges.
func TestAffixDoAndBack(t *testing.T) {
	for _, c := range []struct {
		a          impl.Affix
		stem, word string
	}{
		{affix("end", "S", "", "s", ""), "cat", "cats"},
		{affix("end", "S", "y", "ies", "y"), "try", "tries"},
		{affix("end", "S", "y", "ies", "try"), "try", "tries"},
		{affix("end", "S", "y", "", "y"), "try", "tr"},
		{affix("end", "S", "", "", ""), "cat", "cat"},
		{affix("end", "S", "e", "e", "e"), "bake", "bake"},
		{affix("front", "U", "", "un", ""), "do", "undo"},
		{affix("front", "U", "d", "und", "do"), "do", "undo"},
		{affix("front", "U", "d", "", "d"), "do", "o"},
		// Strip is all of the stem.
		{affix("end", "S", "go", "went", "go"), "go", "went"},
		{affix("front", "S", "go", "went", "go"), "go", "went"},
		{affix("end", "S", "abcd", "x", "abcd"), "abcd", "x"},
		// WordMax letters, met exactly.
		{affix("end", "S", "", "s", ""), "abcdefghijk", "abcdefghijks"},
		{affix("front", "S", "", "abcd", ""), "abcdefgh", "abcdabcdefgh"},
		{affix("end", "S", "l", "m", "l"), "abcdefghijkl", "abcdefghijkm"},
		{affix("end", "S", "ijkl", "", "ijkl"), "abcdefghijkl", "abcdefgh"},
	} {
		if word, ok := impl.AffixDo(c.a, c.stem); word != c.word || !ok {
			t.Errorf("%+v of %s: %q %v", c.a, c.stem, word, ok)
		}
		if stem, ok := impl.AffixBack(c.a, c.word); stem != c.stem || !ok {
			t.Errorf("%+v back from %s: %q %v", c.a, c.word, stem, ok)
		}
	}
}

// P6, P7: what affixes do not make, nor lead back to.
func TestAffixRefuses(t *testing.T) {
	for _, c := range []struct {
		a    impl.Affix
		stem string
	}{
		{affix("end", "S", "y", "ies", "y"), "cat"}, {affix("end", "S", "y", "ies", "ay"), "try"}, {affix("end", "S", "y", "ies", "y"), "yes"}, {affix("front", "U", "d", "", "d"), "and"},
		{affix("end", "S", "go", "", "go"), "go"}, {affix("front", "S", "go", "", "go"), "go"},
		{affix("end", "S", "abc", "x", "abc"), "bc"}, {affix("front", "S", "abc", "x", "abc"), "ab"}, {affix("end", "S", "", "x", "abc"), "bc"},
		{affix("end", "S", "", "s", ""), "abcdefghijkl"}, {affix("front", "S", "", "abcd", ""), "abcdefghi"},
	} {
		if word, ok := impl.AffixDo(c.a, c.stem); word != "" || ok {
			t.Errorf("%+v of %s: %q %v", c.a, c.stem, word, ok)
		}
	}
	for _, c := range []struct {
		a    impl.Affix
		word string
	}{
		{affix("end", "S", "y", "ies", "y"), "cats"}, {affix("end", "S", "y", "ies", "ay"), "tries"}, {affix("front", "U", "", "un", ""), "doun"},
		{affix("end", "S", "", "s", ""), "s"}, {affix("front", "U", "", "un", ""), "un"}, {affix("end", "S", "", "abc", ""), "bc"},
		{affix("end", "S", "ab", "", "ab"), "abcdefghijk"}, {affix("front", "S", "ab", "c", "ab"), "cabcdefghijk"},
	} {
		if stem, ok := impl.AffixBack(c.a, c.word); stem != "" || ok {
			t.Errorf("%+v back from %s: %q %v", c.a, c.word, stem, ok)
		}
	}
	for _, s := range notWords {
		for _, a := range []impl.Affix{affix("end", "S", "", "", ""), affix("front", "S", "", "", ""), affix("end", "S", "", "s", "")} {
			word, one := impl.AffixDo(a, s)
			stem, two := impl.AffixBack(a, s)
			if word != "" || stem != "" || one || two {
				t.Errorf("%+v of %q: %q %q", a, s, word, stem)
			}
		}
	}
	for _, a := range badAffixes {
		for _, s := range []string{"try", "y", "s", "ab", "abcde", "cats"} {
			word, one := impl.AffixDo(a, s)
			stem, two := impl.AffixBack(a, s)
			if word != "" || stem != "" || one || two {
				t.Errorf("%+v of %q: %q %q", a, s, word, stem)
			}
		}
	}
}

// P6, P7: of all short words: AffixDo is as the document says, and AffixBack leads back just from what AffixDo makes.
func TestAffixBothWays(t *testing.T) {
	stems := textsOver("ab", 7)
	words := textsOver("ab", 5)
	for _, a := range manyAffixes() {
		made := map[string]string{}
		for _, stem := range stems {
			word, ok := impl.AffixDo(a, stem)
			if w, o := doByWords(a, stem); w != word || o != ok {
				t.Fatalf("%+v of %q: %q %v", a, stem, word, ok)
			}
			if !ok {
				continue
			}
			if back, ok := impl.AffixBack(a, word); back != stem || !ok {
				t.Fatalf("%+v of %q: %q, and back %q", a, stem, word, back)
			}
			if a.Front && !strings.HasPrefix(word, a.Add) || !a.Front && !strings.HasSuffix(word, a.Add) {
				t.Fatalf("%+v of %q: %q", a, stem, word)
			}
			made[word] = stem
		}
		for _, word := range words {
			stem, ok := impl.AffixBack(a, word)
			want, there := made[word]
			if stem != want || ok != there {
				t.Fatalf("%+v back from %q: %q, want %q", a, word, stem, want)
			}
			if again, _ := impl.AffixDo(a, stem); ok && again != word {
				t.Fatalf("%+v back from %q: %q, that makes %q", a, word, stem, again)
			}
		}
	}
}

// P8: what an entry makes.
func TestForms(t *testing.T) {
	s, u := affix("end", "S", "", "s", ""), affix("front", "U", "", "un", "")
	for i, c := range []struct {
		affixes []impl.Affix
		e       impl.Entry
		want    []string
	}{
		{nil, impl.Entry{Stem: "cat"}, []string{"cat"}},
		{nil, impl.Entry{Stem: "cat", Flags: "ABCZ"}, []string{"cat"}},
		{[]impl.Affix{s, u}, impl.Entry{Stem: "do"}, []string{"do"}},
		{[]impl.Affix{s, u}, impl.Entry{Stem: "do", Flags: "S"}, []string{"do", "dos"}},
		{[]impl.Affix{s, u}, impl.Entry{Stem: "do", Flags: "U"}, []string{"do", "undo"}},
		{[]impl.Affix{s, u}, impl.Entry{Stem: "do", Flags: "SU"}, []string{"do", "dos", "undo", "undos"}},
		{[]impl.Affix{u, s}, impl.Entry{Stem: "do", Flags: "SU"}, []string{"do", "dos", "undo", "undos"}},
		// Both at once under one flag.
		{[]impl.Affix{affix("front", "S", "", "un", ""), s}, impl.Entry{Stem: "do", Flags: "S"}, []string{"do", "dos", "undo", "undos"}},
		// When of one at the beginning asks for what the one at the end made; not the other way round.
		{[]impl.Affix{affix("end", "A", "", "b", ""), affix("front", "B", "", "x", "ab")}, impl.Entry{Stem: "a", Flags: "AB"}, []string{"a", "ab", "xab"}},
		{[]impl.Affix{affix("end", "A", "", "b", "xa"), affix("front", "B", "", "x", "")}, impl.Entry{Stem: "a", Flags: "AB"}, []string{"a", "xa"}},
		// Two of one side are not put one on the other.
		{[]impl.Affix{affix("end", "A", "", "b", ""), affix("end", "B", "", "c", "")}, impl.Entry{Stem: "a", Flags: "AB"}, []string{"a", "ab", "ac"}},
		{[]impl.Affix{affix("front", "A", "", "b", ""), affix("front", "B", "", "c", "")}, impl.Entry{Stem: "a", Flags: "AB"}, []string{"a", "ba", "ca"}},
		// Strip is all of the stem: gone for both, or put anew.
		{[]impl.Affix{affix("end", "A", "go", "", "go"), affix("front", "B", "", "x", "")}, impl.Entry{Stem: "go", Flags: "AB"}, []string{"go", "xgo"}},
		{[]impl.Affix{affix("end", "A", "go", "went", "go"), affix("front", "B", "w", "x", "w")}, impl.Entry{Stem: "go", Flags: "AB"}, []string{"go", "went", "xent"}},
		// What is made twice stands once.
		{[]impl.Affix{affix("end", "A", "", "a", ""), affix("front", "A", "", "a", "")}, impl.Entry{Stem: "a", Flags: "A"}, []string{"a", "aa", "aaa"}},
		{[]impl.Affix{affix("end", "A", "", "", ""), affix("end", "B", "", "", "")}, impl.Entry{Stem: "a", Flags: "AB"}, []string{"a"}},
		// What is too long is left out; both at once may be where one alone is not.
		{[]impl.Affix{s, u}, impl.Entry{Stem: "abcdefghijk", Flags: "SU"}, []string{"abcdefghijk", "abcdefghijks"}},
		{[]impl.Affix{affix("end", "S", "k", "", "k"), u}, impl.Entry{Stem: "abcdefghijk", Flags: "SU"}, []string{"abcdefghij", "abcdefghijk", "unabcdefghij"}},
	} {
		wantList(t, string(rune('a'+i)), impl.Forms(c.affixes, c.e), c.want...)
	}
}

// eightAffixes is AffixMax affixes, four of either side.
func eightAffixes() []impl.Affix {
	var list []impl.Affix
	for i := range 4 {
		add := small[i : i+1]
		list = append(list, affix("end", "ABCD"[i:i+1], "", add, ""), affix("front", "ABCD"[i:i+1], "", add, ""))
	}
	return list
}

// badAffixLists are affixes that no book may have.
func badAffixLists() [][]impl.Affix {
	s := affix("end", "S", "", "s", "")
	lists := [][]impl.Affix{{s, s}, {s, affix("front", "U", "", "un", ""), s}, append(eightAffixes(), s)}
	for _, bad := range badAffixes {
		lists = append(lists, []impl.Affix{bad}, []impl.Affix{s, bad})
	}
	return lists
}

// badEntries are entries that no book may have.
func badEntries() []impl.Entry {
	list := []impl.Entry{{Stem: "cat", Flags: "BA"}, {Stem: "cat", Flags: "AA"}, {Stem: "cat", Flags: "ABB"}, {Stem: "cat", Flags: "ACB"}, {Stem: "cat", Flags: "ABCDE"}, {Stem: "cat", Flags: "a"}, {Stem: "cat", Flags: "@"}, {Stem: "cat", Flags: "["}, {Stem: "cat", Flags: " "}, {Stem: "cat", Flags: "A B"}, {Stem: "cat", Flags: "A/B"}}
	for _, s := range notWords {
		list = append(list, impl.Entry{Stem: s}, impl.Entry{Stem: s, Flags: "S"})
	}
	return list
}

// P8: limits are met exactly; anything else makes nothing.
func TestFormsEdges(t *testing.T) {
	eight := eightAffixes()
	if n := len(impl.Forms(eight, impl.Entry{Stem: "xy", Flags: "ABCD"})); n != 1+4+4*5 {
		t.Errorf("eight affixes: %d", n)
	}
	for _, list := range badAffixLists() {
		wantList(t, "bad affixes", impl.Forms(list, impl.Entry{Stem: "cat", Flags: "S"}))
	}
	for _, e := range badEntries() {
		wantList(t, "bad entry "+e.Stem+"/"+e.Flags, impl.Forms(eight, e))
	}
	// The same but for one part is not the same affix.
	near := []impl.Affix{affix("end", "S", "", "s", ""), affix("front", "S", "", "s", ""), affix("end", "T", "", "s", ""), affix("end", "S", "", "t", ""), affix("end", "S", "", "s", "t"), affix("end", "S", "t", "s", "t")}
	wantList(t, "near", impl.Forms(near, impl.Entry{Stem: "t", Flags: "S"}), "s", "ss", "st", "sts", "stt", "t", "ts", "tt")
}

// formsByWords is Forms of what is ok, as the document says it, affix by affix.
func formsByWords(affixes []impl.Affix, e impl.Entry) []string {
	made := map[string]bool{e.Stem: true}
	for _, front := range []bool{false, true} {
		var ahead []string
		for word := range made {
			if front || word == e.Stem {
				ahead = append(ahead, word)
			}
		}
		for _, a := range affixes {
			if a.Front != front || !strings.Contains(e.Flags, a.Flag) {
				continue
			}
			for _, word := range ahead {
				if w, ok := doByWords(a, word); ok {
					made[w] = true
				}
			}
		}
	}
	var list []string
	for word := range made {
		list = append(list, word)
	}
	slices.Sort(list)
	return list
}

// someFlags is some flags of A to F, ascending.
func someFlags(r *rand.Rand) string {
	flags := ""
	for _, c := range "ABCDEF" {
		if len(flags) < impl.FlagMax && r.Intn(2) == 0 {
			flags += string(c)
		}
	}
	return flags
}

// someBook is some book that is ok.
func someBook(r *rand.Rand) impl.Book {
	var b impl.Book
	for range r.Intn(impl.AffixMax + 1) {
		part := func() string { return textOf(r, "ab", r.Intn(3)) }
		a := impl.Affix{Flag: textOf(r, "ABCDEF", 1), Front: r.Intn(2) == 0, Strip: part(), Add: part()}
		a.When = part() + a.Strip
		if a.Front {
			a.When = a.Strip + part()
		}
		if !slices.Contains(b.Affixes, a) {
			b.Affixes = append(b.Affixes, a)
		}
	}
	stems := map[string]bool{}
	for range r.Intn(impl.EntryMax + 1) {
		stems[textOf(r, "abc", 1+r.Intn(4))] = true
	}
	for stem := range stems {
		b.Entries = append(b.Entries, impl.Entry{Stem: stem})
	}
	slices.SortFunc(b.Entries, func(x, y impl.Entry) int { return strings.Compare(x.Stem, y.Stem) })
	for i := range b.Entries {
		b.Entries[i].Flags = someFlags(r)
	}
	return b
}

// P8: of many books: Forms have the stem, what each affix makes of it, and are just what the document says.
func TestFormsOfMany(t *testing.T) {
	r := rand.New(rand.NewSource(2))
	for range 300 {
		b := someBook(r)
		for _, e := range b.Entries {
			forms := impl.Forms(b.Affixes, e)
			wantList(t, e.Stem, forms, formsByWords(b.Affixes, e)...)
			wantAscending(t, e.Stem, forms)
			for _, a := range b.Affixes {
				word, ok := impl.AffixDo(a, e.Stem)
				if ok && strings.Contains(e.Flags, a.Flag) && !slices.Contains(forms, word) {
					t.Fatalf("%+v %+v: %q is not there", a, e, word)
				}
			}
			wantList(t, e.Stem, impl.Forms(b.Affixes, impl.Entry{Stem: e.Stem}), e.Stem)
		}
	}
}
