package tests

import (
	"math/rand"
	"slices"
	"strings"
	"testing"

	"loop.example/medlar/impl"
)

// userCheckByWords is UserCheck of a book and one's own words that are ok, as the document says it.
func userCheckByWords(b impl.Book, own []string, text string) []impl.Guess {
	var list []impl.Guess
	if len(text) > 300 {
		return nil
	}
	for _, g := range checkByWords(b, text) {
		if !slices.Contains(own, g.Word) && len(partsByWords(b, g.Word)) == 0 {
			list = append(list, g)
		}
	}
	return list
}

// fixByWords is FixText of a book and one's own words that are ok, as the document says it: from the last place on, so that those ahead stay.
func fixByWords(b impl.Book, own []string, text string) string {
	for _, g := range slices.Backward(userCheckByWords(b, own, text)) {
		end := g.Far + len(g.Word)
		if list := bookGuessesByWords(b, g.Word); len(list) == 1 {
			text = text[:g.Far] + likeByWords(list[0].Word, text[g.Far:end]) + text[end:]
		}
	}
	return text
}

// wantUser fails if what is marked in a text, or what it is made of, is not what is asked for, or not what the document says.
func wantUser(t *testing.T, b impl.Book, own string, text string, fixed string, marked ...any) {
	t.Helper()
	mine := strings.Fields(own)
	if by := userCheckByWords(b, mine, text); !slices.Equal(by, guesses(marked...)) {
		t.Errorf("%.50q: by the document's words %v, want %v", text, by, guesses(marked...))
	}
	if got := impl.UserCheck(b, mine, text); !slices.Equal(got, guesses(marked...)) {
		t.Errorf("%.50q: %v, want %v", text, got, guesses(marked...))
	}
	if by := fixByWords(b, mine, text); by != fixed {
		t.Errorf("%.50q: by the document's words %.50q, want %.50q", text, by, fixed)
	}
	if got := impl.FixText(b, mine, text); got != fixed {
		t.Errorf("%.50q: %.50q, want %.50q", text, got, fixed)
	}
}

// petsBook is a book of pets.
func petsBook(t *testing.T) impl.Book {
	t.Helper()
	return bookOf(t, "end S  s \nbat\ncat/S\ndog\nfish\n")
}

// P57, P58: what is marked, and put right, in texts.
func TestUserTexts(t *testing.T) {
	b := petsBook(t)
	wantUser(t, b, "zog", "Cat zog catdog fsh", "Cat zog catdog fish", "fsh", 15)
	wantUser(t, b, "zog", "Cat zog Fsh, FSH dgo!", "Cat zog Fish, FISH dog!", "fsh", 8, "fsh", 13, "dgo", 17)
	wantUser(t, b, "", "", "")
	wantUser(t, b, "", " 1,;\n", " 1,;\n")
	wantUser(t, b, "a b", "Cat CATS cAt dog.", "Cat CATS cAt dog.")
	// None, one, and several guesses.
	wantUser(t, b, "", "zzzzz", "zzzzz", "zzzzz", 0)
	wantUser(t, b, "", "dgo", "dog", "dgo", 0)
	wantUser(t, b, "", "rat", "rat", "rat", 0)
	wantUser(t, b, "", "rat dgo zzzzz rat dgo", "rat dog zzzzz rat dog", "rat", 0, "dgo", 4, "zzzzz", 8, "rat", 14, "dgo", 18)
	// A guess may be longer, or shorter, or two away.
	wantUser(t, b, "", "fsh-fiish.fsih", "fish-fish.fish", "fsh", 0, "fiish", 4, "fsih", 10)
	wantUser(t, b, "", "fs", "fish", "fs", 0)
	wantUser(t, b, "", "fifishx!", "fifishx!", "fifishx", 0)
	wantUser(t, b, "", "xfishx!", "fish!", "xfishx", 0)
	// The nearest alone counts, and more than one of these is left.
	wantUser(t, b, "", "catz", "catz", "catz", 0)
	wantUser(t, b, "", "catss", "cats", "catss", 0)
	// Written small, first large, all large and mixed.
	wantUser(t, b, "", "dgo Dgo DGO dGo dgO DgO", "dog Dog DOG dog dog dog", "dgo", 0, "dgo", 4, "dgo", 8, "dgo", 12, "dgo", 16, "dgo", 20)
	// Bytes beside letters are left.
	wantUser(t, b, "", "\xffdgo\x00é1dgo2", "\xffdog\x00é1dog2", "dgo", 1, "dgo", 8)
	wantUser(t, b, "", "Dgoé", "Dogé", "dgo", 0)
}

// P57, P58: one's own words, and words with parts, are not marked, and left.
func TestUserOwnAndParts(t *testing.T) {
	b := petsBook(t)
	wantUser(t, b, "dgo", "dgo Dgo DGO dGo", "dgo Dgo DGO dGo")
	wantUser(t, b, "dgo", "dgos dg", "dog dog", "dgos", 0, "dg", 5)
	wantUser(t, b, "fsh zzzzz", "fsh dgo Zzzzz", "fsh dog Zzzzz", "dgo", 4)
	wantUser(t, b, "cat", "cat dgo", "cat dog", "dgo", 4)
	wantUser(t, b, "", "catdog CatDog CATDOGFISH catsdog", "catdog CatDog CATDOGFISH catsdog")
	wantUser(t, b, "", "catdo dogca", "catdo dog", "catdo", 0, "dogca", 6)
	// One's own words are no parts.
	wantUser(t, b, "zog", "catzog zogcat zogzog", "catzog zogcat zogzog", "catzog", 0, "zogcat", 7, "zogzog", 14)
	// A word of four parts is none that has some, nor what is longer than a word.
	wantUser(t, b, "", "catcatcatcat", "catcatcatcat", "catcatcatcat", 0)
	wantUser(t, b, "", "catcatcatcats Catdogcatdogcatdog", "catcatcatcats Catdogcatdogcatdog", "catcatcatcats", 0, "catdogcatdogcatdog", 14)
	wantUser(t, b, "", "fishfishfish fishfishfishs", "fishfishfish fishfishfishs", "fishfishfishs", 13)
	// One letter is written first large.
	one := bookOf(t, "ab\n")
	wantUser(t, one, "", "A a X XX AC Xyz", "Ab ab Ab AB AB Xyz", "a", 0, "a", 2, "x", 4, "xx", 6, "ac", 9, "xyz", 12)
	wantUser(t, bookOf(t, "a\n"), "", "B bb BC Bc bC", "A a A A a", "b", 0, "bb", 2, "bc", 5, "bc", 8, "bc", 11)
	wantUser(t, impl.Book{}, "cat", "cat dog", "cat dog", "dog", 4)
}

// P57, P58: texts of 300 bytes are marked, and longer ones not; ten words are one's own.
func TestUserLimits(t *testing.T) {
	b := petsBook(t)
	pairs := func(n int) []any {
		var list []any
		for i := range n {
			list = append(list, "dgo", 4*i)
		}
		return list
	}
	full := strings.Repeat("dgo ", 75)
	wantUser(t, b, "", full, strings.Repeat("dog ", 75), pairs(75)...)
	wantUser(t, b, "", full+" ", full+" ")
	wantUser(t, b, "", full[:299], strings.Repeat("dog ", 75)[:299], pairs(75)...)
	wantUser(t, b, "", strings.Repeat("dgo ", 100000), strings.Repeat("dgo ", 100000))
	// What is put right may be longer than a text that is marked.
	wantUser(t, bookOf(t, "abc\n"), "", strings.Repeat("c.", 150), strings.Repeat("abc.", 150), func() []any {
		var list []any
		for i := range 150 {
			list = append(list, "c", 2*i)
		}
		return list
	}()...)
	mine := "aa ba ca da ea fa ga ha ia ja"
	wantUser(t, b, mine, mine+" dgo", mine+" dog", "dgo", 30)
}

// P57, P58: of a book, or of words, that are not ok nothing is marked, and the text is left.
func TestUserTextsRefuse(t *testing.T) {
	const text = "cta Dgo a z aa, zzz cats do"
	for _, b := range badBooks() {
		for _, own := range [][]string{nil, {"cat"}} {
			if list := impl.UserCheck(b, own, text); len(list) > 0 {
				t.Errorf("%+v: %v", b, list)
			}
			if got := impl.FixText(b, own, text); got != text {
				t.Errorf("%+v: %q", b, got)
			}
		}
	}
	b := petsBook(t)
	for _, own := range badOwn() {
		if list := impl.UserCheck(b, own, text); len(list) > 0 {
			t.Errorf("%.50q: %v", own, list)
		}
		if got := impl.FixText(b, own, text); got != text {
			t.Errorf("%.50q: %q", own, got)
		}
	}
}

// wantMarked fails if what is marked is not of Check, or is one's own, or has parts, or one's own words mark more.
func wantMarked(t *testing.T, b impl.Book, own []string, text string, list []impl.Guess) {
	t.Helper()
	all := impl.Check(b, text)
	for _, g := range list {
		if !slices.Contains(all, g) || slices.Contains(own, g.Word) || len(impl.PartsOf(b, g.Word)) > 0 {
			t.Fatalf("%q: %v", text, g)
		}
	}
	without := impl.UserCheck(b, nil, text)
	for _, g := range list {
		if !slices.Contains(without, g) {
			t.Fatalf("%q: %v is not marked without one's own words", text, g)
		}
	}
}

// someTextOf is some text of words that a book nearly knows, written in some way.
func someTextOf(r *rand.Rand, b impl.Book) string {
	words := append(impl.BookWords(b), "abc", "b")
	var text strings.Builder
	for range r.Intn(20) {
		word := words[r.Intn(len(words))]
		switch r.Intn(6) {
		case 0:
			word = textOf(r, "abcqw", 1+r.Intn(7))
		case 1, 2:
			near := impl.Near(word)
			word = near[r.Intn(len(near))]
		case 3:
			word += words[r.Intn(len(words))]
		}
		switch r.Intn(4) {
		case 0:
			word = strings.ToUpper(word)
		case 1:
			word = strings.ToUpper(word[:1]) + word[1:]
		case 2:
			word = word[:len(word)/2] + strings.ToUpper(word[len(word)/2:])
		}
		text.WriteString(word + textOf(r, " ,.\x00\xff1", r.Intn(3)))
	}
	return text.String()
}

// P57, P58: many texts are marked, and put right, as the document says it.
func TestUserTextsMany(t *testing.T) {
	r := rand.New(rand.NewSource(931))
	counts := map[string]int{}
	for i := range 1500 {
		b := someKeysBook(r, 5)
		if i%2 == 0 {
			b = someBook(r)
		}
		text := someTextOf(r, b)
		var own []string
		for _, g := range impl.Check(b, text) {
			if r.Intn(3) == 0 {
				own, _ = impl.UserAdd(own, g.Word)
			}
		}
		list := impl.UserCheck(b, own, text)
		wantGuesses(t, text, list, userCheckByWords(b, own, text))
		wantMarked(t, b, own, text, list)
		fixed := impl.FixText(b, own, text)
		if want := fixByWords(b, own, text); fixed != want {
			t.Fatalf("%q: %q, want %q", text, fixed, want)
		}
		for _, g := range list {
			counts[[]string{"none", "one", "several"}[min(len(impl.BookGuesses(b, g.Word)), 2)]]++
		}
		if len(list) == 0 {
			counts["nothing"]++
			if fixed != text {
				t.Fatalf("%q: %q", text, fixed)
			}
		}
		if len(list) < len(impl.UserCheck(b, nil, text)) {
			counts["own"]++
		}
		if len(impl.UserCheck(b, nil, text)) < len(impl.Check(b, text)) {
			counts["parts"]++
		}
	}
	for _, kind := range []string{"none", "one", "several", "nothing", "own", "parts"} {
		if counts[kind] < 50 {
			t.Errorf("too few of some kind: %v", counts)
		}
	}
}

// What was handed in is not changed, nor what stands behind its end; no answer shares memory with it, or with another answer.
func TestUserAnswersAreNew(t *testing.T) {
	r := rand.New(rand.NewSource(932))
	for i := range 300 {
		b := roomyBook(someBook(r))
		own := withRoom(someWords(r, "abc", impl.UserMax, 2), "zz")
		if i%10 == 0 {
			own = withRoom([]string(nil), "zz")
		}
		text, word := someTextOf(r, b), textOf(r, "abc", 1+r.Intn(9))
		keptBook, keptOwn := wholeBook(b), allOf(own)
		answers := func() ([][]string, [][]impl.Guess) {
			added, _ := impl.UserAdd(own, "abc")
			again, _ := impl.UserAdd(own, "a")
			refused, _ := impl.UserAdd(own, "A")
			dropped, _ := impl.UserDrop(own, "a")
			same, _ := impl.UserDrop(own, "zzz")
			return [][]string{added, again, refused, dropped, same, impl.PartsOf(b, word), impl.PartsOf(b, "abcabc")}, [][]impl.Guess{impl.Ranked(b, word), impl.Ranked(b, "cb"), impl.UserCheck(b, own, text), impl.UserCheck(b, nil, text)}
		}
		words, marked := answers()
		moreWords, moreMarked := answers()
		impl.FixText(b, own, text)
		if !sameBook(keptBook, wholeBook(b)) || !slices.Equal(keptOwn, allOf(own)) {
			t.Fatal("changed")
		}
		places := append(placesOfBook("book", b), placeOf("own", own))
		for _, list := range append(slices.Clone(words), moreWords...) {
			places = append(places, placeOf("words", list))
		}
		for _, list := range append(slices.Clone(marked), moreMarked...) {
			places = append(places, placeOf("marked", list))
		}
		wantApart(t, places)
		for _, list := range moreWords {
			spoil(list, "gone")
		}
		for _, list := range moreMarked {
			spoil(list, impl.Guess{Word: "gone"})
		}
		spoil(own, "gone")
		spoilBook(b)
		wantList(t, "as they were", words[2], keptOwn[:len(own)]...)
		wantList(t, "as they were", words[4], keptOwn[:len(own)]...)
	}
}

// One's own words answer whatever they are given.
func TestAnyUser(t *testing.T) {
	r := rand.New(rand.NewSource(933))
	text := func() string {
		return textOf(r, "abcABC\x00\xff é", r.Intn(5))
	}
	counts := map[string]int{}
	for range 20000 {
		b := impl.Book{Entries: []impl.Entry{{Stem: textOf(r, "abcA", r.Intn(5)), Flags: textOf(r, "AB", r.Intn(3))}}}
		own := []string{textOf(r, "abcA", r.Intn(4)), textOf(r, "abc", r.Intn(4))}
		ownOk := impl.WordOk(own[0]) && impl.WordOk(own[1]) && own[0] < own[1]
		line := text() + text() + textOf(r, "abc", r.Intn(4)) + text()
		if list := impl.UserCheck(b, own, line); impl.BookOk(b) && ownOk {
			wantGuesses(t, line, list, userCheckByWords(b, own, line))
			counts["ok"]++
		} else if len(list) > 0 || impl.FixText(b, own, line) != line {
			t.Fatalf("%+v, %q: %q: %v", b, own, line, list)
		}
		if more, ok := impl.UserAdd(own, text()); (ok || len(more) > 0) && !ownOk {
			t.Fatalf("%q: %q", own, more)
		}
		a, c := text(), text()
		if got := impl.CaseLike(a, c); (got == "") == impl.WordOk(a) {
			t.Fatalf("%q like %q: %q", a, c, got)
		}
		if far := impl.WeighFar(a, c); (far == -1) == (impl.WordOk(a) && impl.WordOk(c)) {
			t.Fatalf("%q and %q: %d", a, c, far)
		}
		impl.KeyFar(a, c)
		impl.CaseOf(a)
		impl.Ranked(b, a)
		impl.PartsOf(b, a)
	}
	if counts["ok"] < 500 {
		t.Errorf("too few of some kind: %v", counts)
	}
}
