package impl

import (
	"maps"
	"slices"
	"strings"
)

// Limits of endings.
const (
	AffixMax = 8
	FlagMax  = 4
	EntryMax = 24
	PartMax  = 4
)

// Affix takes letters away from a stem's end (or its beginning, if Front is so), and puts others there; only of stems that end (or begin) with When.
type Affix struct {
	Flag  string
	Front bool
	Strip string
	Add   string
	When  string
}

// Entry is a stem, and flags of affixes that it may take.
type Entry struct {
	Stem  string
	Flags string
}

// Book is affixes and entries.
type Book struct {
	Affixes []Affix
	Entries []Entry
}

// What the lines of affixes begin with.
const (
	endName   = "end"
	frontName = "front"
)

// sided is an affix that knows at which side of a text it stands.
type sided interface {
	// has says whether a part stands at that side of a text.
	has(text string, part string) bool
	// swap puts a part in the place of one that stands there.
	swap(text string, away string, put string) string
}

// ending is an affix at the end.
type ending struct{ Affix }

// beginning is an affix at the beginning.
type beginning struct{ Affix }

// AffixOk says whether an affix is ok.
func AffixOk(a Affix) bool {
	return len(a.Flag) == 1 && allBetween(a.Flag, 'A', 'Z') &&
		partOk(a.Strip) && partOk(a.Add) && partOk(a.When) &&
		sideOf(a).has(a.When, a.Strip)
}

// AffixDo puts an affix to a stem.
func AffixDo(a Affix, stem string) (string, bool) {
	side := sideOf(a)
	if !AffixOk(a) || !WordOk(stem) || !side.has(stem, a.When) {
		return "", false
	}
	// Strip stands there, as When has it at that side, and the stem has When.
	made := side.swap(stem, a.Strip, a.Add)
	if !WordOk(made) {
		return "", false
	}
	return made, true
}

// AffixBack is the stem that an affix made a word of.
func AffixBack(a Affix, word string) (string, bool) {
	side := sideOf(a)
	if !AffixOk(a) || !WordOk(word) || !side.has(word, a.Add) {
		return "", false
	}
	stem := side.swap(word, a.Add, a.Strip)
	if !WordOk(stem) || !side.has(stem, a.When) {
		return "", false
	}
	return stem, true
}

// Forms is all words that an entry makes: itself, with one affix at the end, one at the beginning, or both; ascending, each once.
func Forms(affixes []Affix, e Entry) []string {
	if !affixesOk(affixes) || !entryOk(e) {
		return nil
	}
	endings, beginnings := taken(affixes, e.Flags)
	made := []string{e.Stem}
	for _, a := range endings {
		if word, ok := AffixDo(a.Affix, e.Stem); ok {
			made = append(made, word)
		}
	}
	// Beginnings are put to these alone, not to what other beginnings make.
	behind := len(made)
	for _, a := range beginnings {
		for i := range behind {
			if word, ok := AffixDo(a.Affix, made[i]); ok {
				made = append(made, word)
			}
		}
	}
	return sortedOnce(made)
}

// BookOk says whether a book is ok.
func BookOk(b Book) bool {
	return affixesOk(b.Affixes) && entriesOk(b.Entries)
}

// BookWords is all words of a book, ascending, each once.
func BookWords(b Book) []string {
	return slices.Sorted(maps.Keys(wordStems(b)))
}

// BookKnows says whether a book knows a word.
func BookKnows(b Book, word string) bool {
	return len(wordStems(b)[word]) > 0
}

// BookStems is all stems of a book that make a word, ascending.
func BookStems(b Book, word string) []string {
	var stems []string
	for _, at := range wordStems(b)[word] {
		stems = append(stems, b.Entries[at].Stem)
	}
	return stems
}

// BookPut writes a book.
func BookPut(b Book) string {
	if !BookOk(b) {
		return ""
	}
	var text strings.Builder
	for _, a := range b.Affixes {
		text.WriteString(affixLine(a))
	}
	for _, e := range b.Entries {
		text.WriteString(entryLine(e))
	}
	return text.String()
}

// BookGet reads a book.
func BookGet(text string) (Book, bool) {
	var b Book
	lines := strings.Split(text, "\n")
	for _, line := range lines[:len(lines)-1] {
		if a, ok := lineAffix(line); ok {
			b.Affixes = append(b.Affixes, a)
		} else {
			b.Entries = append(b.Entries, lineEntry(line))
		}
	}
	// Whatever was read too kindly above is written otherwise, or not at all.
	if BookPut(b) != text {
		return Book{}, false
	}
	return b, true
}

// sideOf is an affix at its side.
func sideOf(a Affix) sided {
	if a.Front {
		return beginning{a}
	}
	return ending{a}
}

func (a ending) has(text string, part string) bool {
	return strings.HasSuffix(text, part)
}

func (a ending) swap(text string, away string, put string) string {
	return text[:len(text)-len(away)] + put
}

func (a beginning) has(text string, part string) bool {
	return strings.HasPrefix(text, part)
}

func (a beginning) swap(text string, away string, put string) string {
	return put + text[len(away):]
}

// taken is the affixes whose flags are among some, those of either side for themselves.
func taken(affixes []Affix, flags string) ([]ending, []beginning) {
	var endings []ending
	var beginnings []beginning
	for _, a := range affixes {
		if !strings.Contains(flags, a.Flag) {
			continue
		}
		switch side := sideOf(a).(type) {
		case ending:
			endings = append(endings, side)
		case beginning:
			beginnings = append(beginnings, side)
		}
	}
	return endings, beginnings
}

// wordStems is each word of a book with the places of the entries that make it, ascending; nothing of a book that is not ok.
func wordStems(b Book) map[string][]int {
	stems := map[string][]int{}
	if !BookOk(b) {
		return stems
	}
	for at, e := range b.Entries {
		for _, word := range Forms(b.Affixes, e) {
			stems[word] = append(stems[word], at)
		}
	}
	return stems
}

// partOk says whether a text may be a part of an affix.
func partOk(part string) bool {
	return len(part) <= PartMax && allBetween(part, 'a', 'z')
}

// affixesOk says whether affixes may be those of a book.
func affixesOk(list []Affix) bool {
	if len(list) > AffixMax {
		return false
	}
	for i, a := range list {
		if !AffixOk(a) || slices.Contains(list[:i], a) {
			return false
		}
	}
	return true
}

// entriesOk says whether entries may be those of a book.
func entriesOk(list []Entry) bool {
	if len(list) > EntryMax {
		return false
	}
	for i, e := range list {
		if !entryOk(e) || i > 0 && list[i-1].Stem >= e.Stem {
			return false
		}
	}
	return true
}

// entryOk says whether an entry has a word, and flags in order.
func entryOk(e Entry) bool {
	return WordOk(e.Stem) && flagsOk(e.Flags)
}

// flagsOk says whether flags are capital letters, ascending, and not too many.
func flagsOk(flags string) bool {
	if len(flags) > FlagMax || !allBetween(flags, 'A', 'Z') {
		return false
	}
	for i := 1; i < len(flags); i++ {
		if flags[i-1] >= flags[i] {
			return false
		}
	}
	return true
}

// affixLine writes an affix.
func affixLine(a Affix) string {
	name := ""
	switch sideOf(a).(type) {
	case ending:
		name = endName
	case beginning:
		name = frontName
	}
	return strings.Join([]string{name, a.Flag, a.Strip, a.Add, a.When}, " ") + "\n"
}

// entryLine writes an entry.
func entryLine(e Entry) string {
	if e.Flags == "" {
		return e.Stem + "\n"
	}
	return e.Stem + "/" + e.Flags + "\n"
}

// lineAffix reads an affix, be it ok or not.
func lineAffix(line string) (Affix, bool) {
	parts := strings.Split(line, " ")
	if len(parts) != 5 || parts[0] != endName && parts[0] != frontName {
		return Affix{}, false
	}
	return Affix{Flag: parts[1], Front: parts[0] == frontName, Strip: parts[2], Add: parts[3], When: parts[4]}, true
}

// lineEntry reads an entry, be it ok or not.
func lineEntry(line string) Entry {
	stem, flags, _ := strings.Cut(line, "/")
	return Entry{Stem: stem, Flags: flags}
}
