package tests

import (
	"math/rand"
	"regexp"
	"slices"
	"strconv"
	"strings"
	"testing"

	"loop.example/medlar/impl"
)

// wantSession fails if lines are not answered as is asked for, a line each, or not as the document says it.
func wantSession(t *testing.T, lines []string, want ...string) {
	t.Helper()
	told := strings.Join(append(want, ""), "\n")
	if got := impl.Session(lines); got != told {
		t.Errorf("%.2000q: %q, want %q", lines, got, told)
	}
	if byWords := sessionByWords(lines); byWords != told {
		t.Errorf("%.2000q: by the document's words %q, want %q", lines, byWords, told)
	}
}

// wantLast fails if the last of some lines is not answered so, the others being answered whatever.
func wantLast(t *testing.T, lines []string, want ...string) {
	t.Helper()
	wantSession(t, lines, append(strings.Split(strings.TrimSuffix(sessionByWords(lines[:len(lines)-1]), "\n"), "\n"), want...)...)
}

// Forms of what stands in a session.
var (
	commandForm = regexp.MustCompile(`\A(serve|wrong|ask) ([^ ]*) ([^ ]*)()\z|\A(fall) ([^ ]*) ([^ ]*) ([^ ]*)\z|\A(rise) ([^ ]*)()()\z|\A(show)()()()\z`)
	publishForm = regexp.MustCompile(`\Apublish((?: [^ \n]*)*)\z`)
	numberForm  = regexp.MustCompile(`\A(0|[1-9][0-9]{0,5})\z`)
)

// numberByWords is the number that a word is, or -1.
func numberByWords(word string) int {
	if !numberForm.MatchString(word) {
		return -1
	}
	n, _ := strconv.Atoi(word)
	return n
}

// askedByWords is what a client of a world is asked for a word, as the document says it.
func askedByWords(w impl.World, client int, word string) string {
	if client < 0 || client >= len(w.Clients) || !w.Clients[client].Up {
		return "down"
	}
	b := w.Clients[client].Book
	if slices.Contains(impl.BookWords(b), word) {
		return "yes"
	}
	var words []string
	if impl.WordOk(word) {
		for _, g := range bookGuessesByWords(b, word) {
			words = append(words, g.Word)
		}
	}
	return "no " + strings.Join(words, ",")
}

// sessionByWords is Session, as the document says it.
func sessionByWords(lines []string) string {
	w := impl.World{Key: "key", Books: []impl.Book{{}}, Clients: []impl.Client{{Key: "key", Up: true}, {Key: "key", Up: true}}}
	told := ""
	do := func(e impl.Event) {
		next, ok := happensByWords(w, e)
		if w = next; ok {
			told += "ok\n"
		} else {
			told += "no\n"
		}
	}
	for _, line := range lines[:min(len(lines), 40)] {
		if p := publishForm.FindStringSubmatch(line); p != nil {
			text := ""
			if p[1] != "" {
				text = strings.ReplaceAll(p[1][1:], " ", "\n") + "\n"
			}
			if d, ok := deltaGetByWords(text); ok {
				do(impl.Event{Kind: 1, Delta: d})
			} else {
				told += "what\n"
			}
			continue
		}
		p := commandForm.FindStringSubmatch(line)
		if p == nil {
			told += "what\n"
			continue
		}
		for p[1] == "" {
			p = p[4:]
		}
		client := numberByWords(p[2])
		switch p[1] {
		case "serve":
			do(impl.Event{Kind: 2, Client: client, At: numberByWords(p[3])})
		case "wrong":
			do(impl.Event{Kind: 3, Client: client, Text: p[3]})
		case "fall":
			do(impl.Event{Kind: 4, Client: client, At: numberByWords(p[3]), Text: strings.Repeat("b", max(0, numberByWords(p[4])%2000))})
		case "rise":
			do(impl.Event{Kind: 5, Client: client})
		case "ask":
			told += askedByWords(w, client, p[3]) + "\n"
		case "show":
			for _, c := range w.Clients {
				if c.Up {
					told += "has " + strconv.Itoa(c.Number) + ", " + strconv.Itoa(len(impl.BookWords(c.Book))) + " words\n"
				} else {
					told += "down " + strconv.Itoa(len(c.File)) + "\n"
				}
			}
		}
	}
	return told
}

// P42: the document's example.
func TestSessionExample(t *testing.T) {
	lines := `publish +cat/S +do
show
serve 0 0
ask 0 cta
ask 1 cat
publish -do +dog
serve 1 1
fall 0 1 30
show
rise 0
show
serve 0 1
ask 0 dog
ask 0 do
wrong 1 x
rise 0
publish -none
publish x
what`
	answers := `ok
has 0, 0 words
has 0, 0 words
ok
no cat
no 
ok
ok
ok
down 186
has 0, 0 words
ok
has 1, 2 words
has 0, 0 words
ok
yes
no dog
ok
no
no
what
what`
	wantSession(t, strings.Split(lines, "\n"), strings.Split(answers, "\n")...)
}

// P42: no lines, 40 of them, and more; of these the first 40 are answered.
func TestSessionLimits(t *testing.T) {
	for _, lines := range [][]string{nil, {}} {
		if got := impl.Session(lines); got != "" {
			t.Errorf("of no lines: %q", got)
		}
	}
	for _, line := range []struct{ text, answer string }{{"what", "what"}, {"wrong 0 x", "ok"}, {"rise 0", "no"}, {"ask 0 cat", "no "}, {"show", "has 0, 0 words\nhas 0, 0 words"}} {
		for _, n := range []int{1, 2, 39, 40, 41, 42, 1000} {
			wantSession(t, slices.Repeat([]string{line.text}, n), slices.Repeat([]string{line.answer}, min(n, 40))...)
		}
	}
	lines := append(slices.Repeat([]string{"what"}, 39), "publish +cat")
	wantSession(t, append(lines, "serve 0 0"), append(slices.Repeat([]string{"what"}, 39), "ok")...)
}

// P42: a line that is no command, or has a word too few or too many, a blank too many, or other bytes.
func TestSessionWhat(t *testing.T) {
	ahead := []string{"publish +cat", "serve 0 0", "serve 1 0", "fall 1 0 0"}
	for _, line := range []string{
		"", " ", "  ", "\n", "\t", "\x00", "\xff", "what", "x", "Show", "SHOW", "shows", "0", "ok",
		" publish +ox", " serve 0 0", " wrong 0 x", " fall 0 0 3", " rise 1", " ask 0 cat", " show",
		"publish +ox ", "serve 0 0 ", "wrong 0 x ", "fall 0 0 3 ", "rise 1 ", "ask 0 cat ", "show ", "show  ",
		"publish  +ox", "publish +ox  +yak", "serve 0  0", "serve  0 0", "wrong  0 x", "wrong 0  x", "fall  0 0 3", "fall 0  0 3", "fall 0 0  3", "rise  1", "ask  0 cat", "ask 0  cat",
		"serve", "serve 0", "serve 0 0 0", "wrong", "wrong 0", "wrong 0 x y", "fall", "fall 0", "fall 0 0", "fall 0 0 3 0", "rise", "rise 1 0", "ask", "ask 0", "ask 0 cat cat", "show 0", "show x",
		"serve\t0 0", "serve 0\t0", "show\n", "show\r", "rise\n1", "serve0 0", "publish+ox", "publishes +ox",
	} {
		wantLast(t, append(slices.Clone(ahead), line), "what")
		// And nothing has happened.
		wantLast(t, append(slices.Clone(ahead), line, "show"), "has 1, 1 words", "down "+strconv.Itoa(len(textByWords("key", 0, impl.Book{}, bookOf(t, "cat\n")))))
	}
}

// P42: an empty word is one: no number, no word of a book, and a text that is no release.
func TestSessionEmptyWords(t *testing.T) {
	ahead := []string{"publish +cat", "serve 0 0", "serve 1 0", "fall 1 0 0"}
	for line, answer := range map[string]string{"serve  0": "no", "serve 0 ": "no", "serve  ": "no", "wrong 0 ": "ok", "wrong  x": "no", "wrong  ": "no", "fall  0 3": "no", "fall 0  3": "no", "fall 0 0 ": "ok", "rise ": "no", "ask 0 ": "no ", "ask  cat": "down", "ask  ": "down"} {
		wantLast(t, append(slices.Clone(ahead), line), answer)
	}
}

// P42: what is published, lines being words.
func TestSessionPublish(t *testing.T) {
	for line, answer := range map[string]string{
		"publish +ox": "ok", "publish -cat": "ok", "publish -cat +ox/AB +yak": "ok", "publish affixes": "ok", "publish affixes -cat +ox": "ok", "publish +cat": "ok", "publish +cat/S": "ok",
		// No lines are the change that has none.
		"publish":       "ok",
		"publish -none": "no", "publish -cat -dog +ox": "no", "publish -a": "no",
		// Lines that are no change.
		"publish x": "what", "publish ": "what", "publish  ": "what", "publish cat": "what", "publish +": "what", "publish -": "what", "publish +Cat": "what", "publish +ox -cat": "what", "publish +yak +ox": "what", "publish +ox +ox": "what", "publish -cat +cat": "what", "publish +ox/": "what", "publish +ox/BA": "what", "publish +ox/ABCDE": "what", "publish -ox/A": "what", "publish +ox affixes": "what", "publish affixes affixes": "what", "publish +abcabcabcabca": "what", "publish --ox": "what",
		// Lines with blanks.
		"publish affixes end S  s ": "what", "publish affixes end S  s  +ox": "what", "publish affixes front U  un ": "what", "publish affixes end S y ies y +ox": "what", "publish end S  s ": "what", "publish + ox": "what", "publish +ox /A": "what",
		// A newline within a word: that is not one line.
		"publish +ox\n+yak": "what", "publish +ox\n": "what", "publish \n": "what", "publish\n": "what", "publish affixes\n+ox": "what", "publish\n+ox": "what",
	} {
		wantSession(t, []string{"publish +cat", line}, "ok", answer)
		if answer != "ok" {
			wantSession(t, []string{"publish +cat", line, "serve 0 1", "publish +cow", "serve 0 0", "serve 0 1", "ask 0 cow", "show"}, "ok", answer, "no", "ok", "ok", "ok", "yes", "has 2, 2 words", "has 0, 0 words")
		}
	}
	// A publish of no lines is a release like all others.
	wantSession(t, []string{"publish", "publish", "serve 1 0", "serve 1 1", "serve 1 2", "show"}, "ok", "ok", "ok", "ok", "no", "has 0, 0 words", "has 2, 0 words")
	// EntryMax entries in all, and one more; ReleaseMax releases, and one more.
	var many []string
	for _, e := range entriesOf(impl.EntryMax) {
		many = append(many, "+"+e.Stem)
	}
	wantSession(t, []string{"publish " + strings.Join(many, " "), "publish +zzz", "serve 0 0", "show"}, "ok", "no", "ok", "has 1, 24 words", "has 0, 0 words")
	wantSession(t, slices.Repeat([]string{"publish +cat"}, 13), append(slices.Repeat([]string{"ok"}, 10), "no", "no", "no")...)
}

// P42: which numbers are some; others are no places.
func TestSessionNumbers(t *testing.T) {
	ahead := []string{"publish +cat", "publish +dog", "serve 1 0"}
	last := []string{"2", "9", "10", "123456", "999999", "1234567", "1000000", "0000000", "18446744073709551616", "18446744073709551617", "4294967297", "00", "01", "000001", "+0", "+1", "-0", "-1", "-", "", "x", "1x", "x1", "1.0", "1e0", "0x1", "0b1", "0_1", "1_", "١", "１", "\x00", "1\x00", "1\n", "\n1", "１0"}
	for _, word := range last {
		for _, form := range []string{"serve N 1", "serve 1 N", "wrong N x", "fall N 1 3", "fall 1 N 3", "rise N"} {
			wantLast(t, append(slices.Clone(ahead), strings.ReplaceAll(form, "N", word)), "no")
		}
		wantLast(t, append(slices.Clone(ahead), "ask "+word+" cat"), "down")
		wantLast(t, append(slices.Clone(ahead), "serve "+word+" 1", "show"), "has 0, 0 words", "has 1, 1 words")
	}
	for _, word := range []string{"0", "1"} {
		for _, form := range []string{"serve N 1", "serve 1 N", "wrong N x", "fall N 1 3", "fall 1 N 3"} {
			wantLast(t, append(slices.Clone(ahead), strings.ReplaceAll(form, "N", word)), "ok")
		}
		wantLast(t, append(slices.Clone(ahead), "fall "+word+" 0 0", "rise "+word), "ok")
		wantLast(t, append(slices.Clone(ahead), "rise "+word), "no")
	}
}

// P42: a fall leaves BYTES modulo 2000; of what is no number none.
func TestSessionFall(t *testing.T) {
	size := len(textByWords("key", 0, impl.Book{}, bookOf(t, "cat\n")))
	for word, bytes := range map[string]int{
		"0": 0, "1": 1, "30": 30, strconv.Itoa(size - 1): size - 1, strconv.Itoa(size): size, strconv.Itoa(size + 1): size, "1999": size, "2000": 0, "2001": 1, "2030": 30, "3999": size, "4000": 0, "4001": 1, "123456": size, "100001": 1, "998000": 0, "998030": 30, "999999": size,
		"1000030": 0, "1000000": 0, "2000001": 0, "030": 0, "00": 0, "000001": 0, "-1": 0, "-30": 0, "+30": 0, "": 0, "x": 0, "30x": 0, "3\n": 0, "18446744073709551617": 0,
	} {
		told := "has 0, 0 words"
		if bytes == size {
			told = "has 1, 1 words"
		}
		wantSession(t, []string{"publish +cat", "fall 1 0 " + word, "show", "ask 1 cat", "serve 1 0", "wrong 1 x", "fall 1 0 0", "rise 1", "show", "rise 1"}, "ok", "ok", "has 0, 0 words", "down "+strconv.Itoa(bytes), "down", "no", "no", "no", "ok", "has 0, 0 words", told, "no")
	}
	// A fall by an old text, and by a later one, leaves nothing of it; without a text there is none.
	wantSession(t, []string{"fall 0 0 30", "publish +cat", "publish +dog", "serve 0 0", "fall 0 0 30", "fall 1 1 30", "show", "fall 0 1 30", "rise 0", "rise 1", "show"}, "no", "ok", "ok", "ok", "ok", "ok", "down "+strconv.Itoa(size), "down 0", "no", "ok", "ok", "has 1, 1 words", "has 0, 0 words")
}

// P42: what a client is asked for: what it has not taken it does not know.
func TestSessionAsk(t *testing.T) {
	ahead := []string{"publish +bat +cat/S +hat +mat +rat +zebra", "serve 0 0"}
	for line, answer := range map[string]string{
		"ask 0 cat": "yes", "ask 0 cats": "no cat", "ask 0 zat": "no bat,cat,hat,mat,rat", "ask 0 sat": "no bat,cat,hat,mat,rat", "ask 0 zebr": "no zebra", "ask 0 zeb": "no zebra", "ask 0 ze": "no ", "ask 0 zz": "no ", "ask 0 quite": "no ",
		"ask 0 Cat": "no ", "ask 0 x1": "no ", "ask 0 \n": "no ", "ask 0 cat\n": "no ", "ask 0 abcabcabcabca": "no ", "ask 0 cat/S": "no ",
		"ask 1 cat": "no ", "ask 1 zat": "no ", "ask 2 cat": "down", "ask -1 cat": "down", "ask x cat": "down", "ask cat 0": "down",
	} {
		wantLast(t, append(slices.Clone(ahead), line), answer)
	}
	wantLast(t, []string{"publish +cat", "serve 0 0", "fall 0 0 9", "ask 0 cat"}, "down")
	// GuessMax guesses are told at most.
	var many []string
	for _, c := range small[:15] {
		many = append(many, "+"+string(c)+"x")
	}
	wantLast(t, []string{"publish " + strings.Join(many, " "), "serve 1 0", "ask 1 zx"}, "no ax,bx,cx,dx,ex,fx,gx,hx,ix,jx")
}

// someLine is some line of a session, right or not.
func someLine(r *rand.Rand) string {
	pick := func(list ...string) string { return list[r.Intn(len(list))] }
	client := pick("0", "1", "0", "1", "2", "-1", "")
	at := pick("0", "0", "0", "1", "1", "2", "3", "01", "x")
	word := textOf(r, "abc", 1+r.Intn(2))
	line := ""
	switch r.Intn(9) {
	case 0, 1:
		var comes []string
		for range r.Intn(4) {
			comes = append(comes, " +"+textOf(r, "abc", 1+r.Intn(2))+pick("", "", "/A", "/BA"))
		}
		slices.Sort(comes)
		line = "publish" + pick("", "", "", " affixes") + pick("", "", " -"+textOf(r, "abc", 1)) + strings.Join(comes, "")
	case 2, 3:
		line = "serve " + client + " " + at
	case 4:
		line = "wrong " + client + " " + word
	case 5:
		line = "fall " + client + " " + at + " " + pick("0", "20", "1999", "2000", "2040", "x", "-1", "1999", "999999", "1000000")
	case 6:
		line = "rise " + client
	case 7:
		line = "ask " + client + " " + word
	case 8:
		line = "show"
	}
	if r.Intn(15) == 0 {
		place := r.Intn(len(line) + 1)
		line = line[:place] + textOf(r, " \nx0\xff", r.Intn(2)) + line[min(len(line), place+r.Intn(2)):]
	}
	return line
}

// P42: of many sessions: each line has its answer, a line of its own, but show, which has one for each client.
func TestSessionMany(t *testing.T) {
	r := rand.New(rand.NewSource(66))
	answers := map[string]int{}
	for range 400 {
		var lines []string
		answered := 0
		for i := range r.Intn(45) {
			line := someLine(r)
			// Else there would be little to be asked for.
			if i < 3 && r.Intn(3) > 0 {
				line = []string{"publish +a +ab +b +cc", "serve 0 0", "serve 1 0"}[i]
			}
			lines = append(lines, line)
			if i < 40 {
				answered++
				if line == "show" {
					answered++
				}
			}
		}
		given := slices.Clone(lines)
		got := impl.Session(lines)
		if want := sessionByWords(lines); got != want {
			t.Fatalf("%q: %q, want %q", lines, got, want)
		}
		if !slices.Equal(lines, given) || strings.Count(got, "\n") != answered || answered > 0 && !strings.HasSuffix(got, "\n") {
			t.Fatalf("%q: %q", lines, got)
		}
		for _, line := range strings.SplitAfter(got, "\n") {
			kind, _, _ := strings.Cut(strings.TrimSuffix(line, "\n"), " ")
			answers[kind]++
		}
	}
	for _, kind := range []string{"ok", "no", "what", "yes", "down", "has"} {
		if answers[kind] < 30 {
			t.Errorf("too few of some kind: %v", answers)
		}
	}
}
