package tests

import (
	"fmt"
	"math"
	"math/rand"
	"reflect"
	"slices"
	"strconv"
	"strings"
	"testing"

	"loop.example/medlar/impl"
)

// sameClient says whether two clients are the same.
func sameClient(a impl.Client, b impl.Client) bool {
	return a.Key == b.Key && a.Up == b.Up && a.Number == b.Number && sameBook(a.Book, b.Book) && a.File == b.File
}

// toldClient tells a client in short.
func toldClient(c impl.Client) string {
	return fmt.Sprintf("{%.10q up %v, %d, %q, %d bytes}", c.Key, c.Up, c.Number, impl.BookPut(c.Book), len(c.File))
}

// wantClient fails if a client is not the one that is asked for.
func wantClient(t *testing.T, what string, got impl.Client, want impl.Client) {
	t.Helper()
	if !sameClient(got, want) {
		t.Errorf("%s: %s, want %s", what, toldClient(got), toldClient(want))
	}
}

// wantTake fails if a client does not take a text as is asked for.
func wantTake(t *testing.T, what string, c impl.Client, text string, want impl.Client, code int) {
	t.Helper()
	got, k := impl.ClientTake(c, text)
	if k != code {
		t.Errorf("%s: code %d, want %d", what, k, code)
	}
	wantClient(t, what, got, want)
}

// refused fails if a client that is ok takes a text, or changes by it: also in a fall nothing of it is kept.
func refused(t *testing.T, what string, c impl.Client, text string, code int) {
	t.Helper()
	wantTake(t, what, c, text, c, code)
	if !impl.ClientOk(c) {
		t.Errorf("%s: not ok", what)
	}
	if !c.Up {
		wantClient(t, what+", falling", impl.ClientFall(c, text, len(text)), c)
		return
	}
	for _, n := range []int{math.MinInt, -1, 0, 1, len(text), len(text) + 1, math.MaxInt} {
		wantClient(t, what+", falling", impl.ClientFall(c, text, n), impl.Client{Key: c.Key, File: c.File})
	}
}

// takeByWords is ClientTake of a client that is ok, as the document says it.
func takeByWords(c impl.Client, text string) (impl.Client, int) {
	if !c.Up {
		return c, 7
	}
	x, ok := releaseByWords(text)
	if !ok {
		return c, 1
	}
	if x.Seal != sealByWorld(c.Key, text[:len(text)-70]) {
		return c, 2
	}
	if x.Number <= c.Number {
		return c, 3
	}
	if x.Number != c.Number+1 {
		return c, 4
	}
	if len(c.File)+len(text) > 12000 {
		return c, 6
	}
	b, ok := doneByWords(c.Book, x.Delta)
	if !ok || hashByWorld(impl.BookPut(b)) != x.Sum {
		return c, 5
	}
	return impl.Client{Key: c.Key, Up: true, Number: x.Number, Book: b, File: c.File + text}, 0
}

// P32: a client begins with nothing, by a key alone.
func TestClientNew(t *testing.T) {
	for _, key := range goodKeys {
		c := impl.ClientNew(key)
		wantClient(t, "new", c, impl.Client{Key: key, Up: true})
		if !impl.ClientOk(c) {
			t.Errorf("%q: not ok", key)
		}
		s := smallStory(t, key)
		wantTake(t, "the first", c, s.texts[0], s.client(key, 1), impl.TakeFine)
	}
	for _, key := range badKeys {
		wantClient(t, "of no key", impl.ClientNew(key), impl.Client{})
		if impl.ClientOk(impl.ClientNew(key)) || impl.ClientOk(impl.Client{Key: key, Up: true}) || impl.ClientOk(impl.Client{Key: key}) {
			t.Errorf("%q: ok", key)
		}
	}
}

// goodClients are clients that are ok, limits being met exactly.
func goodClients(t *testing.T) []impl.Client {
	t.Helper()
	s := smallStory(t, "key")
	full := sizedStory(t, "key", sizesOf(impl.FileMax)...)
	list := []impl.Client{
		{Key: "key", Up: true, Book: impl.Book{Affixes: []impl.Affix{}, Entries: []impl.Entry{}}}, full.client("key", len(full.texts)),
		{Key: "key"}, {Key: "key", Book: impl.Book{Affixes: []impl.Affix{}, Entries: []impl.Entry{}}}, {Key: "key", File: full.file(len(full.texts))},
		{Key: "key", File: "x"}, {Key: "key", File: "\x00"}, {Key: "key", File: s.texts[1]}, {Key: "key", File: s.file(2) + "x"}, {Key: "other", File: s.file(2)}, {Key: "key", File: s.file(2)[1:]}, {Key: "key", File: s.file(2)[:300]},
		{Key: "key", File: strings.Repeat("x", impl.FileMax+1)}, {Key: "key", File: strings.Repeat("\n", 13269)}, {Key: "key", File: strings.Repeat("x", 13270)}, {Key: strings.Repeat("k", 64), File: strings.Repeat("\xff", 13270)},
	}
	for n := range len(s.books) {
		list = append(list, s.client("key", n), impl.Client{Key: "key", File: s.file(n)})
	}
	return list
}

// badClients are clients that are not ok.
func badClients(t *testing.T) []impl.Client {
	t.Helper()
	s, other := smallStory(t, "key"), smallStory(t, "other")
	more := sizedStory(t, "key", sizesOf(impl.FileMax+1)...)
	cat := impl.Book{Entries: []impl.Entry{{Stem: "cat"}}}
	good := s.client("key", 2)
	list := []impl.Client{
		{}, {Up: true}, {Key: "key", Up: true, Number: 1}, {Key: "key", Up: true, Number: -1}, {Key: "key", Up: true, Book: cat}, {Key: "key", Up: true, Number: 1, Book: cat}, {Key: "key", Up: true, File: "x"}, {Key: "key", Up: true, File: "\n"}, {Key: "key", Up: true, File: s.texts[0]}, {Key: "key", Up: true, Number: 1, File: s.texts[0]}, {Key: "key", Up: true, Book: cat, File: s.texts[0]},
		// Not up, and with something.
		{Key: "key", Number: 1}, {Key: "key", Number: -1}, {Key: "key", Number: math.MinInt}, {Key: "key", Book: cat}, {Key: "key", Book: impl.Book{Affixes: eightAffixes()}}, {Key: "key", Number: 1, Book: cat, File: s.texts[0]}, {Key: "key", Number: 1, File: s.texts[0]}, {Key: "key", Book: cat, File: s.texts[0]},
		{Key: "key", File: strings.Repeat("x", 13271)}, {Key: "key", File: strings.Repeat("\n", 13271)}, {Key: "key", File: strings.Repeat("x", 1000000)}, {Key: "key", Up: true, File: strings.Repeat("x", 13271)},
		// Up, with more than there is room for.
		more.client("key", len(more.texts)), {Key: "key", Up: true, Number: len(more.texts) - 1, Book: more.books[len(more.texts)-1], File: more.file(len(more.texts))},
	}
	put := func(change func(c *impl.Client)) {
		c := good
		c.Book = impl.Book{Affixes: slices.Clone(good.Book.Affixes), Entries: slices.Clone(good.Book.Entries)}
		change(&c)
		list = append(list, c)
	}
	for _, number := range []int{0, 1, 3, 4, -2, 2 + 1<<32, math.MaxInt, math.MinInt} {
		put(func(c *impl.Client) { c.Number = number })
	}
	for _, b := range append(badBooks(), s.books[0], s.books[1], s.books[4]) {
		put(func(c *impl.Client) { c.Book = b })
	}
	for _, file := range []string{"", s.file(1), s.file(3), s.file(4), s.texts[1], s.file(2) + "x", s.file(2) + "\n", s.file(2) + s.texts[1], s.file(2) + s.texts[3], s.file(2)[1:], s.file(2)[:len(s.file(2))-1], "x" + s.file(2), other.file(2), s.texts[0] + other.texts[1], s.texts[1] + s.texts[0], strings.ToUpper(s.file(2))} {
		put(func(c *impl.Client) { c.File = file })
	}
	for _, key := range append(slices.Clone(badKeys), "other", "Key", "key\x00", "ke", "keys") {
		put(func(c *impl.Client) { c.Key = key })
	}
	put(func(c *impl.Client) { c.Up = false })
	put(func(c *impl.Client) { c.Up, c.Number = false, 0 })
	put(func(c *impl.Client) { c.Book.Affixes = nil })
	put(func(c *impl.Client) { c.Book.Entries = nil })
	put(func(c *impl.Client) { c.Book.Entries[0].Flags = "T" })
	put(func(c *impl.Client) { c.Book.Entries[1].Stem = "dot" })
	put(func(c *impl.Client) { c.Book.Affixes[0].Front = true })
	put(func(c *impl.Client) { c.Book.Affixes = append(c.Book.Affixes, affix("end", "T", "", "t", "")) })
	put(func(c *impl.Client) { c.Book.Entries = append(c.Book.Entries, impl.Entry{Stem: "zoo"}) })
	put(func(c *impl.Client) { c.Book.Entries = c.Book.Entries[:1] })
	return list
}

// P32, P33: which clients are ok.
func TestClientOk(t *testing.T) {
	for i, c := range goodClients(t) {
		if !impl.ClientOk(c) {
			t.Errorf("%d is not ok: %s", i, toldClient(c))
		}
	}
	for i, c := range badClients(t) {
		if impl.ClientOk(c) {
			t.Errorf("%d is ok: %s", i, toldClient(c))
		}
	}
}

// P33, P34, P35: a client that is not ok takes nothing, and stays as it is in a fall or a rise.
func TestBadClients(t *testing.T) {
	s := smallStory(t, "key")
	for i, c := range badClients(t) {
		what := "bad client " + strconv.Itoa(i)
		for _, text := range []string{"", "x", s.texts[0], s.texts[1], s.texts[2]} {
			wantTake(t, what, c, text, impl.Client{}, impl.TakeForm)
			for _, n := range []int{-1, 0, 5, len(text), 9999} {
				wantClient(t, what+", falling", impl.ClientFall(c, text, n), c)
			}
		}
		wantClient(t, what+", rising", impl.ClientRise(c), c)
	}
}

// P33: a client takes the releases one by one, each once, and nothing else between.
func TestClientTake(t *testing.T) {
	s, other := smallStory(t, "key"), smallStory(t, "other")
	for n := range s.texts {
		c := s.client("key", n)
		wantTake(t, "the next", c, s.texts[n], s.client("key", n+1), impl.TakeFine)
		again, _ := impl.ClientTake(c, s.texts[n])
		refused(t, "the next twice", again, s.texts[n], impl.TakeOld)
		for k, text := range s.texts {
			if k < n {
				refused(t, "an old one", c, text, impl.TakeOld)
			}
			if k > n {
				refused(t, "a later one", c, text, impl.TakeGap)
			}
			refused(t, "one of another key", c, other.texts[k], impl.TakeSeal)
			refused(t, "one without its last byte", c, text[:len(text)-1], impl.TakeForm)
			refused(t, "one with a byte more", c, text+"\n", impl.TakeForm)
		}
		for _, text := range []string{"", "x", "\n", "release", s.file(2), s.file(4), strings.Repeat("x", 100000), c.File + "x"} {
			refused(t, "no release", c, text, impl.TakeForm)
		}
		refused(t, "a text without its seal", c, s.texts[n][:len(s.texts[n])-70], impl.TakeForm)
		refused(t, "a seal without its text", c, s.texts[n][len(s.texts[n])-70:], impl.TakeForm)
	}
}

// P33: a whole release that is next, but leads to a book of another sum, or cannot be done.
func TestClientTakeSum(t *testing.T) {
	s := smallStory(t, "key")
	c := s.client("key", 1)
	for i, x := range []impl.Release{
		{Number: 2, Delta: deltaOf(t, "+dog\n"), Sum: hashByWorld("cat\n")}, {Number: 2, Delta: deltaOf(t, "+dog\n"), Sum: hashByWorld("dog\n")}, {Number: 2, Sum: hashByWorld("")}, {Number: 2, Delta: deltaOf(t, "-cat\n"), Sum: hashByWorld("cat\n")},
		{Number: 2, Delta: deltaOf(t, "-dog\n"), Sum: hashByWorld("cat\n")}, {Number: 2, Delta: deltaOf(t, "-dog\n"), Sum: hashByWorld("")}, {Number: 2, Delta: impl.Delta{Comes: entriesOf(impl.EntryMax)}, Sum: hashByWorld("cat\n")},
	} {
		refused(t, "sum "+strconv.Itoa(i), c, impl.ReleasePut(sealedBy("key", x)), impl.TakeSum)
	}
	// Of another story, but it leads to its sum all the same.
	x := sealedBy("key", impl.Release{Number: 2, Delta: deltaOf(t, "-cat\n+dog\n"), Sum: hashByWorld("dog\n")})
	text := impl.ReleasePut(x)
	wantTake(t, "made by hand", c, text, impl.Client{Key: "key", Up: true, Number: 2, Book: bookOf(t, "dog\n"), File: s.texts[0] + text}, impl.TakeFine)
	refused(t, "of another story", s.client("key", 0), impl.ReleasePut(releaseOf(t, "key", 0, bookOf(t, "cat\n"), bookOf(t, "dog\n"))), impl.TakeSum)
}

// fullClient is a client that is up, with room for so many bytes more.
func fullClient(t *testing.T, room int) impl.Client {
	t.Helper()
	s := sizedStory(t, "key", sizesOf(impl.FileMax-room)...)
	return s.client("key", len(s.texts))
}

// nextText is a release of a key that a client would take, if it were its own and there were room; it changes nothing.
func nextText(key string, c impl.Client, ahead int, sum string) string {
	return impl.ReleasePut(sealedBy(key, impl.Release{Number: c.Number + ahead, Sum: sum}))
}

// P33: which code is told where two or more would fit.
func TestTakeFirstCode(t *testing.T) {
	codes := []int{impl.TakeFine, impl.TakeForm, impl.TakeSeal, impl.TakeOld, impl.TakeGap, impl.TakeSum, impl.TakeFull, impl.TakeDown}
	if !slices.Equal(codes, []int{0, 1, 2, 3, 4, 5, 6, 7}) {
		t.Errorf("codes: %v", codes)
	}
	for _, full := range []bool{false, true} {
		room := 1000
		if full {
			room = 100
		}
		c := fullClient(t, room)
		right, wrong := hashByWorld(impl.BookPut(c.Book)), hashByWorld("wrong")
		down := impl.Client{Key: c.Key, File: c.File}
		for _, x := range []struct {
			text string
			code int
		}{
			{"x", impl.TakeForm}, {strings.Repeat("x", 20000), impl.TakeForm}, {nextText("other", c, 1, wrong) + "\n", impl.TakeForm}, {nextText("key", c, 0, wrong)[1:], impl.TakeForm},
			{nextText("other", c, 1, right), impl.TakeSeal}, {nextText("other", c, 1, wrong), impl.TakeSeal}, {nextText("other", c, 0, wrong), impl.TakeSeal}, {nextText("other", c, -1, right), impl.TakeSeal}, {nextText("other", c, 2, wrong), impl.TakeSeal}, {nextText("other", c, 2, right), impl.TakeSeal},
			{nextText("key", c, 0, right), impl.TakeOld}, {nextText("key", c, 0, wrong), impl.TakeOld}, {nextText("key", c, -1, wrong), impl.TakeOld}, {nextText("key", c, 1-c.Number, wrong), impl.TakeOld},
			{nextText("key", c, 2, right), impl.TakeGap}, {nextText("key", c, 2, wrong), impl.TakeGap}, {nextText("key", c, 3, wrong), impl.TakeGap}, {nextText("key", c, 999999-c.Number, right), impl.TakeGap},
		} {
			refused(t, "code", c, x.text, x.code)
			refused(t, "down", down, x.text, impl.TakeDown)
		}
		next, bad := nextText("key", c, 1, right), nextText("key", c, 1, wrong)
		if full {
			refused(t, "full", c, next, impl.TakeFull)
			refused(t, "full, and another sum", c, bad, impl.TakeFull)
		} else {
			wantTake(t, "next", c, next, impl.Client{Key: "key", Up: true, Number: c.Number + 1, Book: c.Book, File: c.File + next}, impl.TakeFine)
			refused(t, "another sum", c, bad, impl.TakeSum)
		}
		refused(t, "down", down, next, impl.TakeDown)
		refused(t, "down", down, bad, impl.TakeDown)
		refused(t, "down", down, "", impl.TakeDown)
	}
}

// P33: FileMax bytes are met exactly, and one more is refused.
func TestTakeFull(t *testing.T) {
	for room, code := range map[int]int{147: impl.TakeFine, 146: impl.TakeFine, 145: impl.TakeFull, 1: impl.TakeFull, 0: impl.TakeFull} {
		c := fullClient(t, room)
		text := nextText("key", c, 1, hashByWorld(impl.BookPut(c.Book)))
		if len(text) != 146 || len(c.File) != impl.FileMax-room || !impl.ClientOk(c) {
			t.Fatalf("%d and %d bytes", len(c.File), len(text))
		}
		if code != impl.TakeFine {
			refused(t, "room for "+strconv.Itoa(room), c, text, code)
			continue
		}
		taken := impl.Client{Key: "key", Up: true, Number: c.Number + 1, Book: c.Book, File: c.File + text}
		wantTake(t, "room for "+strconv.Itoa(room), c, text, taken, code)
		if !impl.ClientOk(taken) {
			t.Errorf("room for %d: not ok", room)
		}
		fallen := impl.ClientFall(c, text, len(text))
		wantClient(t, "fallen", fallen, impl.Client{Key: "key", File: taken.File})
		wantClient(t, "risen", impl.ClientRise(fallen), taken)
		wantClient(t, "risen with less", impl.ClientRise(impl.ClientFall(c, text, len(text)-1)), c)
	}
}

// P34: behind a fall and a rise a client is as it was, or has taken the release; that just if all bytes are kept.
func TestClientFall(t *testing.T) {
	s := smallStory(t, "key")
	for n, text := range s.texts {
		c, next := s.client("key", n), s.client("key", n+1)
		for bytes := -2; bytes <= len(text)+2; bytes++ {
			kept := text[:max(0, min(bytes, len(text)))]
			fallen := impl.ClientFall(c, text, bytes)
			wantClient(t, "fallen", fallen, impl.Client{Key: "key", File: c.File + kept})
			if !impl.ClientOk(fallen) {
				t.Errorf("%d bytes: not ok", bytes)
			}
			want := c
			if bytes >= len(text) {
				want = next
			}
			wantClient(t, strconv.Itoa(bytes)+" bytes, risen", impl.ClientRise(fallen), want)
			refused(t, "fallen", fallen, text, impl.TakeDown)
		}
		wantClient(t, "fallen by the least number", impl.ClientFall(c, text, math.MinInt), impl.Client{Key: "key", File: c.File})
		wantClient(t, "fallen by the greatest number", impl.ClientFall(c, text, math.MaxInt), impl.Client{Key: "key", File: next.File})
	}
}

// P34, P35: a client that is up does not rise, and one that is not does not fall.
func TestClientStays(t *testing.T) {
	s := smallStory(t, "key")
	for _, c := range goodClients(t) {
		if c.Up {
			wantClient(t, "rise of one that is up", impl.ClientRise(c), c)
			continue
		}
		for _, text := range []string{"", "x", s.texts[0], s.texts[2]} {
			for _, n := range []int{-1, 0, 7, len(text), 9999} {
				wantClient(t, "fall of one that is not up", impl.ClientFall(c, text, n), c)
			}
		}
	}
}

// P35: a client that rises has all whole releases that it keeps, and keeps just these.
func TestClientRise(t *testing.T) {
	s, other := smallStory(t, "key"), smallStory(t, "other")
	for n := range len(s.books) {
		for _, behind := range []string{"", "x", "\n", "seal ", strings.Repeat("x", 12000), other.file(4)[len(other.file(n)):]} {
			wantClient(t, "risen", impl.ClientRise(impl.Client{Key: "key", File: s.file(n) + behind}), s.client("key", n))
		}
		for _, ahead := range []string{"x", "\n", "\x00", other.texts[0], s.texts[1]} {
			wantClient(t, "risen with nothing", impl.ClientRise(impl.Client{Key: "key", File: ahead + s.file(n)}), impl.ClientNew("key"))
		}
	}
	for _, c := range goodClients(t) {
		if c.Up {
			continue
		}
		risen := impl.ClientRise(c)
		if texts, n := impl.FileGet(c.Key, c.File[:min(len(c.File), impl.FileMax)]); !risen.Up || risen.Number != len(texts) || risen.File != c.File[:n] || !impl.ClientOk(risen) {
			t.Errorf("%s: %s", toldClient(c), toldClient(risen))
		}
		wantClient(t, "risen twice", impl.ClientRise(risen), risen)
	}
}

// P35: of a file of more than FileMax bytes as many releases are kept as have at most so many; a file of FileMax and SealMax and 70 bytes is one, and one more byte is too much.
func TestClientRiseLimits(t *testing.T) {
	most := impl.FileMax + impl.SealMax + 70
	for _, first := range []int{impl.FileMax - 1, impl.FileMax, impl.FileMax + 1} {
		sizes := append(sizesOf(first), sizesOf(most-first)...)
		s := sizedStory(t, "key", sizes...)
		n := len(sizesOf(first))
		if first > impl.FileMax {
			n--
		}
		file := s.file(len(s.texts))
		if len(file) != 13270 {
			t.Fatalf("%d bytes", len(file))
		}
		for _, size := range []int{most, most - 1, max(first, impl.FileMax), max(first, impl.FileMax) + 1} {
			c := impl.Client{Key: "key", File: file[:size]}
			if !impl.ClientOk(c) {
				t.Errorf("%d bytes: not ok", size)
			}
			wantClient(t, strconv.Itoa(first)+" of "+strconv.Itoa(size), impl.ClientRise(c), s.client("key", n))
		}
		c := impl.Client{Key: "key", File: file + "x"}
		if impl.ClientOk(c) {
			t.Error("one more is ok")
		}
		wantClient(t, "one more", impl.ClientRise(c), c)
		wantTake(t, "one more", c, s.texts[0], impl.Client{}, impl.TakeForm)
	}
}

// someText is a release that a client may be handed, or something else.
func someText(r *rand.Rand, n int, mine story, others ...story) string {
	text := mine.texts[min(n, len(mine.texts)-1)]
	switch r.Intn(6) {
	case 0:
		return mine.texts[r.Intn(len(mine.texts))]
	case 1:
		other := others[r.Intn(len(others))]
		return other.texts[min(n, len(other.texts)-1)]
	case 2:
		at := r.Intn(len(text) + 1)
		return text[:at] + textOf(r, "\n a0", r.Intn(2)) + text[min(len(text), at+r.Intn(2)):]
	}
	return text
}

// P33, P34, P35, P76: of many clients: what each does with what it is handed is what the document says; and at its end a new one that takes what it keeps is the client.
func TestClientMany(t *testing.T) {
	r := rand.New(rand.NewSource(52))
	codes := map[int]int{}
	for range 150 {
		mine, other, apart := someStories(t, r, 7)
		c := impl.ClientNew("key")
		for range 20 {
			text := someText(r, c.Number, mine, other, apart)
			taken, code := takeByWords(c, text)
			codes[code]++
			wantTake(t, "taken", c, text, taken, code)
			if code != impl.TakeFine && !sameClient(taken, c) || code == impl.TakeFine && taken.Number != c.Number+1 {
				t.Fatalf("%s takes %q: %s", toldClient(c), text, toldClient(taken))
			}
			bytes := r.Intn(len(text)+20) - 10
			risen := impl.ClientRise(impl.ClientFall(c, text, bytes))
			if want := c; !c.Up {
				texts, n := impl.FileGet(c.Key, c.File)
				if !risen.Up || risen.Number != len(texts) || risen.File != c.File[:n] {
					t.Fatalf("%s rises: %s", toldClient(c), toldClient(risen))
				}
			} else {
				if code == impl.TakeFine && bytes >= len(text) {
					want = taken
				}
				wantClient(t, "fallen and risen", risen, want)
			}
			switch r.Intn(8) {
			case 0:
				c = impl.ClientFall(c, text, bytes)
			case 1:
				c = risen
			default:
				c = taken
			}
			if !impl.ClientOk(c) {
				t.Fatalf("not ok: %s", toldClient(c))
			}
		}
		c = impl.ClientRise(c)
		takesAll(t, c)
		if t.Failed() {
			return
		}
	}
	for _, code := range []int{0, 1, 2, 3, 4, 5, 7} {
		if codes[code] < 20 {
			t.Errorf("too few of some kind: %v", codes)
		}
	}
}

// takesAll fails if a new client that takes all that another one keeps, one by one, is not that client.
func takesAll(t *testing.T, c impl.Client) {
	t.Helper()
	texts, n := impl.FileGet(c.Key, c.File)
	if n != len(c.File) {
		t.Errorf("%d of %d bytes are read", n, len(c.File))
	}
	fresh := impl.ClientNew(c.Key)
	for _, text := range texts {
		fresh, _ = impl.ClientTake(fresh, text)
	}
	wantClient(t, "takes what another one keeps", fresh, c)
}

// P76: a new client that takes all that another one keeps is that client, also if that is full.
func TestTakesAll(t *testing.T) {
	for _, c := range goodClients(t) {
		if c.Up {
			takesAll(t, c)
		}
	}
}

// What was handed in is not changed, nor what stands behind its end; no answer shares memory with it, or with another answer.
func TestClientsAreNew(t *testing.T) {
	r := rand.New(rand.NewSource(53))
	for range 60 {
		s := someStory(t, r, "key", 3)
		up := s.client("key", 2)
		bad := up
		bad.Number++
		down := impl.Client{Key: "key", File: s.file(3)[:len(s.file(3))-r.Intn(2)]}
		for _, c := range []impl.Client{up, bad, down, impl.ClientNew("key")} {
			c.Book = roomyBook(c.Book)
			plain, whole := c, wholeBook(c.Book)
			plain.Book = impl.Book{Affixes: slices.Clone(c.Book.Affixes), Entries: slices.Clone(c.Book.Entries)}
			answers := func(c impl.Client) []impl.Client {
				next, _ := impl.ClientTake(c, s.texts[2])
				left, _ := impl.ClientTake(c, s.texts[0])
				none, _ := impl.ClientTake(c, "x")
				return []impl.Client{next, left, none, impl.ClientFall(c, s.texts[2], 9), impl.ClientFall(c, "x", 9), impl.ClientRise(c), impl.ClientNew("key")}
			}
			want, kept := answers(plain), answers(c)
			for _, gone := range answers(c) {
				spoilBook(gone.Book)
			}
			if !reflect.DeepEqual(wholeBook(c.Book), whole) {
				t.Fatal("an argument is changed")
			}
			spoilBook(c.Book)
			for i := range want {
				wantClient(t, "kept "+strconv.Itoa(i), kept[i], want[i])
			}
			spoilBook(plain.Book)
			for i := range want {
				wantClient(t, "kept on "+strconv.Itoa(i), kept[i], want[i])
			}
		}
	}
}

// Clients are answered whatever they are made of.
func TestAnyClient(t *testing.T) {
	r := rand.New(rand.NewSource(54))
	s := smallStory(t, "k")
	ok := map[bool]int{}
	for range 4000 {
		text := func() string {
			if r.Intn(2) == 0 {
				return s.file(r.Intn(5))
			}
			return textOf(r, "release seal 0123\n+-a\x00\xff", r.Intn(8))
		}
		c := impl.Client{Key: textOf(r, "kkk\x00", 1), Up: r.Intn(2) == 0, Number: r.Intn(3), File: text()}
		if c.Book = s.books[r.Intn(5)]; r.Intn(2) == 0 {
			c.Book, c.Number = impl.Book{Entries: []impl.Entry{{Stem: text(), Flags: text()}}}, 0
		}
		if r.Intn(4) == 0 {
			c = impl.ClientRise(impl.Client{Key: c.Key, File: c.File})
		}
		is := impl.ClientOk(c)
		ok[is]++
		want := c.Key == "k" && c.Number == 0 && sameBook(c.Book, impl.Book{})
		if texts, b := fileByWords(c.Key, c.File); c.Up {
			want = c.Key == "k" && c.Number == len(texts) && sameBook(c.Book, b) && strings.Join(texts, "") == c.File
		}
		if is != want {
			t.Fatalf("%v: %s", is, toldClient(c))
		}
		next, code := impl.ClientTake(c, text())
		if !is && (code != impl.TakeForm || !sameClient(next, impl.Client{})) || is && !impl.ClientOk(next) {
			t.Fatalf("%s: %s", toldClient(c), toldClient(next))
		}
		if impl.ClientOk(impl.ClientFall(c, text(), r.Intn(400)-200)) != is || impl.ClientOk(impl.ClientRise(c)) != is {
			t.Fatalf("%s falls or rises otherwise", toldClient(c))
		}
		impl.FileGet(text(), text())
	}
	if ok[true] < 200 || ok[false] < 200 {
		t.Errorf("too few of some kind: %v", ok)
	}
}
