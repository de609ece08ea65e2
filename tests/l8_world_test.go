package tests

import (
	"math"
	"slices"
	"strconv"
	"strings"
	"testing"

	"loop.example/medlar/impl"
)

// P37: a world begins with a key, one empty book, and clients that have nothing.
func TestWorldNew(t *testing.T) {
	if impl.PeerMax != 3 || impl.PlayMax != 60 || impl.WorldPublish != 1 || impl.WorldServe != 2 || impl.WorldWrong != 3 || impl.WorldFall != 4 || impl.WorldRise != 5 {
		t.Error("constants")
	}
	for _, key := range goodKeys {
		for n := 1; n <= impl.PeerMax; n++ {
			want := impl.World{Key: key, Books: []impl.Book{{}}}
			for range n {
				want.Clients = append(want.Clients, impl.Client{Key: key, Up: true})
			}
			w := impl.WorldNew(key, n)
			wantWorld(t, "new", w, want)
			if !impl.WorldOk(w) || !impl.WorldSafe(w) {
				t.Errorf("%q and %d clients: not ok, or not safe", key, n)
			}
			e := impl.Event{Kind: impl.WorldPublish, Delta: deltaOf(t, "+cat\n")}
			want.Books, want.Texts = append(want.Books, bookOf(t, "cat\n")), []string{textByWords(key, 0, impl.Book{}, bookOf(t, "cat\n"))}
			wantDone(t, "the first", w, e, want, true)
		}
		for _, n := range []int{0, -1, impl.PeerMax + 1, -impl.PeerMax, 1 << 32, 1<<32 + 1, math.MaxInt, math.MinInt} {
			wantWorld(t, strconv.Itoa(n)+" clients", impl.WorldNew(key, n), impl.World{})
		}
	}
	for _, key := range badKeys {
		for _, n := range []int{-1, 0, 1, impl.PeerMax, impl.PeerMax + 1} {
			wantWorld(t, "of no key", impl.WorldNew(key, n), impl.World{})
		}
	}
}

// longStory is a story of so many releases, each of which changes something.
func longStory(t *testing.T, key string, n int) story {
	t.Helper()
	s := story{books: []impl.Book{{}}}
	for i := range n {
		s.tell(t, key, impl.Book{Entries: entriesOf(i + 1)})
	}
	return s
}

// goodWorlds are worlds that are ok and safe, limits being met exactly.
func goodWorlds(t *testing.T) []impl.World {
	t.Helper()
	s := smallStory(t, "key")
	most := longStory(t, "key", impl.ReleaseMax)
	full := impl.Book{Affixes: longAffixes(), Entries: entriesWith(stemsOf(0, impl.EntryMax, impl.WordMax), "ABCD")}
	wide := story{books: []impl.Book{{}}}
	wide.tell(t, "key", full)
	wide.tell(t, "key", impl.Book{Affixes: eightAffixes(), Entries: entriesWith(stemsOf(impl.EntryMax, impl.EntryMax, impl.WordMax), "EFGH")})
	noLists := impl.WorldNew("key", 1)
	noLists.Books[0], noLists.Texts = impl.Book{Affixes: []impl.Affix{}, Entries: []impl.Entry{}}, []string{}
	list := []impl.World{
		noLists, impl.WorldNew(strings.Repeat("k", 64), 3), worldOf("key", wide, 2, 1, -3), worldOf("k", smallStory(t, "k"), 4, 0, -4),
		worldOf("key", most, 0), worldOf("key", most, 10, 9, 10), worldOf("key", most, -11, -1, 10), worldOf("key", story{books: []impl.Book{{}}}, -1),
		withClient(worldOf("key", s, 1, 1), 1, impl.Client{Key: "key", File: "x"}), withClient(worldOf("key", s, 1, 1), 0, impl.Client{Key: "key", File: strings.Repeat("x", 13270)}), withClient(worldOf("key", s, 4), 0, impl.Client{Key: "key", File: s.file(2)[:len(s.file(2))-1]}),
	}
	for a := -5; a <= 4; a++ {
		list = append(list, worldOf("key", s, a), worldOf("key", s, a, 4-max(a, 0), 2))
	}
	return list
}

// unsafeWorlds are worlds that are ok, but have a client with another book than that of its number, or of none.
func unsafeWorlds(t *testing.T) []impl.World {
	t.Helper()
	s, other := smallStory(t, "key"), storyOf(t, "key", "cat\n", "cat\nox\n", "end S  s \ncat/S\ndog\n", "dog\nzoo\n", "ox\n")
	var list []impl.World
	for _, c := range []impl.Client{other.client("key", 2), other.client("key", 5), longStory(t, "key", 1).client("key", 1), fullClient(t, 0)} {
		list = append(list, withClient(worldOf("key", s, 0), 0, c), withClient(worldOf("key", s, 1, 2, -1), 2, c), withClient(worldOf("key", s, 1, 2, -1), 0, c), withClient(worldOf("key", story{books: []impl.Book{{}}}, 0, 0), 1, c))
	}
	return list
}

// badWorlds are worlds that are not ok.
func badWorlds(t *testing.T) []impl.World {
	t.Helper()
	s, other := smallStory(t, "key"), smallStory(t, "other")
	good := worldOf("key", s, 2, 0, -4)
	list := []impl.World{{}, {Key: "key"}, {Key: "key", Books: []impl.Book{{}}}, {Key: "key", Clients: []impl.Client{impl.ClientNew("key")}}, {Books: []impl.Book{{}}, Clients: []impl.Client{impl.ClientNew("key")}}}
	for _, key := range badKeys {
		list = append(list, impl.World{Key: key, Books: []impl.Book{{}}, Clients: []impl.Client{{Key: key, Up: true}}}, impl.World{Key: key, Books: []impl.Book{{}}, Clients: []impl.Client{{Key: key}}})
	}
	put := func(change func(w *impl.World)) {
		w := clonedWorld(good)
		change(&w)
		// As two books of the story are the same, some changes change nothing.
		if !sameWorld(w, good) {
			list = append(list, w)
		}
	}
	// Clients: none, one too many, of another key, and such as are not ok.
	put(func(w *impl.World) { w.Clients = nil })
	put(func(w *impl.World) { w.Clients = append(w.Clients, impl.ClientNew("key")) })
	put(func(w *impl.World) { w.Clients = slices.Repeat(w.Clients, 1000) })
	for at := range 3 {
		for _, c := range append(badClients(t), other.client("other", 2), impl.ClientNew("other"), impl.Client{Key: "other"}, impl.Client{Key: "other", File: s.file(3)}) {
			put(func(w *impl.World) { w.Clients[at] = c })
		}
	}
	put(func(w *impl.World) { w.Clients[1].Book = w.Books[1] })
	put(func(w *impl.World) { w.Key = "other" })
	put(func(w *impl.World) { w.Key, w.Texts = "other", other.texts })
	put(func(w *impl.World) { w.Texts = other.texts })
	// Books and texts: too many of one, too few of one, or both too many.
	put(func(w *impl.World) { w.Books, w.Texts = nil, nil })
	put(func(w *impl.World) { w.Texts = nil })
	put(func(w *impl.World) { w.Texts = w.Texts[:3] })
	put(func(w *impl.World) { w.Texts = w.Texts[1:] })
	put(func(w *impl.World) { w.Texts = append(w.Texts, w.Texts[3]) })
	put(func(w *impl.World) { w.Texts = append(w.Texts, "") })
	put(func(w *impl.World) { w.Books = w.Books[:4] })
	put(func(w *impl.World) { w.Books = w.Books[1:] })
	put(func(w *impl.World) { w.Books = append(w.Books, w.Books[4]) })
	put(func(w *impl.World) { w.Books, w.Texts = append(w.Books, w.Books[4]), append(w.Texts, "") })
	list = append(list, worldOf("key", longStory(t, "key", impl.ReleaseMax+1), 0), worldOf("key", longStory(t, "key", 20), 1, 2))
	// A first book that is not empty, though its release is right.
	cat, dog := bookOf(t, "cat\n"), bookOf(t, "cat\ndog\n")
	clients := []impl.Client{impl.ClientNew("key")}
	list = append(list, impl.World{Key: "key", Books: []impl.Book{cat}, Clients: clients}, impl.World{Key: "key", Books: []impl.Book{cat, dog}, Texts: []string{textByWords("key", 0, cat, dog)}, Clients: clients}, impl.World{Key: "key", Books: []impl.Book{{Affixes: eightAffixes()}}, Clients: clients})
	// Texts that fit no two books: swapped, of other numbers, changed, or no releases.
	for at := range 4 {
		from, to := s.books[at], s.books[at+1]
		long := sealedBy("key", impl.Release{Number: at + 1, Delta: impl.Delta{Comes: to.Entries, Affixes: true, List: to.Affixes}, Sum: hashByWorld(impl.BookPut(to))})
		text := s.texts[at]
		for _, x := range []string{"", "x", text[:len(text)-1], text + "\n", text[1:], strings.ToUpper(text), s.texts[(at+1)%4], other.texts[at], textByWords("key", at+1, from, to), textByWords("key", at, to, from), textByWords("key", 999998, from, to), impl.ReleasePut(long)} {
			put(func(w *impl.World) { w.Texts[at] = x })
		}
		put(func(w *impl.World) { w.Books[at] = w.Books[(at+1)%4] })
		for _, b := range append(badBooks(), impl.Book{Entries: entriesOf(7)}) {
			put(func(w *impl.World) { w.Books[at+1] = b })
			// Of no release the empty text is written.
			put(func(w *impl.World) { w.Books, w.Texts = append(w.Books[:at+1], b), append(w.Texts[:at], "") })
		}
	}
	return list
}

// P37, P40: which worlds are ok, and which are safe.
func TestWorldOk(t *testing.T) {
	for i, w := range goodWorlds(t) {
		if !impl.WorldOk(w) || !impl.WorldSafe(w) {
			t.Errorf("%d is not ok, or not safe: %s", i, toldWorld(w))
		}
	}
	for i, w := range badWorlds(t) {
		if impl.WorldOk(w) || impl.WorldSafe(w) {
			t.Errorf("%d is ok, or safe: %s", i, toldWorld(w))
		}
	}
}

// P40: a client that is up with another book than that of its number is found, one that is down is not: it has none.
func TestWorldSafe(t *testing.T) {
	for i, w := range unsafeWorlds(t) {
		if !impl.WorldOk(w) || impl.WorldSafe(w) || safeByWords(w) {
			t.Errorf("%d is not ok, or safe: %s", i, toldWorld(w))
		}
		down := clonedWorld(w)
		for at, c := range down.Clients {
			down.Clients[at] = impl.Client{Key: c.Key, File: c.File}
		}
		if !impl.WorldOk(down) || !impl.WorldSafe(down) {
			t.Errorf("%d is not ok with all down, or not safe: %s", i, toldWorld(down))
		}
		up := down
		for at := range down.Clients {
			up, _ = impl.WorldDo(up, impl.Event{Kind: impl.WorldRise, Client: at})
		}
		if !impl.WorldOk(up) || impl.WorldSafe(up) {
			t.Errorf("%d is not ok with all up again, or safe: %s", i, toldWorld(up))
		}
	}
	// The same book, under another number, is the book of that number all the same.
	s := smallStory(t, "key")
	same := withClient(worldOf("key", s, 0), 0, storyOf(t, "key", "cat\n", "end S  s \ncat/S\ndog\n", "ox\n", "dog\nzoo\n").client("key", 4))
	if !impl.WorldSafe(same) {
		t.Error("the book of its number, by another way")
	}
}

// someEvents is one event of each kind that can be in the world of smallStory, and others.
func someEvents(t *testing.T) []impl.Event {
	t.Helper()
	s := smallStory(t, "key")
	return []impl.Event{{}, {Kind: 1}, {Kind: 1, Delta: deltaOf(t, "+ox\n")}, {Kind: 2}, {Kind: 2, Client: 1, At: 2}, {Kind: 3}, {Kind: 3, Text: "x"}, {Kind: 3, Text: s.texts[0]}, {Kind: 4}, {Kind: 4, Text: "xxx"}, {Kind: 5}, {Kind: 5, Client: 2}, {Kind: 6}, {Kind: -1}}
}

// P37, P40: in a world that is not ok nothing happens, and nothing is told.
func TestBadWorlds(t *testing.T) {
	events := someEvents(t)
	for i, w := range badWorlds(t) {
		for _, e := range events {
			if got, ok := impl.WorldDo(w, e); ok || !sameWorld(got, impl.World{}) {
				t.Errorf("bad world %d, %s: %v %s", i, toldEvent(e), ok, toldWorld(got))
			}
		}
	}
}

// P37, P39: other kinds are none, whatever stands beside.
func TestWorldKinds(t *testing.T) {
	s := smallStory(t, "key")
	for _, w := range []impl.World{worldOf("key", s, 0, -2), worldOf("key", s, -1), impl.WorldNew("key", 2)} {
		for _, kind := range []int{0, 6, 7, -1, -5, 1 << 32, 1<<32 + 1, 256 + 1, math.MaxInt, math.MinInt} {
			wantNot(t, "kind "+strconv.Itoa(kind), w, impl.Event{Kind: kind})
			wantNot(t, "kind "+strconv.Itoa(kind), w, impl.Event{Kind: kind, Client: 1, At: 1, Text: s.texts[0], Delta: deltaOf(t, "+ox\n")})
		}
	}
}

// noPlaces are no places of a list of that length.
func noPlaces(length int) []int {
	return []int{-1, -2, length, length + 1, 1 << 32, math.MaxInt, math.MinInt}
}

// P37, P39: each kind needs a place of Clients and of Texts, or does not.
func TestWorldPlaces(t *testing.T) {
	s := smallStory(t, "key")
	w := worldOf("key", s, 3, 0, 3)
	down := worldOf("key", s, -4, -1, -4)
	for _, x := range []struct {
		w                 impl.World
		e                 impl.Event
		needsClient, text bool
	}{
		{w, impl.Event{Kind: impl.WorldPublish, Delta: deltaOf(t, "+ox\n")}, false, false},
		{w, impl.Event{Kind: impl.WorldServe, Client: 2, At: 3}, true, true},
		{w, impl.Event{Kind: impl.WorldWrong, Client: 2, At: 3, Text: s.texts[3]}, true, false},
		{w, impl.Event{Kind: impl.WorldFall, Client: 2, At: 3, Text: strings.Repeat("x", 2000)}, true, true},
		{down, impl.Event{Kind: impl.WorldRise, Client: 2, At: 3}, true, false},
	} {
		what := "kind " + strconv.Itoa(x.e.Kind)
		want, done := happensByWords(x.w, x.e)
		if !done || sameWorld(want, x.w) {
			t.Fatalf("%s: nothing happens", what)
		}
		wantDone(t, what+", the last places", x.w, x.e, want, true)
		for _, at := range noPlaces(3) {
			e := x.e
			if e.Client = at; x.needsClient {
				wantNot(t, what+", no client "+strconv.Itoa(at), x.w, e)
			} else {
				wantDone(t, what+", client "+strconv.Itoa(at), x.w, e, want, true)
			}
		}
		for _, at := range noPlaces(4) {
			e := x.e
			if e.At = at; x.text {
				wantNot(t, what+", no text "+strconv.Itoa(at), x.w, e)
			} else {
				wantDone(t, what+", text "+strconv.Itoa(at), x.w, e, want, true)
			}
		}
		// The text of an event is no matter where none is asked for.
		if e := x.e; x.e.Kind != impl.WorldWrong && x.e.Kind != impl.WorldFall {
			e.Text = textByWords("key", 0, impl.Book{}, impl.Book{Entries: entriesOf(9)})
			wantDone(t, what+", a text beside", x.w, e, want, true)
		}
		if e := x.e; x.e.Kind != impl.WorldPublish {
			e.Delta = badDeltas()[0]
			wantDone(t, what+", a change beside", x.w, e, want, true)
		}
	}
}

// P37, P39: a change is published behind all others, if it can be done; also one that changes nothing.
func TestWorldPublish(t *testing.T) {
	s := smallStory(t, "key")
	w := worldOf("key", s, 4, 1, -3)
	for _, text := range []string{"+ox\n", "-dog\n", "-dog\n-zoo\n", "-zoo\n+dog/S\n+ox\n", "affixes\n+dog\n", "affixes\nend S  s \n", "", "affixes\n", "+dog\n", "+dog\n+zoo\n"} {
		d := deltaOf(t, text)
		b, _ := doneByWords(s.books[4], d)
		want := clonedWorld(w)
		want.Books, want.Texts = append(want.Books, b), append(want.Texts, textByWords("key", 4, s.books[4], b))
		wantDone(t, text, w, impl.Event{Kind: impl.WorldPublish, Delta: d}, want, true)
	}
	// What is told of a change is just what changes by it, not what it says beside.
	x, _ := impl.WorldDo(w, impl.Event{Kind: impl.WorldPublish, Delta: deltaOf(t, "affixes\n+dog\n+ox\n")})
	if !strings.Contains(x.Texts[4], "\n+ox\nseal ") || strings.Contains(x.Texts[4], "dog") || strings.Contains(x.Texts[4], "affixes") {
		t.Errorf("%q", x.Texts[4])
	}
	for _, text := range []string{"-none\n", "-dog\n-dogs\n+ox\n", "-cat\n", "-a\n+dog\n"} {
		wantNot(t, text, w, impl.Event{Kind: impl.WorldPublish, Delta: deltaOf(t, text)})
	}
	for _, d := range badDeltas() {
		wantNot(t, "no change", w, impl.Event{Kind: impl.WorldPublish, Delta: d})
	}
	// EntryMax entries are met exactly, and one more is refused.
	full, _ := impl.WorldDo(w, impl.Event{Kind: impl.WorldPublish, Delta: impl.Delta{Comes: entriesWith(stemsOf(0, impl.EntryMax-2, 5), "")}})
	if len(full.Books) != 6 || len(full.Books[5].Entries) != impl.EntryMax {
		t.Errorf("%s", toldWorld(full))
	}
	wantNot(t, "one too many", full, impl.Event{Kind: impl.WorldPublish, Delta: deltaOf(t, "+ox\n")})
	wantNot(t, "one too many at once", w, impl.Event{Kind: impl.WorldPublish, Delta: impl.Delta{Comes: entriesWith(stemsOf(0, impl.EntryMax-1, 5), "")}})
}

// P37, P38: ReleaseMax releases are met exactly, and one more is refused; whoever is served all of them has the newest book.
func TestWorldFull(t *testing.T) {
	w := impl.WorldNew("key", 2)
	for i := range impl.ReleaseMax + 2 {
		for _, d := range []impl.Delta{{Comes: entriesOf(i + 1)}, {}} {
			e := impl.Event{Kind: impl.WorldPublish, Delta: d}
			if i < impl.ReleaseMax-1 && len(d.Comes) == 0 {
				continue
			}
			if len(w.Texts) == impl.ReleaseMax {
				wantNot(t, "one more", w, e)
				continue
			}
			next, ok := impl.WorldDo(w, e)
			if !ok || len(next.Texts) != len(w.Texts)+1 || len(next.Books) != len(w.Books)+1 {
				t.Fatalf("%d: %s", i, toldWorld(next))
			}
			w = next
		}
	}
	if len(w.Books) != 11 || len(w.Texts) != 10 {
		t.Fatalf("%s", toldWorld(w))
	}
	x := servedAll(t, w, 1)
	if x.Clients[1].Number != 10 || !sameBook(x.Clients[1].Book, w.Books[10]) || x.Clients[1].File != strings.Join(w.Texts, "") || !sameClient(x.Clients[0], w.Clients[0]) {
		t.Errorf("%s", toldWorld(x))
	}
	// The longest releases that there are have room in a file, ReleaseMax of them.
	long := impl.WorldNew("key", 1)
	for i := range impl.ReleaseMax {
		to := impl.Book{Affixes: longAffixes(), Entries: entriesWith(stemsOf(impl.EntryMax*(i%2), impl.EntryMax, impl.WordMax), "ABCD")}
		if i%2 == 0 {
			to.Affixes = slices.Insert(to.Affixes[1:], 0, affix("front", "Z", "abcd", "abcd", "abcd"))
		}
		long, _ = impl.WorldDo(long, impl.Event{Kind: impl.WorldPublish, Delta: impl.DeltaOf(long.Books[i], to)})
	}
	x = servedAll(t, long, 0)
	if len(x.Texts) != 10 || x.Clients[0].Number != 10 || !sameBook(x.Clients[0].Book, x.Books[10]) || len(x.Clients[0].File) > impl.FileMax || !impl.WorldSafe(x) {
		t.Errorf("%s", toldWorld(x))
	}
}

// servedAll is a world with a client of it served all texts, in order.
func servedAll(t *testing.T, w impl.World, client int) impl.World {
	t.Helper()
	for at := range w.Texts {
		next, ok := impl.WorldDo(w, impl.Event{Kind: impl.WorldServe, Client: client, At: at})
		if !ok || !impl.WorldOk(next) {
			t.Fatalf("client %d is not served %d: %s", client, at, toldWorld(w))
		}
		w = next
	}
	return w
}

// P38: of each number, whoever is up and is served all that was published has the newest book, unless its file is full.
func TestServedAll(t *testing.T) {
	s := smallStory(t, "key")
	for n := range 5 {
		x := servedAll(t, worldOf("key", s, 0, n, 4), 1)
		wantWorld(t, "served all", x, worldOf("key", s, 0, 4, 4))
	}
	for _, w := range goodWorlds(t) {
		for at, c := range w.Clients {
			if !c.Up {
				continue
			}
			x := servedAll(t, w, at)
			last := len(w.Books) - 1
			wantClient(t, "served all", x.Clients[at], story{books: w.Books, texts: w.Texts}.client(w.Key, last))
		}
	}
	// A client whose file is full takes nothing more, and is served all the same.
	full := fullClient(t, 145)
	next := longStory(t, "key", 1)
	w := withClient(worldOf("key", next, 0), 0, full)
	wantWorld(t, "full", servedAll(t, w, 0), w)
}

// P37, P39: a text is served in every case to one that is up: the next is taken; an old one that comes again, and one two numbers on, change nothing.
func TestWorldServe(t *testing.T) {
	s := smallStory(t, "key")
	for n := range 5 {
		w := worldOf("key", s, 2, n, -3)
		for at := range 4 {
			e := impl.Event{Kind: impl.WorldServe, Client: 1, At: at}
			want := clonedWorld(w)
			if at == n {
				want.Clients[1] = s.client("key", n+1)
			}
			wantDone(t, strconv.Itoa(at)+" to "+strconv.Itoa(n), w, e, want, true)
			again, _ := impl.WorldDo(w, e)
			wantDone(t, "again", again, e, want, true)
			e.Client = 2
			wantNot(t, "served while it is down", w, e)
		}
	}
	wantNot(t, "no texts", impl.WorldNew("key", 2), impl.Event{Kind: impl.WorldServe})
	// One that has more than was published, and a text that does not lead from its book on.
	other := storyOf(t, "key", "ox\n", "cat\n")
	for _, n := range []int{1, 2} {
		w := withClient(worldOf("key", s, 0, 0), 1, other.client("key", n))
		for at := range 4 {
			happened, _ := happensByWords(w, impl.Event{Kind: impl.WorldServe, Client: 1, At: at})
			wantDone(t, "of another story", w, impl.Event{Kind: impl.WorldServe, Client: 1, At: at}, happened, true)
		}
	}
}

// P37, P39: a text that is not forged comes to one that is up, and is taken as every text is; a forged one does not come.
func TestWorldWrong(t *testing.T) {
	s, other := smallStory(t, "key"), smallStory(t, "other")
	for n := range 5 {
		w := worldOf("key", s, 2, n, -3)
		wrong := func(client int, text string) impl.Event {
			return impl.Event{Kind: impl.WorldWrong, Client: client, At: -1, Text: text}
		}
		for at, text := range s.texts {
			want := clonedWorld(w)
			if at == n {
				want.Clients[1] = s.client("key", n+1)
			}
			wantDone(t, "one of the texts", w, wrong(1, text), want, true)
			for _, x := range []string{text[:len(text)-1], text + "\n", text[1:], text[:len(text)-70], strings.ToUpper(text), text + text, other.texts[at], impl.ReleasePut(sealedBy("kez", releaseOf(t, "key", n, s.books[0], s.books[1])))} {
				wantDone(t, "none of the texts", w, wrong(1, x), w, true)
				wantNot(t, "none of the texts, while it is down", w, wrong(2, x))
			}
			wantNot(t, "one of the texts, while it is down", w, wrong(2, text))
		}
		for _, text := range []string{"", "x", "\n", "\x00", "release 1", s.file(2), strings.Repeat("x", 100000), "seal " + strings.Repeat("0", 64) + "\n"} {
			wantDone(t, "no release", w, wrong(1, text), w, true)
		}
		for _, number := range []int{0, n, n + 1, 9, 999998} {
			for _, to := range []impl.Book{{}, s.books[1], {Entries: entriesOf(3)}} {
				text := textByWords("key", number, s.books[n], to)
				if slices.Contains(s.texts, text) {
					continue
				}
				for client := range 3 {
					wantNot(t, "forged", w, wrong(client, text))
				}
				byOther := textByWords("other", number, s.books[n], to)
				wantDone(t, "forged by another key", w, wrong(1, byOther), w, true)
			}
		}
	}
	// A release that leads on just as that of the texts does, but says more.
	long := impl.ReleasePut(sealedBy("key", impl.Release{Number: 4, Delta: deltaOf(t, "affixes\n-cat\n+dog\n+zoo\n"), Sum: hashByWorld("dog\nzoo\n")}))
	if _, ok := impl.ReleaseGet(long); !ok || slices.Contains(s.texts, long) {
		t.Fatal("it should be a release, and none of the texts")
	}
	wantNot(t, "forged, to the same book", worldOf("key", s, 3), impl.Event{Kind: impl.WorldWrong, Text: long})
	// What was published elsewhere by the same key is forged here.
	wantNot(t, "of a world without texts", impl.WorldNew("key", 1), impl.Event{Kind: impl.WorldWrong, Text: s.texts[0]})
	wantDone(t, "of another key's world", impl.WorldNew("other", 1), impl.Event{Kind: impl.WorldWrong, Text: s.texts[0]}, impl.WorldNew("other", 1), true)
}

// P37, P39: a fall leaves what was kept, and of the next text so many bytes; of an old one, or a later one, nothing; without a text there is none.
func TestWorldFall(t *testing.T) {
	s := smallStory(t, "key")
	for n := range 5 {
		w := worldOf("key", s, 2, n, -3)
		for at, text := range s.texts {
			for _, bytes := range []int{0, 1, 30, 69, 70, len(text) - 1, len(text), len(text) + 1, 5000} {
				e := impl.Event{Kind: impl.WorldFall, Client: 1, At: at, Text: strings.Repeat("\n", bytes)}
				fallen, risen := impl.Client{Key: "key", File: s.file(n)}, s.client("key", n)
				if at == n {
					fallen.File += text[:min(bytes, len(text))]
				}
				if at == n && bytes >= len(text) {
					risen = s.client("key", n+1)
				}
				what := strconv.Itoa(bytes) + " bytes of " + strconv.Itoa(at) + " to " + strconv.Itoa(n)
				wantDone(t, what, w, e, withClient(w, 1, fallen), true)
				down, _ := impl.WorldDo(w, e)
				wantNot(t, what+", twice", down, e)
				wantNot(t, what+", served behind it", down, impl.Event{Kind: impl.WorldServe, Client: 1, At: at})
				wantDone(t, what+", a rise right behind", down, impl.Event{Kind: impl.WorldRise, Client: 1}, withClient(w, 1, risen), true)
				e.Client = 2
				wantNot(t, what+", falling while it is down", w, e)
			}
		}
		// Whatever text the event has, only how long it is matters.
		e := impl.Event{Kind: impl.WorldFall, Client: 0, At: 2, Text: textByWords("key", 2, s.books[2], impl.Book{})}
		wantDone(t, "a forged text beside", w, e, withClient(w, 0, impl.Client{Key: "key", File: s.file(2) + s.texts[2][:min(len(e.Text), len(s.texts[2]))]}), true)
	}
	for _, at := range noPlaces(0) {
		wantNot(t, "a fall without a release", impl.WorldNew("key", 2), impl.Event{Kind: impl.WorldFall, Client: 1, At: at})
		wantNot(t, "a fall without a release", impl.WorldNew("key", 2), impl.Event{Kind: impl.WorldFall, Client: 1, At: at, Text: s.texts[0]})
	}
}

// P37, P39: only one that is down rises, to all whole releases that it keeps.
func TestWorldRise(t *testing.T) {
	s := smallStory(t, "key")
	for n := range 5 {
		w := worldOf("key", s, n, -n-1, 4)
		wantDone(t, "risen", w, impl.Event{Kind: impl.WorldRise, Client: 1}, worldOf("key", s, n, n, 4), true)
		for _, client := range []int{0, 2} {
			wantNot(t, "a rise of one that is up", w, impl.Event{Kind: impl.WorldRise, Client: client})
		}
		again, _ := impl.WorldDo(w, impl.Event{Kind: impl.WorldRise, Client: 1})
		wantNot(t, "a rise twice", again, impl.Event{Kind: impl.WorldRise, Client: 1})
		for _, behind := range []string{"x", s.texts[0], s.file(4)[len(s.file(n)):][:min(20, len(s.file(4))-len(s.file(n)))]} {
			down := withClient(w, 1, impl.Client{Key: "key", File: s.file(n) + behind})
			if n == 0 && behind == s.texts[0] {
				continue
			}
			wantDone(t, "risen with more behind", down, impl.Event{Kind: impl.WorldRise, Client: 1}, worldOf("key", s, n, n, 4), true)
		}
	}
}
