package tests

import (
	"math/rand"
	"reflect"
	"runtime"
	"slices"
	"strconv"
	"strings"
	"sync"
	"testing"
	"time"

	"loop.example/medlar/impl"
)

// wantKept fails if something that happened, or could not, changed more of a world than it may.
func wantKept(t *testing.T, w impl.World, e impl.Event, next impl.World) {
	t.Helper()
	if next.Key != w.Key || len(next.Clients) != len(w.Clients) || !slices.EqualFunc(next.Books[:len(w.Books)], w.Books, sameBook) || !slices.Equal(next.Texts[:len(w.Texts)], w.Texts) {
		t.Errorf("%s: what was published is another: %s", toldEvent(e), toldWorld(next))
	}
	if more := len(next.Texts) - len(w.Texts); more != 0 && (more != 1 || e.Kind != impl.WorldPublish) {
		t.Errorf("%s: %d more texts", toldEvent(e), more)
	}
	for at, c := range next.Clients {
		was := w.Clients[at]
		if was.Up && c.Up && c.Number < was.Number {
			t.Errorf("%s: client %d goes back: %s", toldEvent(e), at, toldWorld(next))
		}
		if (e.Kind == impl.WorldPublish || at != e.Client) && !sameClient(c, was) {
			t.Errorf("%s: client %d changes: %s", toldEvent(e), at, toldWorld(next))
		}
	}
}

// wantSafe fails if a client that is up has another book than that of its number, or two of one number have not the same.
func wantSafe(t *testing.T, w impl.World) {
	t.Helper()
	if !impl.WorldOk(w) || !impl.WorldSafe(w) {
		t.Errorf("not ok, or not safe: %s", toldWorld(w))
	}
	for i, c := range w.Clients {
		if c.Up && (!sameBook(c.Book, w.Books[c.Number]) || c.File != strings.Join(w.Texts[:c.Number], "")) {
			t.Errorf("client %d has another book, or file: %s", i, toldWorld(w))
		}
		for k, other := range w.Clients {
			if c.Up && other.Up && c.Number == other.Number && !sameClient(c, other) {
				t.Errorf("clients %d and %d of one number: %s", i, k, toldWorld(w))
			}
		}
	}
}

// P37, P38, P39, P41, P77: of many worlds: what happens is what the document says; each client that is up has the book of its number, none goes back, and two of one number have the same; played at once it is the same, and who is served all has the newest book.
func TestWorldMany(t *testing.T) {
	r := rand.New(rand.NewSource(61))
	count := map[string]int{}
	for i := range 60 {
		_, other, apart := someStories(t, r, 5)
		n := 1 + r.Intn(impl.PeerMax)
		w := impl.WorldNew("key", n)
		var list []impl.Event
		for range r.Intn(impl.PlayMax + 1) {
			e := someEvent(r, w, other, apart)
			list = append(list, e)
			want, done := happensByWords(w, e)
			next, ok := impl.WorldDo(w, e)
			if ok != done || !sameWorld(next, want) {
				t.Fatalf("%s in %s: %v %s; want %v %s", toldEvent(e), toldWorld(w), ok, toldWorld(next), done, toldWorld(want))
			}
			count[strconv.Itoa(e.Kind)+strconv.FormatBool(ok)]++
			wantKept(t, w, e, next)
			wantSafe(t, next)
			w = next
		}
		wantWorld(t, "played "+strconv.Itoa(i), impl.WorldPlay("key", n, list), w)
		for at, c := range w.Clients {
			if !c.Up {
				w, _ = impl.WorldDo(w, impl.Event{Kind: impl.WorldRise, Client: at})
			}
			w = servedAll(t, w, at)
			if last := len(w.Texts); w.Clients[at].Number != last || !sameBook(w.Clients[at].Book, w.Books[last]) {
				t.Errorf("served all: %s", toldWorld(w))
			}
		}
		wantSafe(t, w)
		if t.Failed() {
			return
		}
	}
	for _, kind := range []string{"0false", "1true", "1false", "2true", "2false", "3true", "3false", "4true", "4false", "5true", "5false", "6false"} {
		if count[kind] < 20 {
			t.Errorf("too few of some kind: %v", count)
		}
	}
}

// P39, P40: also where clients have books of other worlds, what happens is what the document says, and WorldSafe tells of it.
func TestUnsafeWorldsMany(t *testing.T) {
	r := rand.New(rand.NewSource(62))
	safe := map[bool]int{}
	for range 40 {
		mine, other, apart := someStories(t, r, 5)
		w := worldOf("key", mine, r.Intn(6), -1-r.Intn(6), r.Intn(6))
		for at := range w.Clients {
			if r.Intn(3) == 0 {
				w.Clients[at] = apart.client("key", r.Intn(6))
			}
			if r.Intn(4) == 0 {
				w.Clients[at] = impl.Client{Key: "key", File: someFile(r, mine, other, apart)}
			}
		}
		for range 15 {
			if is := impl.WorldSafe(w); !impl.WorldOk(w) || is != safeByWords(w) {
				t.Fatalf("not ok, or safe is %v: %s", is, toldWorld(w))
			}
			safe[impl.WorldSafe(w)]++
			e := someEvent(r, w, other, apart)
			want, done := happensByWords(w, e)
			next, ok := impl.WorldDo(w, e)
			if ok != done || !sameWorld(next, want) {
				t.Fatalf("%s in %s: %v %s; want %v %s", toldEvent(e), toldWorld(w), ok, toldWorld(next), done, toldWorld(want))
			}
			wantKept(t, w, e, next)
			w = next
		}
		if t.Failed() {
			return
		}
	}
	if safe[true] < 50 || safe[false] < 50 {
		t.Errorf("too few of some kind: %v", safe)
	}
}

// P41: no events at all, PlayMax of them, and one more, by which nothing happens; what cannot be is left out.
func TestWorldPlay(t *testing.T) {
	fresh := impl.WorldNew("key", 2)
	wantWorld(t, "nothing", impl.WorldPlay("key", 2, nil), fresh)
	wantWorld(t, "nothing", impl.WorldPlay("key", 2, []impl.Event{}), fresh)
	publish := impl.Event{Kind: impl.WorldPublish, Delta: deltaOf(t, "+cat\n")}
	none := impl.Event{Kind: impl.WorldPublish, Delta: deltaOf(t, "-none\n")}
	serve := impl.Event{Kind: impl.WorldServe, Client: 1}
	s := storyOf(t, "key", "cat\n")
	for _, n := range []int{2, 3, 30, impl.PlayMax - 1, impl.PlayMax} {
		// The last one counts, too.
		list := append(slices.Repeat([]impl.Event{none}, n-2), publish, serve)
		wantWorld(t, strconv.Itoa(n), impl.WorldPlay("key", 2, list), worldOf("key", s, 0, 1))
		wantWorld(t, strconv.Itoa(n)+", the other way round", impl.WorldPlay("key", 2, append(slices.Repeat([]impl.Event{serve}, n-1), publish)), worldOf("key", s, 0, 0))
	}
	for _, n := range []int{impl.PlayMax + 1, impl.PlayMax + 2, 2 * impl.PlayMax, 10000} {
		list := append([]impl.Event{publish, serve}, slices.Repeat([]impl.Event{none}, n-2)...)
		wantWorld(t, strconv.Itoa(n), impl.WorldPlay("key", 2, list), fresh)
	}
	for _, list := range [][]impl.Event{nil, {publish, serve}, slices.Repeat([]impl.Event{publish}, impl.PlayMax+1)} {
		for _, n := range []int{0, -1, impl.PeerMax + 1} {
			wantWorld(t, "no clients", impl.WorldPlay("key", n, list), impl.World{})
		}
		for _, key := range badKeys {
			wantWorld(t, "no key", impl.WorldPlay(key, 1, list), impl.World{})
		}
	}
	// All kinds, one behind the other: a fall, a rise, an old release, a forged one, a release two numbers on.
	two := storyOf(t, "key", "cat\n", "cat\ndog\n", "ox\n")
	forged := textByWords("key", 0, impl.Book{}, bookOf(t, "bad\n"))
	w := impl.WorldPlay("key", 3, []impl.Event{
		publish, {Kind: impl.WorldPublish, Delta: deltaOf(t, "+dog\n")}, none, serve, {Kind: impl.WorldFall, Client: 1, At: 1, Text: strings.Repeat("x", 9)}, {Kind: impl.WorldServe, Client: 1, At: 1},
		{Kind: impl.WorldPublish, Delta: deltaOf(t, "-cat\n-dog\n+ox\n")}, {Kind: impl.WorldRise, Client: 1}, {Kind: impl.WorldWrong, Client: 2, Text: forged}, {Kind: impl.WorldServe, Client: 1, At: 1}, serve, {Kind: impl.WorldServe, Client: 2, At: 1}, {Kind: impl.WorldServe, Client: 0, At: 0}, {Kind: impl.WorldServe, Client: 0, At: 2}, {Kind: 6}, {Kind: impl.WorldServe, Client: 3}, {Kind: impl.WorldWrong, Client: 1, Text: two.texts[2]},
	})
	wantWorld(t, "all kinds", w, worldOf("key", two, 1, 3, 0))
}

// roomyWorld is the same world, with others behind the ends of all its lists.
func roomyWorld(w impl.World) impl.World {
	x := impl.World{Key: w.Key, Texts: withRoom(w.Texts, "behind"), Books: withRoom(w.Books, impl.Book{}), Clients: withRoom(w.Clients, impl.Client{Key: "behind"})}
	for i, b := range x.Books {
		x.Books[i] = roomyBook(b)
	}
	for i, c := range x.Clients {
		x.Clients[i].Book = roomyBook(c.Book)
	}
	return x
}

// wholeWorld is a world with all that stands in its lists and behind their ends.
func wholeWorld(w impl.World) impl.World {
	x := impl.World{Key: w.Key, Texts: allOf(w.Texts), Books: allOf(w.Books), Clients: allOf(w.Clients)}
	for i, b := range x.Books {
		x.Books[i] = wholeBook(b)
	}
	for i, c := range x.Clients {
		x.Clients[i].Book = wholeBook(c.Book)
	}
	return x
}

// spoilWorld writes over all lists of a world, spare room included.
func spoilWorld(w impl.World) {
	for _, b := range w.Books {
		spoilBook(b)
	}
	for _, c := range w.Clients {
		spoilBook(c.Book)
	}
	spoil(w.Books, impl.Book{Entries: []impl.Entry{{Stem: "gone"}}})
	spoil(w.Texts, "gone")
	spoil(w.Clients, impl.Client{Key: "gone"})
}

// What was handed in is not changed, nor what stands behind its end; an answer shares no memory with it, nor two lists of one answer with each other.
func TestWorldsAreNew(t *testing.T) {
	r := rand.New(rand.NewSource(63))
	for range 25 {
		mine, other, apart := someStories(t, r, 4)
		for _, plain := range []impl.World{worldOf("key", mine, 4, 1, -4), worldOf("key", mine, 2, 2), impl.WorldNew("key", 3), withClient(worldOf("key", mine, 1), 0, other.client("other", 1))} {
			w := roomyWorld(plain)
			e := someEvent(r, w, other, apart)
			e.Delta = roomyDelta(someDelta(r, w.Books[len(w.Books)-1]))
			e.Kind = r.Intn(6)
			list := []impl.Event{e, {Kind: impl.WorldPublish, Delta: e.Delta}, {Kind: impl.WorldServe}, e, {Kind: impl.WorldPublish, Delta: e.Delta}}
			whole, wholeChange, wholeList := wholeWorld(w), wholeDelta(e.Delta), allOf(list)
			want, _ := impl.WorldDo(plain, e)
			wantPlayed := impl.WorldPlay("key", 2, list)
			got, _ := impl.WorldDo(w, e)
			played := impl.WorldPlay("key", 2, list)
			gone, _ := impl.WorldDo(w, e)
			goneToo := impl.WorldPlay("key", 2, list)
			wantApart(t, slices.Concat(placesOfWorld("argument", w), []place{placeOf("goes", e.Delta.Goes), placeOf("comes", e.Delta.Comes), placeOf("list", e.Delta.List)}, placesOfWorld("answer", got), placesOfWorld("played", played), placesOfWorld("another answer", gone), placesOfWorld("new", impl.WorldNew("key", 3)), placesOfWorld("none", impl.WorldPlay("key", 3, nil))))
			spoilWorld(gone)
			spoilWorld(goneToo)
			impl.WorldOk(w)
			impl.WorldSafe(w)
			if !reflect.DeepEqual(wholeWorld(w), whole) || !reflect.DeepEqual(wholeDelta(e.Delta), wholeChange) || !reflect.DeepEqual(allOf(list), wholeList) {
				t.Fatal("an argument is changed")
			}
			spoilWorld(w)
			spoilDelta(e.Delta)
			wantWorld(t, "kept", got, want)
			wantWorld(t, "kept, played", played, wantPlayed)
			if t.Failed() {
				return
			}
		}
	}
}

// Worlds are answered whatever they are made of.
func TestAnyWorld(t *testing.T) {
	r := rand.New(rand.NewSource(64))
	s := smallStory(t, "k")
	ok := map[bool]int{}
	for range 3000 {
		w := worldOf("k", s, r.Intn(5), -1-r.Intn(5))
		w.Key = textOf(r, "kkkkkkkk\x00", 1)
		if r.Intn(4) == 0 {
			w.Books = w.Books[:r.Intn(6)]
		}
		if r.Intn(2) == 0 {
			w.Texts = w.Texts[:min(max(len(w.Books)-1, 0), 4)]
		}
		if r.Intn(6) == 0 && len(w.Texts) > 0 {
			w.Texts[r.Intn(len(w.Texts))] = textOf(r, "release seal 0123\n+-a\x00\xff", r.Intn(8))
		}
		if r.Intn(6) == 0 {
			w.Clients[r.Intn(2)] = impl.Client{Key: textOf(r, "k\x00", 1), Up: r.Intn(2) == 0, Number: r.Intn(3) - 1, File: textOf(r, "x\n", r.Intn(2))}
		}
		e := someEvent(r, impl.World{Clients: w.Clients, Books: []impl.Book{{}}, Texts: s.texts}, s)
		is := impl.WorldOk(w)
		ok[is]++
		want := w.Key == "k" && len(w.Books) >= 1 && len(w.Texts) == len(w.Books)-1 && slices.Equal(w.Texts, s.texts[:len(w.Texts)])
		for _, c := range w.Clients {
			want = want && c.Key == "k" && impl.ClientOk(c)
		}
		if is != want || impl.WorldSafe(w) != (want && safeByWords(w)) {
			t.Fatalf("%v: %s", is, toldWorld(w))
		}
		next, done := impl.WorldDo(w, e)
		if !is && (done || !sameWorld(next, impl.World{})) || is && !impl.WorldOk(next) {
			t.Fatalf("%s in %s: %s", toldEvent(e), toldWorld(w), toldWorld(next))
		}
	}
	if ok[true] < 200 || ok[false] < 200 {
		t.Errorf("too few of some kind: %v", ok)
	}
}

// Nobody is at work any more behind a call, whether something happened, could not be, or was forged.
func TestNobodyIsLeft(t *testing.T) {
	s := smallStory(t, "key")
	w := worldOf("key", s, 2, 0, -4)
	forged := textByWords("key", 2, s.books[2], bookOf(t, "bad\n"))
	events := append(someEvents(t), impl.Event{Kind: impl.WorldWrong, Text: forged})
	before := runtime.NumGoroutine()
	for range 50 {
		for _, e := range events {
			impl.WorldDo(w, e)
		}
		impl.WorldPlay("key", 3, events)
		impl.Session([]string{"publish +cat", "serve 0 0", "show", "what"})
	}
	// One whose last thing is done may still be counted for a moment.
	for range 1000 {
		if runtime.NumGoroutine() <= before {
			return
		}
		time.Sleep(time.Millisecond)
	}
	t.Errorf("%d are left, %d ahead", runtime.NumGoroutine(), before)
}

// P41: calls at the same time, of the same arguments, answer as one alone does.
func TestWorldsAtOnce(t *testing.T) {
	r := rand.New(rand.NewSource(65))
	_, other, apart := someStories(t, r, 5)
	w := impl.WorldNew("key", 3)
	var list []impl.Event
	for range 30 {
		e := someEvent(r, w, other, apart)
		list = append(list, e)
		w, _ = impl.WorldDo(w, e)
	}
	lines := []string{"publish +cat", "serve 0 0", "fall 0 0 3", "show", "rise 0", "ask 0 cta"}
	told := impl.Session(lines)
	var group sync.WaitGroup
	for range 8 {
		group.Go(func() {
			if !sameWorld(impl.WorldPlay("key", 3, list), w) || impl.Session(lines) != told || !impl.WorldSafe(w) {
				t.Error("at once it is otherwise")
			}
		})
	}
	group.Wait()
}
