package tests

import (
	"cmp"
	"fmt"
	"math/rand"
	"slices"
	"strconv"
	"strings"
	"testing"
	"unsafe"

	"loop.example/medlar/impl"
)

// sameWorld says whether two worlds are the same.
func sameWorld(a impl.World, b impl.World) bool {
	return a.Key == b.Key && slices.EqualFunc(a.Books, b.Books, sameBook) && slices.Equal(a.Texts, b.Texts) && slices.EqualFunc(a.Clients, b.Clients, sameClient)
}

// toldWorld tells a world in short.
func toldWorld(w impl.World) string {
	told := fmt.Sprintf("%.10q, %d books, %d texts", w.Key, len(w.Books), len(w.Texts))
	for _, c := range w.Clients {
		told += ", " + toldClient(c)
	}
	return told
}

// wantWorld fails if a world is not the one that is asked for.
func wantWorld(t *testing.T, what string, got impl.World, want impl.World) {
	t.Helper()
	if !sameWorld(got, want) {
		t.Errorf("%s: %s; want %s", what, toldWorld(got), toldWorld(want))
	}
}

// wantDone fails if something does not happen in a world as is asked for, or not as the document says it.
func wantDone(t *testing.T, what string, w impl.World, e impl.Event, want impl.World, done bool) {
	t.Helper()
	got, ok := impl.WorldDo(w, e)
	if ok != done {
		t.Errorf("%s: %v, want %v", what, ok, done)
	}
	wantWorld(t, what, got, want)
	if !impl.WorldOk(got) {
		t.Errorf("%s: the world behind it is not ok", what)
	}
	byWords, ok := happensByWords(w, e)
	if ok != done {
		t.Errorf("%s: by the document's words %v", what, ok)
	}
	wantWorld(t, what+", by the document's words", want, byWords)
}

// wantNot fails if something happens in a world.
func wantNot(t *testing.T, what string, w impl.World, e impl.Event) {
	t.Helper()
	wantDone(t, what, w, e, w, false)
}

// clonedBook is the same book in new memory.
func clonedBook(b impl.Book) impl.Book {
	return impl.Book{Affixes: slices.Clone(b.Affixes), Entries: slices.Clone(b.Entries)}
}

// clonedWorld is the same world in new memory.
func clonedWorld(w impl.World) impl.World {
	x := impl.World{Key: w.Key, Texts: slices.Clone(w.Texts), Clients: slices.Clone(w.Clients)}
	for _, b := range w.Books {
		x.Books = append(x.Books, clonedBook(b))
	}
	for i := range x.Clients {
		x.Clients[i].Book = clonedBook(x.Clients[i].Book)
	}
	return x
}

// withClient is a world with another client at a place.
func withClient(w impl.World, at int, c impl.Client) impl.World {
	x := clonedWorld(w)
	x.Clients[at] = c
	return x
}

// worldOf is the world of a story, with a client for each number: up, with so many of its releases; of -1, -2 and so on down, and keeping 0, 1 and so on of them.
func worldOf(key string, s story, numbers ...int) impl.World {
	w := impl.World{Key: key, Books: s.books, Texts: s.texts}
	for _, n := range numbers {
		if n < 0 {
			w.Clients = append(w.Clients, impl.Client{Key: key, File: s.file(-n - 1)})
		} else {
			w.Clients = append(w.Clients, s.client(key, n))
		}
	}
	return clonedWorld(w)
}

// forgedByWords says whether a text is forged, as the document says it.
func forgedByWords(w impl.World, text string) bool {
	x, ok := releaseByWords(text)
	return ok && x.Seal == sealByWorld(w.Key, text[:len(text)-70]) && !slices.Contains(w.Texts, text)
}

// textByWords is the text of the release that leads from a book to another one, as the document says it.
func textByWords(key string, number int, from impl.Book, to impl.Book) string {
	x := sealedBy(key, impl.Release{Number: number + 1, Delta: deltaByWords(from, to), Sum: hashByWorld(impl.BookPut(to))})
	return textOfRelease(x) + "seal " + x.Seal + "\n"
}

// happensByWords is WorldDo of a world that is ok, as the document says it.
func happensByWords(w impl.World, e impl.Event) (impl.World, bool) {
	x := clonedWorld(w)
	if e.Kind == 1 {
		last := w.Books[len(w.Books)-1]
		if len(w.Books) > 10 || !impl.DeltaOk(e.Delta) {
			return x, false
		}
		b, ok := doneByWords(last, e.Delta)
		if ok {
			x.Books, x.Texts = append(x.Books, clonedBook(b)), append(x.Texts, textByWords(w.Key, len(w.Texts), last, b))
		}
		return x, ok
	}
	text, needsText := "", e.Kind == 2 || e.Kind == 4
	if needsText && (e.At < 0 || e.At >= len(w.Texts)) || e.Client < 0 || e.Client >= len(w.Clients) {
		return x, false
	}
	if needsText {
		text = w.Texts[e.At]
	}
	c := &x.Clients[e.Client]
	taken, code := takeByWords(*c, text)
	switch {
	case e.Kind == 2 && c.Up:
		*c = taken
	case e.Kind == 3 && c.Up && !forgedByWords(w, e.Text):
		*c, _ = takeByWords(*c, e.Text)
	case e.Kind == 4 && c.Up:
		if *c = (impl.Client{Key: w.Key, File: c.File}); code == 0 {
			c.File += text[:min(len(text), len(e.Text))]
		}
	case e.Kind == 5 && !c.Up:
		texts, b := fileByWords(w.Key, c.File)
		*c = impl.Client{Key: w.Key, Up: true, Number: len(texts), Book: b, File: strings.Join(texts, "")}
	default:
		return x, false
	}
	return x, true
}

// safeByWords says whether each client of a world that is ok has the book of its number, if it is up.
func safeByWords(w impl.World) bool {
	for _, c := range w.Clients {
		if c.Up && (c.Number > len(w.Books)-1 || impl.BookPut(c.Book) != impl.BookPut(w.Books[c.Number])) {
			return false
		}
	}
	return true
}

// someEvent is something that may happen in a world, or may not; others are releases of other stories.
func someEvent(r *rand.Rand, w impl.World, others ...story) impl.Event {
	e := impl.Event{Kind: r.Intn(7), Client: r.Intn(len(w.Clients)+2) - 1, At: r.Intn(len(w.Texts)+2) - 1}
	if r.Intn(3) == 0 {
		e.Kind = impl.WorldServe
	}
	at := min(max(e.Client, 0), len(w.Clients)-1)
	if r.Intn(2) == 0 {
		e.Client = at
		e.At = w.Clients[at].Number
	}
	if !w.Clients[at].Up && r.Intn(3) == 0 {
		e.Kind = impl.WorldRise
	}
	if e.Kind == impl.WorldPublish || r.Intn(10) == 0 {
		e.Delta = someDelta(r, w.Books[len(w.Books)-1])
	}
	switch r.Intn(6) {
	case 0:
		e.Text = textOf(r, "\n al0\x00\xff", r.Intn(300))
	case 1:
		other := others[r.Intn(len(others))]
		e.Text = other.texts[min(max(w.Clients[at].Number, 0), len(other.texts)-1)]
	case 2:
		e.Text = strings.Repeat("x", 2000)
	case 3, 4:
		if len(w.Texts) > 0 {
			e.Text = w.Texts[r.Intn(len(w.Texts))]
		}
	}
	if len(e.Text) > 0 && r.Intn(8) == 0 {
		e.Text = e.Text[:len(e.Text)-1]
	}
	return e
}

// toldEvent tells an event in short.
func toldEvent(e impl.Event) string {
	return fmt.Sprintf("{kind %d, client %d, at %d, %d bytes, %q}", e.Kind, e.Client, e.At, len(e.Text), impl.DeltaPut(e.Delta))
}

// place is the memory that a list has, spare room included; it is held, so that what comes later cannot be laid there.
type place struct {
	what string
	held unsafe.Pointer
	size uintptr
}

// placeOf is where a list is.
func placeOf[T any](what string, list []T) place {
	return place{what: what, held: unsafe.Pointer(unsafe.SliceData(list)), size: uintptr(cap(list)) * unsafe.Sizeof(*new(T))}
}

// from is where a place begins.
func (p place) from() uintptr {
	return uintptr(p.held)
}

// to is where a place ends.
func (p place) to() uintptr {
	return p.from() + p.size
}

// placesOfBook is where the lists of a book are.
func placesOfBook(what string, b impl.Book) []place {
	return []place{placeOf(what+", affixes", b.Affixes), placeOf(what+", entries", b.Entries)}
}

// placesOfWorld is where all lists of a world are.
func placesOfWorld(what string, w impl.World) []place {
	list := []place{placeOf(what+", books", w.Books), placeOf(what+", texts", w.Texts), placeOf(what+", clients", w.Clients)}
	for i, b := range w.Books {
		list = append(list, placesOfBook(what+", book "+strconv.Itoa(i), b)...)
	}
	for i, c := range w.Clients {
		list = append(list, placesOfBook(what+", client "+strconv.Itoa(i), c.Book)...)
	}
	return list
}

// wantApart fails if two of some lists share memory.
func wantApart(t *testing.T, list []place) {
	t.Helper()
	list = slices.DeleteFunc(list, func(p place) bool { return p.size == 0 })
	slices.SortFunc(list, func(a, b place) int { return cmp.Compare(a.from(), b.from()) })
	for i := 1; i < len(list); i++ {
		if list[i].from() < list[i-1].to() {
			t.Errorf("%s shares memory with %s", list[i-1].what, list[i].what)
		}
	}
}
