package tests

import (
	"math"
	"math/rand"
	"testing"

	"loop.example/medlar/impl"
)

// ringDoByWords is RingDo of a ring and a book that are ok, as the document says it.
func ringDoByWords(r impl.Ring, number int, b impl.Book, x impl.Release) (impl.Book, bool) {
	key, text := keyByWords(r, number+1), textOfRelease(x)
	if _, form := releaseByWords(text + "seal " + x.Seal + "\n"); key == "" || !form || x.Number != number+1 || x.Seal != sealByWorld(key, text) {
		return b, false
	}
	made, ok := doneByWords(b, x.Delta)
	if !ok || hashByWorld(impl.BookPut(made)) != x.Sum {
		return b, false
	}
	return made, true
}

// wantRingDo fails if a release does not lead on by a ring as is asked for, or not as the document says it.
func wantRingDo(t *testing.T, r impl.Ring, number int, b impl.Book, x impl.Release, want impl.Book, done bool) {
	t.Helper()
	if got, ok := impl.RingDo(r, number, b, x); ok != done || !sameBook(got, want) {
		t.Errorf("%d by %+v, %+v: %q %v, want %q", number, r, x, impl.BookPut(got), ok, impl.BookPut(want))
	}
	if by, ok := ringDoByWords(r, number, b, x); ok != done || !sameBook(by, want) {
		t.Errorf("%d by %+v, %+v: by the document's words %q %v", number, r, x, impl.BookPut(by), ok)
	}
}

// wantLeads fails if the release that leads by a ring from a book of a number to another one is not the one that a key sealed, or does not lead there.
func wantLeads(t *testing.T, r impl.Ring, number int, a impl.Book, b impl.Book, key string) {
	t.Helper()
	x, made := impl.RingRelease(r, number, a, b)
	if !made || !impl.ReleaseOk(key, x) || impl.ReleasePut(x) != textByWords(key, number, a, b) {
		t.Errorf("%d by %+v: %q %v", number, r, impl.ReleasePut(x), made)
	}
	wantRingDo(t, r, number, a, x, b, true)
	// Only from its own number.
	for _, wrong := range []int{number - 1, number + 1, -1, 0, 999998, 999999, math.MaxInt, math.MinInt} {
		if wrong != number {
			wantRingDo(t, r, wrong, a, x, a, false)
		}
	}
}

// wantNotLed fails if a release leads on that a key sealed which is not that of its number.
func wantNotLed(t *testing.T, r impl.Ring, number int, a impl.Book, b impl.Book, key string) {
	t.Helper()
	x := sealedBy(key, impl.Release{Number: number + 1, Delta: deltaByWords(a, b), Sum: hashByWorld(impl.BookPut(b))})
	wantRingDo(t, r, number, a, x, a, false)
}

// P63, P64: a release leads on just by the key of its number: ahead of the number at which a key turns, at it, and behind it.
func TestRingRelease(t *testing.T) {
	a, b := bookOf(t, "end S  s \ncat/S\ndo\n"), bookOf(t, "act\ncat\n")
	r := ring("key", 1, "two", 5, "new", 6, "last", 999999)
	for _, c := range []struct {
		number int
		key    string
	}{{0, "key"}, {1, "key"}, {2, "key"}, {3, "key"}, {4, "two"}, {5, "new"}, {6, "new"}, {7, "new"}, {500, "new"}, {999996, "new"}, {999997, "new"}, {999998, "last"}} {
		wantLeads(t, r, c.number, a, b, c.key)
		wantLeads(t, r, c.number, b, impl.Book{}, c.key)
		wantLeads(t, r, c.number, a, a, c.key)
		for _, other := range append(r.Keys, "other", "kex", c.key+c.key) {
			if other != c.key {
				wantNotLed(t, r, c.number, a, b, other)
				wantNotLed(t, r, c.number, a, a, other)
			}
		}
	}
	wantLeads(t, ring("key", 1), 0, impl.Book{}, a, "key")
	wantLeads(t, ring("key", 1), 999998, a, b, "key")
}

// P63, P64: numbers that are none of a release, and books that are not ok.
func TestRingReleaseRefuses(t *testing.T) {
	a, b := bookOf(t, "cat\n"), bookOf(t, "act\ncat\n")
	for _, r := range []impl.Ring{ring("key", 1), ring("key", 1, "two", 5), ring("key", 1, "two", 999999), fullRing()} {
		for _, number := range []int{-1, -2, -999999, 999999, 1000000, math.MaxInt - 1, math.MaxInt, math.MinInt, math.MinInt + 1} {
			if x, made := impl.RingRelease(r, number, a, b); made || !sameRelease(x, impl.Release{}) {
				t.Errorf("%d by %+v: %+v %v", number, r, x, made)
			}
			for _, key := range append(r.Keys, "") {
				wantNotLed(t, r, number, a, b, key)
			}
		}
		for _, bad := range badBooks() {
			one, first := impl.RingRelease(r, 4, bad, b)
			two, second := impl.RingRelease(r, 4, b, bad)
			if first || second || !sameRelease(one, impl.Release{}) || !sameRelease(two, impl.Release{}) {
				t.Errorf("%+v: %+v %+v", bad, one, two)
			}
			x := releaseOf(t, keyByWords(r, 5), 4, impl.Book{}, b)
			if got, done := impl.RingDo(r, 4, bad, x); done || !sameBook(got, impl.Book{}) {
				t.Errorf("%+v: %+v %v", bad, got, done)
			}
		}
	}
}

// P63, P64: by a ring that is not ok nothing is sealed, and no book is changed; one that is not ok is nothing then.
func TestReleasesOfBadRings(t *testing.T) {
	a, b := bookOf(t, "cat\n"), bookOf(t, "act\ncat\n")
	for _, r := range badRings() {
		for _, number := range []int{0, 4, 999998} {
			if x, made := impl.RingRelease(r, number, a, b); made || !sameRelease(x, impl.Release{}) {
				t.Errorf("%+.80v: %+v %v", r, x, made)
			}
		}
		for _, key := range append([]string{"key", "a", "b", ""}, r.Keys[:min(len(r.Keys), 6)]...) {
			x := sealedBy(key, impl.Release{Number: 5, Delta: deltaByWords(a, b), Sum: hashByWorld(impl.BookPut(b))})
			if got, done := impl.RingDo(r, 4, a, x); done || !sameBook(got, a) {
				t.Errorf("%+.80v: %+v %v", r, got, done)
			}
			for _, bad := range badBooks()[:8] {
				if got, done := impl.RingDo(r, 4, bad, x); done || !sameBook(got, impl.Book{}) {
					t.Errorf("%+.80v, %+v: %+v %v", r, bad, got, done)
				}
			}
		}
	}
}

// P64: what is not sealed by the key of its number, is not the next, or leads elsewhere, changes nothing.
func TestRingDoRefuses(t *testing.T) {
	a, b := bookOf(t, "end S  s \ncat/S\ndo\n"), bookOf(t, "act\ncat\n")
	r := ring("key", 1, "two", 5)
	good, _ := impl.RingRelease(r, 4, a, b)
	wantRingDo(t, r, 4, a, good, b, true)
	for _, seal := range badSeals(good.Seal) {
		x := good
		x.Seal = seal
		wantRingDo(t, r, 4, a, x, a, false)
	}
	for _, x := range []impl.Release{
		{}, {Number: 5, Delta: good.Delta, Sum: good.Sum}, {Number: 4, Delta: good.Delta, Sum: good.Sum, Seal: good.Seal}, {Number: 6, Delta: good.Delta, Sum: good.Sum, Seal: good.Seal}, {Number: 5, Sum: good.Sum, Seal: good.Seal}, {Number: 5, Delta: good.Delta, Sum: hashByWorld(""), Seal: good.Seal},
		sealedBy("two", impl.Release{Number: 6, Delta: good.Delta, Sum: good.Sum}), sealedBy("two", impl.Release{Number: 4, Delta: good.Delta, Sum: good.Sum}), sealedBy("key", impl.Release{Number: 4, Delta: good.Delta, Sum: good.Sum}),
		sealedBy("two", impl.Release{Number: 5, Delta: good.Delta, Sum: hashByWorld("")}), sealedBy("two", impl.Release{Number: 5, Sum: good.Sum}), sealedBy("two", impl.Release{Number: 5, Delta: deltaOf(t, "-none\n"), Sum: hashByWorld(impl.BookPut(a))}),
	} {
		wantRingDo(t, r, 4, a, x, a, false)
	}
	// Sealed by hand, and right; also of another book, if it leads there from that, too.
	wantRingDo(t, r, 4, a, sealedBy("two", impl.Release{Number: 5, Delta: good.Delta, Sum: good.Sum}), b, true)
	wantRingDo(t, r, 4, bookOf(t, "cat\ndo\n"), good, b, true)
	wantRingDo(t, r, 4, bookOf(t, "cat\n"), good, bookOf(t, "cat\n"), false)
}

// P63, P64: of many rings, books and releases, sealed by some key or other: just those lead on that the key of their number sealed.
func TestRingDoMany(t *testing.T) {
	r := rand.New(rand.NewSource(1102))
	led := map[bool]int{}
	for range 1500 {
		keys := someRing(r)
		a := someBook(r)
		b := bookNear(r, a)
		number := r.Intn(14)
		x, made := impl.RingRelease(keys, number, a, b)
		if want := releaseOf(t, keyByWords(keys, number+1), number, a, b); !made || !sameRelease(x, want) {
			t.Fatalf("%d by %+v: %+v, want %+v", number, keys, x, want)
		}
		wantRingDo(t, keys, number, a, x, b, true)
		x = sealedBy(keys.Keys[r.Intn(len(keys.Keys))], x)
		got, ok := impl.RingDo(keys, number, a, x)
		if want, done := ringDoByWords(keys, number, a, x); ok != done || !sameBook(got, want) || ok != impl.ReleaseOk(impl.RingKey(keys, number+1), x) {
			t.Fatalf("%d by %+v: %+v %v", number, keys, x, ok)
		}
		led[ok]++
		// By a longer ring the keys of elder numbers are the same.
		if turn, fine := impl.TurnOf(keys, "new", number+2); fine {
			longer, _ := impl.RingTake(keys, turn)
			wantRingDo(t, longer, number, a, x, got, ok)
		}
	}
	if led[true] < 300 || led[false] < 300 {
		t.Errorf("too few of some kind: %v", led)
	}
}
