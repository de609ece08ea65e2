package tests

import (
	"math"
	"math/rand"
	"reflect"
	"regexp"
	"slices"
	"strconv"
	"strings"
	"testing"

	"loop.example/medlar/impl"
)

// sameRelease says whether two releases are the same.
func sameRelease(a impl.Release, b impl.Release) bool {
	return a.Number == b.Number && sameDelta(a.Delta, b.Delta) && a.Sum == b.Sum && a.Seal == b.Seal
}

// textOfRelease is a release's text, as the document says it.
func textOfRelease(r impl.Release) string {
	return "release " + strconv.Itoa(r.Number) + " " + r.Sum + "\n" + impl.DeltaPut(r.Delta)
}

// sealedBy is a release with the seal of its text, whatever it says.
func sealedBy(key string, r impl.Release) impl.Release {
	r.Seal = sealByWorld(key, textOfRelease(r))
	return r
}

// releaseOf is a release that there is.
func releaseOf(t *testing.T, key string, number int, from impl.Book, to impl.Book) impl.Release {
	t.Helper()
	r, ok := impl.ReleaseOf(key, number, from, to)
	if !ok {
		t.Fatalf("no release of %d from %q to %q by %q", number, impl.BookPut(from), impl.BookPut(to), key)
	}
	return r
}

// P28, P29: what a release is, and how it is written.
func TestReleaseOf(t *testing.T) {
	a, b := bookOf(t, "end S  s \ncat/S\ndo\n"), bookOf(t, "act\ncat\n")
	r := releaseOf(t, "key", 41, a, b)
	if r.Number != 42 || impl.DeltaPut(r.Delta) != "affixes\n-do\n+act\n+cat\n" || r.Sum != hashByWorld("act\ncat\n") {
		t.Errorf("%+v", r)
	}
	text := "release 42 " + hashByWorld("act\ncat\n") + "\naffixes\n-do\n+act\n+cat\n"
	if r.Seal != sealByWorld("key", text) || impl.ReleasePut(r) != text+"seal "+sealByWorld("key", text)+"\n" {
		t.Errorf("%q", impl.ReleasePut(r))
	}
	// A change of nothing, and to the empty book.
	same := releaseOf(t, "key", 0, a, a)
	if impl.ReleasePut(same) != "release 1 "+hashByWorld("end S  s \ncat/S\ndo\n")+"\nseal "+same.Seal+"\n" || !impl.ReleaseOk("key", same) {
		t.Errorf("%q", impl.ReleasePut(same))
	}
	none := releaseOf(t, "key", 0, b, impl.Book{})
	if none.Sum != hashByWorld("") || impl.DeltaPut(none.Delta) != "-act\n-cat\n" {
		t.Errorf("%+v", none)
	}
	for _, r := range []impl.Release{r, same, none} {
		if back, ok := impl.ReleaseGet(impl.ReleasePut(r)); !ok || !sameRelease(back, r) {
			t.Errorf("%+v: %+v %v", r, back, ok)
		}
	}
}

// P28: numbers at the edges, and books that are not ok.
func TestReleaseOfRefuses(t *testing.T) {
	b := bookOf(t, "cat\n")
	for _, number := range []int{0, 1, 9, 10, 998, 999, 99999, 999997, 999998} {
		r := releaseOf(t, "key", number, impl.Book{}, b)
		if got, ok := impl.ReleaseDo("key", number, impl.Book{}, r); r.Number != number+1 || !ok || !sameBook(got, b) {
			t.Errorf("%d: %+v", number, r)
		}
		if back, ok := impl.ReleaseGet(impl.ReleasePut(r)); !ok || !sameRelease(back, r) || !strings.HasPrefix(impl.ReleasePut(r), "release "+strconv.Itoa(number+1)+" ") {
			t.Errorf("%d: %q", number, impl.ReleasePut(r))
		}
	}
	for _, number := range []int{-1, -2, -999999, 999999, 1000000, math.MaxInt, math.MinInt} {
		if r, ok := impl.ReleaseOf("key", number, impl.Book{}, b); ok || !sameRelease(r, impl.Release{}) {
			t.Errorf("%d: %+v", number, r)
		}
	}
	for _, bad := range badBooks() {
		one, first := impl.ReleaseOf("key", 0, bad, b)
		two, second := impl.ReleaseOf("key", 0, b, bad)
		if first || second || !sameRelease(one, impl.Release{}) || !sameRelease(two, impl.Release{}) {
			t.Errorf("%+v: %+v %+v", bad, one, two)
		}
	}
}

// P28, P29: the longest release that there is has room; texts of SealMax bytes and of one more are no releases.
func TestReleaseLimits(t *testing.T) {
	if impl.SealMax != 1200 || impl.ReleaseMax != 10 {
		t.Error("limits")
	}
	a := impl.Book{Affixes: eightAffixes(), Entries: entriesWith(stemsOf(0, impl.EntryMax, impl.WordMax), "ABCD")}
	b := impl.Book{Affixes: longAffixes(), Entries: entriesWith(stemsOf(impl.EntryMax, impl.EntryMax, impl.WordMax), "EFGH")}
	r := releaseOf(t, "key", 999998, a, b)
	text := impl.ReleasePut(r)
	// All of it is as long as it may be: no release that has another form reaches SealMax.
	if n := len(text) - 70; n != 80+8+8*23+24*14+24*19 || n > impl.SealMax {
		t.Errorf("%d bytes", n)
	}
	if back, ok := impl.ReleaseGet(text); !ok || !sameRelease(back, r) {
		t.Errorf("%+v %v", back, ok)
	}
	if got, ok := impl.ReleaseDo("key", 999998, a, r); !ok || !sameBook(got, b) {
		t.Errorf("%+v %v", got, ok)
	}
	for _, size := range []int{impl.SealMax - 1, impl.SealMax, impl.SealMax + 1, 100000} {
		long := textOfRelease(r)
		for i := 0; len(long) < size; i++ {
			long += "+z\n"[i%3 : i%3+1]
		}
		if back, ok := impl.ReleaseGet(long + "seal " + sealByWorld("key", long) + "\n"); ok || !sameRelease(back, impl.Release{}) {
			t.Errorf("%d bytes: %+v", size, back)
		}
	}
}

// badReleases are releases without a form, sealed by a key all the same.
func badReleases(t *testing.T) []impl.Release {
	good := releaseOf(t, "key", 0, impl.Book{}, sampleBook())
	var list []impl.Release
	put := func(change func(r *impl.Release)) {
		r := good
		change(&r)
		list = append(list, sealedBy("key", r))
	}
	for _, number := range []int{0, -1, -999999, 1000000, math.MaxInt, math.MinInt} {
		put(func(r *impl.Release) { r.Number = number })
	}
	for _, sum := range badSums(good.Sum) {
		put(func(r *impl.Release) { r.Sum = sum })
	}
	for _, d := range badDeltas() {
		put(func(r *impl.Release) { r.Delta = d })
	}
	for _, seal := range badSums(good.Seal) {
		r := good
		r.Seal = seal
		list = append(list, r)
	}
	return append(list, impl.Release{})
}

// badSums are texts that are no sum, though they look like one.
func badSums(sum string) []string {
	list := []string{"", "0", sum[:63], sum[1:], sum + "0", "0" + sum, sum + sum, strings.ToUpper(sum), sum[:63] + "A", sum[:63] + "g", sum[:63] + "/", sum[:63] + ":", sum[:63] + "`", sum[:63] + " ", sum[:63] + "\n", " " + sum[1:], "\x00" + sum[1:], sum[:62] + "é", sum + "\n", strings.Repeat("F", 64), strings.Repeat("\xff", 64)}
	// The sum has to have small letters, so that capitals are others.
	return slices.DeleteFunc(list, func(s string) bool { return s == sum })
}

// P29, P30, P31: releases without a form are not written, not ok, and lead nowhere.
func TestBadReleases(t *testing.T) {
	for _, r := range badReleases(t) {
		if text := impl.ReleasePut(r); text != "" {
			t.Errorf("%+v: %q", r, text)
		}
		if impl.ReleaseOk("key", r) {
			t.Errorf("ok: %+v", r)
		}
		for _, b := range []impl.Book{{}, sampleBook()} {
			if got, ok := impl.ReleaseDo("key", r.Number-1, b, r); ok || !sameBook(got, b) {
				t.Errorf("%+v: %+v %v", r, got, ok)
			}
		}
		if back, ok := impl.ReleaseGet(textOfRelease(r) + "seal " + r.Seal + "\n"); ok && impl.DeltaOk(r.Delta) {
			t.Errorf("%+v: %+v", r, back)
		}
	}
}

// P30: a release is sealed just by the seal of its text.
func TestReleaseOk(t *testing.T) {
	r := rand.New(rand.NewSource(43))
	for range 40 {
		a := someBook(r)
		b := bookNear(r, a)
		key := goodKeys[r.Intn(len(goodKeys))]
		x := releaseOf(t, key, r.Intn(999999), a, b)
		text := impl.ReleasePut(x)
		if !impl.ReleaseOk(key, x) || x.Seal != sealByWorld(key, text[:len(text)-70]) || x.Seal != impl.SealOf(key, text[:len(text)-70]) || text[:len(text)-70] != textOfRelease(x) {
			t.Fatalf("%q is not ok", text)
		}
		for i := range x.Seal {
			for _, figure := range "0123456789abcdefABCDEFg" {
				y := x
				y.Seal = x.Seal[:i] + string(figure) + x.Seal[i+1:]
				if impl.ReleaseOk(key, y) != (y.Seal == x.Seal) {
					t.Fatalf("%q by %q", text, y.Seal)
				}
			}
		}
		for _, other := range goodKeys {
			if impl.ReleaseOk(other, x) != (other == key) {
				t.Fatalf("%q by %q", text, other)
			}
		}
	}
}

// P30: with anything changed, or sealed otherwise, a release is not ok.
func TestReleaseChanged(t *testing.T) {
	a, b := bookOf(t, "end S  s \ncat/S\ndo\n"), bookOf(t, "end T  t \nact/T\ncat\n")
	good := releaseOf(t, "key", 4, a, b)
	text := textOfRelease(good)
	for i, change := range []func(r *impl.Release){
		func(r *impl.Release) { r.Number++ }, func(r *impl.Release) { r.Number-- }, func(r *impl.Release) { r.Number += 45 },
		func(r *impl.Release) { r.Sum = hashByWorld("") }, func(r *impl.Release) { r.Sum = r.Sum[1:] + r.Sum[:1] }, func(r *impl.Release) { r.Sum, r.Seal = r.Seal, r.Sum },
		func(r *impl.Release) { r.Delta = impl.Delta{} }, func(r *impl.Release) { r.Delta.Goes = nil }, func(r *impl.Release) { r.Delta.Goes = []string{"dot"} }, func(r *impl.Release) { r.Delta.Comes = r.Delta.Comes[:1] }, func(r *impl.Release) { r.Delta.List = nil }, func(r *impl.Release) { r.Delta.Affixes, r.Delta.List = false, nil }, func(r *impl.Release) { r.Delta.Comes = []impl.Entry{{Stem: "act"}, {Stem: "cat"}} },
		// Seals of what is near to the text.
		func(r *impl.Release) { r.Seal = impl.SealOf("key", text[:len(text)-1]) }, func(r *impl.Release) { r.Seal = impl.SealOf("key", text+"seal ") }, func(r *impl.Release) { r.Seal = impl.SealOf("key", impl.ReleasePut(*r)) }, func(r *impl.Release) { r.Seal = impl.SealOf("key", impl.DeltaPut(r.Delta)) }, func(r *impl.Release) { r.Seal = impl.SealOf("key", "") }, func(r *impl.Release) { r.Seal = impl.SealOf("ke", text) }, func(r *impl.Release) { r.Seal = impl.SealOf("key ", text) }, func(r *impl.Release) { r.Seal = impl.HashSum(text) }, func(r *impl.Release) { r.Seal = impl.HashSum("key" + text) }, func(r *impl.Release) { r.Seal = strings.Repeat("0", 64) },
		func(r *impl.Release) { r.Seal = strings.ToUpper(r.Seal) }, func(r *impl.Release) { r.Seal = r.Seal[:63] }, func(r *impl.Release) { r.Seal = r.Seal[1:] + r.Seal[:1] }, func(r *impl.Release) { r.Seal = "" },
	} {
		r := good
		change(&r)
		if impl.ReleaseOk("key", r) {
			t.Errorf("%d is ok: %+v", i, r)
		}
		for number := range 60 {
			if got, ok := impl.ReleaseDo("key", number, a, r); ok || !sameBook(got, a) {
				t.Errorf("%d leads from %d: %+v", i, number, got)
			}
		}
	}
}

// P29: texts that are no release.
func TestReleaseGetRefuses(t *testing.T) {
	r := releaseOf(t, "key", 9, impl.Book{}, bookOf(t, "end S  s \ncat/S\ndo\n"))
	text := impl.ReleasePut(r)
	if back, ok := impl.ReleaseGet(text); !ok || !sameRelease(back, r) {
		t.Fatalf("%q: %+v", text, back)
	}
	swap := func(old, put string) string {
		if !strings.Contains(text, old) {
			t.Fatalf("no %q", old)
		}
		return strings.Replace(text, old, put, 1)
	}
	head, rest, _ := strings.Cut(text, "\n")
	seal := text[len(text)-70:]
	texts := []string{
		"", "\n", "x", "release", "release \n", "release 10\n", head, head + "\n", rest, seal, text + "\n", text + "x", "x" + text, "\n" + text, " " + text, text + " ", text + text, text + seal, seal + text, text[:len(text)-1], text[:len(text)-2] + "\n", text[1:], text[:len(text)-70], text[:len(text)-1] + " ", text[:len(text)-1] + "x", text[:len(text)-1] + "\r\n",
		swap("release 10", "release 010"), swap("release 10", "release 0"), swap("release 10", "release -10"), swap("release 10", "release +10"), swap("release 10", "release 1_0"), swap("release 10", "release 0xa"), swap("release 10", "release 10.0"), swap("release 10", "release 1e1"), swap("release 10", "release "), swap("release 10", "release ten"), swap("release 10", "release 1000000"), swap("release 10", "release 99999999999999999999"), swap("release 10", "release 18446744073709551626"), swap("release 10", "release -18446744073709551606"), swap("release 10", "release 10 "), swap("release 10", "release  10"), swap("release 10", "Release 10"), swap("release 10", "releases 10"), swap("release 10", " 10"), swap("release 10", "10"), swap("release 10", "release\t10"), swap("release 10", "release 10 10"), swap("release 10", "release ١٠"), swap("release 10", "release"),
		swap(r.Sum, strings.ToUpper(r.Sum)), swap(r.Sum, r.Sum[1:]), swap(r.Sum, r.Sum+"0"), swap(r.Sum, r.Sum+" "), swap(r.Sum, r.Sum[:63]+"g"), swap(r.Sum, ""), swap(r.Sum, r.Sum+"\n"), swap(r.Sum, r.Sum+"\r"),
		swap(r.Seal, strings.ToUpper(r.Seal)), swap(r.Seal, r.Seal[1:]), swap(r.Seal, r.Seal+"0"), swap(r.Seal, r.Seal[:63]+"g"), swap(r.Seal, r.Seal[:63]+" "), swap(r.Seal, r.Seal[:63]+"\n"), swap(r.Seal, ""),
		swap("\nseal ", "\nSeal "), swap("\nseal ", "\nseal"), swap("\nseal ", "\nseals"), swap("\nseal ", "\nseal  "), swap("\nseal ", "\n seal "), swap("\nseal ", "\n\nseal "), swap("\nseal ", "seal "), swap("\nseal ", " seal "), swap("\nseal ", "\nxxxx "), swap("\nseal ", "\nsealx"), swap("\nseal ", "\n"),
		swap("+cat/S\n+do\n", "+do\n+cat/S\n"), swap("+cat/S", "+cat/"), swap("+cat/S", "cat/S"), swap("+cat/S", "+Cat/S"), swap("+cat/S\n", "+cat/S\n\n"), swap("+cat/S\n", "+cat/S"), swap("+cat/S\n", "-cat\n+cat/S\n"), swap("affixes\n", ""), swap("affixes\n", "affixes\naffixes\n"), swap("end S  s \n", "end S  s\n"), swap("+do\n", "+do\nx\n"), swap("+do\n", "+do\nseal "+r.Seal+"\n"),
		strings.ReplaceAll(text, "\n", "\r\n"), strings.ReplaceAll(text, "\n", ""), strings.ToUpper(text), strings.Repeat("release 1 ", 10000), strings.Repeat("\n", 100000), strings.Repeat(seal, 1000),
	}
	for _, bad := range texts {
		if back, ok := impl.ReleaseGet(bad); ok || !sameRelease(back, impl.Release{}) {
			t.Errorf("%.100q: %+v %v", bad, back, ok)
		}
	}
	for n := range len(text) {
		if back, ok := impl.ReleaseGet(text[:n]); ok || !sameRelease(back, impl.Release{}) {
			t.Errorf("the first %d bytes: %+v", n, back)
		}
	}
	// A seal that is not the one is read: it has a form.
	for _, other := range []string{strings.Repeat("0", 64), strings.Repeat("f", 64), r.Sum} {
		if back, ok := impl.ReleaseGet(swap(r.Seal, other)); !ok || back.Seal != other || impl.ReleaseOk("key", back) {
			t.Errorf("%+v %v", back, ok)
		}
	}
}

// releaseForm is how releases are written, but for the change.
var releaseForm = regexp.MustCompile(`\Arelease ([1-9][0-9]{0,5}) ([0-9a-f]{64})\n((?s:.*))seal ([0-9a-f]{64})\n\z`)

// releaseByWords reads a release by that form.
func releaseByWords(text string) (impl.Release, bool) {
	p := releaseForm.FindStringSubmatch(text)
	if p == nil {
		return impl.Release{}, false
	}
	d, ok := deltaGetByWords(p[3])
	if !ok {
		return impl.Release{}, false
	}
	number, _ := strconv.Atoi(p[1])
	return impl.Release{Number: number, Delta: d, Sum: p[2], Seal: p[4]}, true
}

// P28, P29: what is written is read back, of many releases; with a byte more, less or changed it is read just if it is written so, and then it is not sealed.
func TestReleaseBothWays(t *testing.T) {
	r := rand.New(rand.NewSource(44))
	read := 0
	for range 200 {
		a := someBook(r)
		x := releaseOf(t, "key", r.Intn(2000), a, bookNear(r, a))
		text := impl.ReleasePut(x)
		if back, ok := impl.ReleaseGet(text); !ok || !sameRelease(back, x) {
			t.Fatalf("%q: %+v", text, back)
		}
		for range 100 {
			at := r.Intn(len(text) + 1)
			put := textOf(r, "\n /+-abcdefxyzABCDE\x000123456789", r.Intn(2))
			changed := text[:at] + put + text[min(len(text), at+r.Intn(2)):]
			want, there := releaseByWords(changed)
			got, ok := impl.ReleaseGet(changed)
			if ok != there || !sameRelease(got, want) || ok && impl.ReleasePut(got) != changed {
				t.Fatalf("%q: %+v %v", changed, got, ok)
			}
			if impl.ReleaseOk("key", got) != (changed == text) {
				t.Fatalf("%q is ok", changed)
			}
			if ok && changed != text {
				read++
			}
		}
	}
	if read < 1000 {
		t.Errorf("only %d were read", read)
	}
}

// P28, P31: of many books: a release leads from its book to the next, by its key and from its number alone.
func TestReleaseDoMany(t *testing.T) {
	r := rand.New(rand.NewSource(45))
	led := map[bool]int{}
	for range 500 {
		a := someBook(r)
		b, other := bookNear(r, a), bookNear(r, a)
		number := r.Intn(1000)
		x := releaseOf(t, "key", number, a, b)
		if got, ok := impl.ReleaseDo("key", number, a, x); !ok || !sameBook(got, b) {
			t.Fatalf("%q: %+v %v", impl.ReleasePut(x), got, ok)
		}
		for _, wrong := range []int{number + 1, number - 1, -number - 2, number + 1<<32, math.MaxInt, math.MinInt} {
			if got, ok := impl.ReleaseDo("key", wrong, a, x); ok || !sameBook(got, a) {
				t.Fatalf("%q from %d: %+v %v", impl.ReleasePut(x), wrong, got, ok)
			}
		}
		if got, ok := impl.ReleaseDo("other", number, a, x); ok || !sameBook(got, a) {
			t.Fatalf("%q by another key: %+v", impl.ReleasePut(x), got)
		}
		if r.Intn(2) == 0 {
			// What comes anew may have been there otherwise.
			other = impl.Book{Affixes: a.Affixes, Entries: slices.DeleteFunc(slices.Clone(a.Entries), func(e impl.Entry) bool {
				return slices.ContainsFunc(x.Delta.Comes, func(c impl.Entry) bool { return c.Stem == e.Stem })
			})}
		}
		// From another book it leads to the same one, or nowhere.
		want, can := doneByWords(other, x.Delta)
		can = can && sameBook(want, b)
		if !can {
			want = other
		}
		got, ok := impl.ReleaseDo("key", number, other, x)
		if ok != can || !sameBook(got, want) {
			t.Fatalf("%q to %q: %+v %v", impl.ReleasePut(x), impl.BookPut(other), got, ok)
		}
		led[ok]++
	}
	if led[true] < 100 || led[false] < 100 {
		t.Errorf("too few of some kind: %v", led)
	}
}

// P31: a book is changed only by what is sealed, is the next, and leads to a book of its sum.
func TestReleaseDoRefuses(t *testing.T) {
	a, b := bookOf(t, "end S  s \ncat/S\ndo\n"), bookOf(t, "act\ncat\n")
	good := releaseOf(t, "key", 0, a, b)
	for i, c := range []struct {
		number int
		b      impl.Book
		r      impl.Release
		ok     bool
	}{
		{0, a, good, true}, {1, a, good, false}, {-1, a, good, false}, {999999, a, good, false},
		// Sealed by hand, and right.
		{6, a, sealedBy("key", impl.Release{Number: 7, Delta: good.Delta, Sum: good.Sum}), true},
		// Sealed, the next, but of another sum.
		{0, a, sealedBy("key", impl.Release{Number: 1, Delta: good.Delta, Sum: hashByWorld("")}), false},
		{0, a, sealedBy("key", impl.Release{Number: 1, Delta: good.Delta, Sum: hashByWorld(impl.BookPut(a))}), false},
		{0, a, sealedBy("key", impl.Release{Number: 1, Sum: good.Sum}), false},
		// Sealed, the next, but something goes that is not there, whatever the sum.
		{0, a, sealedBy("key", impl.Release{Number: 1, Delta: deltaOf(t, "-none\n"), Sum: hashByWorld(impl.BookPut(a))}), false},
		{0, a, sealedBy("key", impl.Release{Number: 1, Delta: deltaOf(t, "-none\n"), Sum: hashByWorld("")}), false},
		// Nothing changes, and that is sealed.
		{0, a, sealedBy("key", impl.Release{Number: 1, Sum: hashByWorld(impl.BookPut(a))}), true},
		// Of another book.
		{0, impl.Book{}, good, false}, {0, bookOf(t, "cat\ndo\nzoo\n"), good, false}, {0, bookOf(t, "cat\ndo\n"), good, true}, {0, b, good, false},
		// Number 0 has none ahead, and 1000000 is none.
		{-1, a, sealedBy("key", impl.Release{Number: 0, Delta: good.Delta, Sum: good.Sum}), false}, {999999, a, sealedBy("key", impl.Release{Number: 1000000, Delta: good.Delta, Sum: good.Sum}), false},
		{999998, a, sealedBy("key", impl.Release{Number: 999999, Delta: good.Delta, Sum: good.Sum}), true},
		{0, a, sealedBy("other", impl.Release{Number: 1, Delta: good.Delta, Sum: good.Sum}), false}, {0, a, impl.Release{}, false},
	} {
		want := c.b
		if c.ok {
			want, _ = doneByWords(c.b, c.r.Delta)
		}
		if got, ok := impl.ReleaseDo("key", c.number, c.b, c.r); ok != c.ok || !sameBook(got, want) {
			t.Errorf("%d: %q %v", i, impl.BookPut(got), ok)
		}
	}
	// A book that is full already.
	most := impl.Book{Entries: entriesOf(impl.EntryMax)}
	more := sealedBy("key", impl.Release{Number: 1, Delta: deltaOf(t, "+zz\n"), Sum: hashByWorld(impl.BookPut(most))})
	if got, ok := impl.ReleaseDo("key", 0, most, more); ok || !sameBook(got, most) {
		t.Errorf("%+v %v", got, ok)
	}
	for _, bad := range badBooks() {
		for _, r := range []impl.Release{good, sealedBy("key", impl.Release{Number: 1, Sum: hashByWorld("")}), {}} {
			if got, ok := impl.ReleaseDo("key", 0, bad, r); ok || !sameBook(got, impl.Book{}) {
				t.Errorf("%+v: %+v %v", bad, got, ok)
			}
		}
	}
}

// What was handed in is not changed, nor what stands behind its end; no answer shares memory with it, or with another answer.
func TestReleasesAreNew(t *testing.T) {
	r := rand.New(rand.NewSource(46))
	for range 200 {
		plain := someBook(r)
		a, b := roomyBook(plain), roomyBook(bookNear(r, plain))
		x := releaseOf(t, "key", 3, a, b)
		x.Delta = roomyDelta(x.Delta)
		wholeA, wholeB, wholeD := wholeBook(a), wholeBook(b), wholeDelta(x.Delta)
		clean := impl.ReleasePut(x)
		answers := func() ([]impl.Book, []impl.Delta) {
			made, _ := impl.ReleaseOf("key", 3, a, b)
			read, _ := impl.ReleaseGet(clean)
			done, _ := impl.ReleaseDo("key", 3, a, x)
			left, _ := impl.ReleaseDo("key", 4, a, x)
			none, _ := impl.ReleaseDo("key", 3, b, x)
			return []impl.Book{done, left, none}, []impl.Delta{made.Delta, read.Delta}
		}
		wantBooks, wantDeltas := answers()
		keptBooks, keptDeltas := answers()
		goneBooks, goneDeltas := answers()
		for _, gone := range goneBooks {
			spoilBook(gone)
		}
		for _, gone := range goneDeltas {
			spoilDelta(gone)
		}
		if !reflect.DeepEqual(wholeBook(a), wholeA) || !reflect.DeepEqual(wholeBook(b), wholeB) || !reflect.DeepEqual(wholeDelta(x.Delta), wholeD) {
			t.Fatal("an argument is changed")
		}
		spoilBook(a)
		spoilBook(b)
		spoilDelta(x.Delta)
		if !reflect.DeepEqual(wantBooks, keptBooks) || !reflect.DeepEqual(wantDeltas, keptDeltas) {
			t.Fatal("answers share memory, or change from call to call")
		}
		for _, got := range wantBooks {
			if !impl.BookOk(got) {
				t.Fatal("a book shares memory with an argument")
			}
		}
		for _, got := range wantDeltas {
			if !impl.DeltaOk(got) {
				t.Fatal("a change shares memory with an argument")
			}
		}
	}
}

// Releases are answered whatever they are made of.
func TestAnyRelease(t *testing.T) {
	r := rand.New(rand.NewSource(47))
	sum := strings.Repeat("0123456789abcdef", 4)
	text := func() string {
		return textOf(r, "release seal 0123\n+-a\x00\xff", r.Intn(8))
	}
	ok := 0
	for range 20000 {
		x := impl.Release{Number: r.Intn(4) - 1, Delta: impl.Delta{Goes: []string{textOf(r, "abA", 1)}}, Sum: sum[r.Intn(2):], Seal: sum}
		if r.Intn(4) == 0 {
			x.Sum, x.Seal = text(), text()
		}
		if r.Intn(2) == 0 {
			x = sealedBy("k", x)
		}
		form := x.Number >= 1 && impl.DeltaOk(x.Delta) && len(x.Sum) == 64 && len(x.Seal) == 64
		if written := impl.ReleasePut(x); form != (written != "") {
			t.Fatalf("%+v: %q", x, written)
		} else if back, there := impl.ReleaseGet(written); there != form || form && !sameRelease(back, x) {
			t.Fatalf("%q: %+v", written, back)
		}
		if impl.ReleaseOk("k", x) {
			ok++
		}
		impl.ReleaseOk(text(), x)
		if _, there := impl.ReleaseGet(text() + text()); there {
			t.Fatal("read")
		}
		if got, done := impl.ReleaseDo(text(), r.Intn(4)-1, impl.Book{}, x); done || len(got.Entries) > 0 {
			t.Fatalf("%+v: %+v", x, got)
		}
		impl.ReleaseOf(text(), r.Intn(4)-1, impl.Book{Entries: []impl.Entry{{Stem: text(), Flags: text()}}}, impl.Book{})
	}
	if ok < 1000 {
		t.Errorf("only %d are ok", ok)
	}
}
