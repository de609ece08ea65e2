package tests

import (
	"math/rand"
	"slices"
	"strconv"
	"strings"
	"testing"

	"loop.example/medlar/impl"
)

// story is books one behind the other, the empty one first, and the releases between them, as texts.
type story struct {
	books []impl.Book
	texts []string
}

// tell puts a book behind a story, by a release of a key.
func (s *story) tell(t *testing.T, key string, b impl.Book) {
	t.Helper()
	last := len(s.texts)
	s.texts = append(s.texts, impl.ReleasePut(releaseOf(t, key, last, s.books[last], b)))
	s.books = append(s.books, b)
}

// file is the first releases of a story, one behind the other.
func (s story) file(n int) string {
	return strings.Join(s.texts[:n], "")
}

// client is a client that is up, and has taken the first releases of a story.
func (s story) client(key string, n int) impl.Client {
	return impl.Client{Key: key, Up: true, Number: n, Book: s.books[n], File: s.file(n)}
}

// storyOf is the story of books that are written so.
func storyOf(t *testing.T, key string, books ...string) story {
	t.Helper()
	s := story{books: []impl.Book{{}}}
	for _, text := range books {
		s.tell(t, key, bookOf(t, text))
	}
	return s
}

// smallStory is four books that differ in their entries, their affixes, and in nothing.
func smallStory(t *testing.T, key string) story {
	t.Helper()
	return storyOf(t, key, "cat\n", "end S  s \ncat/S\ndog\n", "end S  s \ncat/S\ndog\n", "dog\nzoo\n")
}

// someStory is a story of so many books.
func someStory(t *testing.T, r *rand.Rand, key string, n int) story {
	t.Helper()
	s := story{books: []impl.Book{{}}}
	for len(s.texts) < n {
		if b := bookNear(r, s.books[len(s.texts)]); r.Intn(4) > 0 {
			s.tell(t, key, b)
		} else {
			s.tell(t, key, someBook(r))
		}
	}
	return s
}

// linesOfSize is entries whose lines in a change have so many bytes together: none, or 3 to 201.
func linesOfSize(t *testing.T, size int) []impl.Entry {
	t.Helper()
	var list []impl.Entry
	for length := impl.WordMax; length > 0; length-- {
		for _, first := range []string{"a", "b"} {
			if rest := size - length - 2; rest == 0 || rest >= 3 {
				list = append(list, impl.Entry{Stem: first + strings.Repeat("x", length-1)})
				size = rest
			}
		}
	}
	if size != 0 {
		t.Fatalf("%d bytes are left", size)
	}
	slices.SortFunc(list, func(x, y impl.Entry) int { return strings.Compare(x.Stem, y.Stem) })
	return list
}

// sizedStory is a story whose releases have just so many bytes each.
func sizedStory(t *testing.T, key string, sizes ...int) story {
	t.Helper()
	s := story{books: []impl.Book{{}}}
	for i, size := range sizes {
		d := impl.Delta{Comes: linesOfSize(t, size-144-len(strconv.Itoa(i+1)))}
		b, _ := doneByWords(s.books[i], d)
		x := sealedBy(key, impl.Release{Number: i + 1, Delta: d, Sum: hashByWorld(impl.BookPut(b))})
		s.texts, s.books = append(s.texts, textOfRelease(x)+"seal "+x.Seal+"\n"), append(s.books, b)
		if len(s.texts[i]) != size {
			t.Fatalf("%d bytes, not %d", len(s.texts[i]), size)
		}
	}
	return s
}

// sizesOf is sizes of releases, 300 each but the last two, that have so many bytes together.
func sizesOf(whole int) []int {
	var list []int
	for ; whole >= 700; whole -= 300 {
		list = append(list, 300)
	}
	return append(list, whole/2, whole-whole/2)
}

// fileByWords is the releases with which a file begins, as the document says it, as long as they have at most FileMax bytes; and the book that they lead to.
func fileByWords(key string, file string) ([]string, impl.Book) {
	var texts []string
	var b impl.Book
	read, text := 0, ""
	for _, line := range strings.SplitAfter(file, "\n") {
		text += line
		if bare, ended := strings.CutSuffix(line, "\n"); !ended || len(bare) != 69 || bare[:5] != "seal " {
			continue
		}
		x, ok := releaseByWords(text)
		if !ok || x.Seal != sealByWorld(key, text[:len(text)-70]) || x.Number != len(texts)+1 || read+len(text) > 12000 {
			break
		}
		made, done := doneByWords(b, x.Delta)
		if !done || hashByWorld(impl.BookPut(made)) != x.Sum {
			break
		}
		texts, b, read, text = append(texts, text), made, read+len(text), ""
	}
	return texts, b
}

// wantFile fails if FileGet of a key is not just some texts, one behind the other.
func wantFile(t *testing.T, what string, key string, file string, texts ...string) {
	t.Helper()
	got, n := impl.FileGet(key, file)
	if size := len(strings.Join(texts, "")); !slices.Equal(got, texts) || n != size {
		t.Errorf("%s: %d texts of %d bytes, want %d of %d", what, len(got), n, len(texts), size)
	}
}

// P36: what is read of files of few releases.
func TestFileGet(t *testing.T) {
	s := smallStory(t, "key")
	for n := range len(s.texts) + 1 {
		wantFile(t, strconv.Itoa(n)+" whole", "key", s.file(n), s.texts[:n]...)
	}
	wantFile(t, "empty", "key", "")
	a, b, c := s.texts[0], s.texts[1], s.texts[2]
	other := smallStory(t, "other")
	wrongSum := sealedBy("key", impl.Release{Number: 2, Delta: deltaOf(t, "+dog\n"), Sum: hashByWorld("dog\n")})
	notThere := sealedBy("key", impl.Release{Number: 2, Delta: deltaOf(t, "-dog\n"), Sum: hashByWorld("cat\n")})
	looks := "seal " + strings.Repeat("x", 64) + "\n"
	for _, x := range []struct {
		what, file string
		texts      int
	}{
		{"begins with the second", b + c, 0}, {"begins with the second, then all", b + a + b, 0},
		{"one twice", a + a, 1}, {"one twice, then the next", a + a + b, 1}, {"the second twice", a + b + b + c, 2}, {"all, then all again", a + b + a + b, 2},
		{"a gap", a + c, 1}, {"a gap, then the next", a + c + b, 1},
		{"another key first", other.texts[0] + b, 0}, {"another key within", a + other.texts[1] + c, 1}, {"another key within, then the next", a + other.texts[1] + b + c, 1}, {"another key last", a + b + other.texts[2], 2},
		{"another sum within", a + impl.ReleasePut(wrongSum) + b, 1}, {"what goes is not there", a + impl.ReleasePut(notThere) + b, 1},
		{"bytes behind", a + b + "x", 2}, {"a newline behind", a + b + "\n", 2}, {"a newline between", a + "\n" + b, 1}, {"a newline ahead", "\n" + a, 0}, {"a byte ahead", "x" + a, 0}, {"a line ahead", "x\n" + a, 0}, {"a blank behind", a + " ", 1}, {"a byte of 0 behind", a + "\x00", 1}, {"a byte of 0 between", a + "\x00" + b, 1},
		{"a line like a seal ahead", looks + a, 0}, {"a line like a seal between", a + looks + b, 1}, {"a line like a seal behind", a + b + looks, 2}, {"the seal ahead", a[len(a)-70:] + a, 0}, {"the seal twice", a + a[len(a)-70:] + b, 1}, {"a seal of one byte more between", a + "seal " + strings.Repeat("0", 65) + "\n" + b, 1}, {"a seal of one byte less between", a + "seal " + strings.Repeat("0", 63) + "\n" + b, 1},
		{"a line like a seal within", a + b[:len(b)-70] + looks + b[len(b)-70:] + c, 1}, {"no seal", a + b[:len(b)-70] + c, 1}, {"no newline between", a[:len(a)-1] + b, 0}, {"other newlines", strings.ReplaceAll(a, "\n", "\r\n"), 0},
		{"lines alone", strings.Repeat("\n", impl.FileMax), 0}, {"seals alone", strings.Repeat(looks, 170), 0}, {"no line", strings.Repeat("x", impl.FileMax), 0},
	} {
		wantFile(t, x.what, "key", x.file, []string{a, b, c}[:x.texts]...)
	}
}

// P36: a file that breaks off anywhere: within its text, within its seal, ahead of its last newline, and right behind it.
func TestFileBreaksOff(t *testing.T) {
	s := smallStory(t, "key")
	whole := s.file(4)
	for n := range len(whole) + 1 {
		texts := 0
		for texts < 4 && len(s.file(texts+1)) <= n {
			texts++
		}
		wantFile(t, "the first "+strconv.Itoa(n), "key", whole[:n], s.texts[:texts]...)
		// What comes behind a release that broke off is not read, be it whole.
		if n > len(s.file(texts)) {
			wantFile(t, "the first "+strconv.Itoa(n)+" and one again", "key", whole[:n]+s.texts[texts], s.texts[:texts]...)
		}
	}
}

// P36: by texts that are keys, and by others, also if these would seal the same.
func TestFileKeys(t *testing.T) {
	for _, key := range goodKeys {
		s := smallStory(t, key)
		wantFile(t, "by its key", key, s.file(4), s.texts...)
		for _, other := range goodKeys {
			if other != key {
				wantFile(t, "by another key", other, s.file(4))
			}
		}
		wantFile(t, "with a byte of 0", key+"\x00", s.file(4))
	}
	for _, key := range badKeys {
		x := sealedBy(key, impl.Release{Number: 1, Delta: deltaOf(t, "+cat\n"), Sum: hashByWorld("cat\n")})
		wantFile(t, "by no key", key, textOfRelease(x)+"seal "+x.Seal+"\n")
		wantFile(t, "nothing, by no key", key, "")
	}
}

// P36: a file of FileMax bytes is read, and one of one more is not, whatever the last byte is of.
func TestFileLimits(t *testing.T) {
	if impl.FileMax != 12000 {
		t.Error("limit")
	}
	exact := sizedStory(t, "key", sizesOf(impl.FileMax)...)
	file := exact.file(len(exact.texts))
	if len(file) != impl.FileMax {
		t.Fatalf("%d bytes", len(file))
	}
	wantFile(t, "FileMax", "key", file, exact.texts...)
	wantFile(t, "one less", "key", file[:len(file)-1], exact.texts[:len(exact.texts)-1]...)
	wantFile(t, "one more", "key", file+"\n")
	fewer := sizedStory(t, "key", sizesOf(impl.FileMax-1)...)
	wantFile(t, "a byte behind", "key", fewer.file(len(fewer.texts))+"x", fewer.texts...)
	wantFile(t, "two bytes behind", "key", fewer.file(len(fewer.texts))+"xx")
	more := sizedStory(t, "key", sizesOf(impl.FileMax+1)...)
	wantFile(t, "one more, whole", "key", more.file(len(more.texts)))
	// As many releases as there is room for: all of them change nothing.
	s := story{books: []impl.Book{{}}}
	for len(s.file(len(s.texts)))+146 <= impl.FileMax {
		s.tell(t, "key", impl.Book{})
	}
	if len(s.texts) != 82 {
		t.Errorf("%d releases", len(s.texts))
	}
	wantFile(t, "short ones", "key", s.file(len(s.texts)), s.texts...)
	// The longest releases that there are.
	a := impl.Book{Affixes: eightAffixes(), Entries: entriesWith(stemsOf(0, impl.EntryMax, impl.WordMax), "ABCD")}
	b := impl.Book{Affixes: longAffixes(), Entries: entriesWith(stemsOf(impl.EntryMax, impl.EntryMax, impl.WordMax), "EFGH")}
	l := story{books: []impl.Book{{}}}
	for i := range 10 {
		l.tell(t, "key", []impl.Book{a, b}[i%2])
	}
	wantFile(t, "long ones", "key", l.file(10), l.texts...)
	wantFile(t, "far too much", "key", strings.Repeat(file, 100))
}

// someFile is releases of some stories, one behind the other, more or less as they should be.
func someFile(r *rand.Rand, mine story, others ...story) string {
	list := slices.Clone(mine.texts[:r.Intn(len(mine.texts)+1)])
	for range r.Intn(3) {
		if len(list) == 0 {
			break
		}
		at := r.Intn(len(list))
		text := list[at]
		switch r.Intn(6) {
		case 0:
			list = slices.Delete(list, at, at+1)
		case 1:
			list = slices.Insert(list, at, text)
		case 2:
			list[at] = others[r.Intn(len(others))].texts[at]
		case 3:
			list[at] = text[:r.Intn(len(text))]
		case 4:
			place := r.Intn(len(text) + 1)
			list[at] = text[:place] + textOf(r, "\n al0\x00\xff", r.Intn(3)) + text[min(len(text), place+r.Intn(3)):]
		case 5:
			list[at] = text + textOf(r, "\n sealrelease10", r.Intn(80))
		}
	}
	return strings.Join(list, "")
}

// someStories is a story, one of the same books by another key, and one of other books by the same key.
func someStories(t *testing.T, r *rand.Rand, n int) (story, story, story) {
	t.Helper()
	mine := someStory(t, r, "key", n)
	other := story{books: []impl.Book{{}}}
	for _, b := range mine.books[1:] {
		other.tell(t, "other", b)
	}
	return mine, other, someStory(t, r, "key", n)
}

// P36, P35, P76: of many files: what is read is how the file begins; who takes it, one by one, has what a client has that keeps the file, and rises.
func TestFileMany(t *testing.T) {
	r := rand.New(rand.NewSource(51))
	read := map[string]int{}
	for range 100 {
		mine, other, apart := someStories(t, r, 6)
		for range 12 {
			file := someFile(r, mine, other, apart)
			texts, n := impl.FileGet("key", file)
			want, b := fileByWords("key", file)
			if begins := strings.Join(want, ""); !slices.Equal(texts, want) || n != len(begins) || file[:n] != begins {
				t.Fatalf("%q: %q %d, want %q", file, texts, n, want)
			}
			c := impl.ClientNew("key")
			for i, text := range texts {
				next, code := impl.ClientTake(c, text)
				if code != impl.TakeFine || next.Number != i+1 || next.File != c.File+text {
					t.Fatalf("%q: %d at %d", file, code, i)
				}
				c = next
			}
			up := impl.Client{Key: "key", Up: true, Number: len(want), Book: b, File: file[:n]}
			wantClient(t, "taken one by one", c, up)
			wantClient(t, "risen", impl.ClientRise(impl.Client{Key: "key", File: file}), up)
			if !impl.ClientOk(up) || impl.ClientOk(impl.Client{Key: "key", Up: true, Number: len(want), Book: b, File: file}) != (n == len(file)) {
				t.Fatalf("%q: not ok, or ok", file)
			}
			switch {
			case n == len(file):
				read["all"]++
			case n == 0:
				read["none"]++
			default:
				read["some"]++
			}
		}
	}
	if read["all"] < 200 || read["none"] < 100 || read["some"] < 200 {
		t.Errorf("too few of some kind: %v", read)
	}
}

// What FileGet answers is new, spare room included, and the same from call to call.
func TestFileIsNew(t *testing.T) {
	s := smallStory(t, "key")
	file := s.file(4) + "behind"
	kept, _ := impl.FileGet("key", file)
	gone, _ := impl.FileGet("key", file)
	spoil(gone, "gone")
	wantList(t, "kept", kept, s.texts...)
	again, n := impl.FileGet("key", file)
	wantList(t, "again", again, s.texts...)
	if n != len(file)-6 {
		t.Errorf("%d bytes", n)
	}
}
