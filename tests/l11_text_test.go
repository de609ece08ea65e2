package tests

import (
	"encoding/hex"
	"math/rand"
	"reflect"
	"regexp"
	"slices"
	"strconv"
	"strings"
	"testing"

	"loop.example/medlar/impl"
)

// turnLine is a line of a turn that a key sealed.
func turnLine(by string, key string, from int) string {
	text := turnByWords(key, from)
	return text + " " + sealByWorld(by, text) + "\n"
}

// ringText is the text of a ring that is ok, as the document says it.
func ringText(r impl.Ring) string {
	text := ""
	for i := 1; i < len(r.Keys); i++ {
		text += turnLine(r.Keys[i-1], r.Keys[i], r.From[i])
	}
	return text
}

// lineForm is how the line of a turn is written.
var lineForm = regexp.MustCompile(`\Aturn ([1-9][0-9]{0,5}) ((?:[0-9a-f]{2}){1,64}) ([0-9a-f]{64})\z`)

// ringByWords is RingGet of a key, as the document says it.
func ringByWords(key string, text string) (impl.Ring, bool) {
	r := ring(key, 1)
	for text != "" {
		line, rest, ended := strings.Cut(text, "\n")
		p := lineForm.FindStringSubmatch(line)
		if !ended || p == nil || p[3] != sealByWorld(lastKey(r), line[:len(line)-65]) {
			return impl.Ring{}, false
		}
		from, _ := strconv.Atoi(p[1])
		next, _ := hex.DecodeString(p[2])
		if len(r.Keys) == 5 || slices.Contains(r.Keys, string(next)) || next[len(next)-1] == 0 || from <= r.From[len(r.From)-1] {
			return impl.Ring{}, false
		}
		r, text = with(r, string(next), from), rest
	}
	return r, true
}

// wantRing fails if a text is not read as a ring, or not by the document's words.
func wantRing(t *testing.T, key string, text string, want impl.Ring) {
	t.Helper()
	if r, ok := impl.RingGet(key, text); !ok || !sameRing(r, want) {
		t.Errorf("%q by %q: %+v %v", text, key, r, ok)
	}
	if r, ok := ringByWords(key, text); !ok || !sameRing(r, want) {
		t.Errorf("%q by %q: by the document's words %+v %v", text, key, r, ok)
	}
}

// wantNoRing fails if a text is read as a ring.
func wantNoRing(t *testing.T, key string, text string) {
	t.Helper()
	if r, ok := impl.RingGet(key, text); ok || !sameRing(r, impl.Ring{}) {
		t.Errorf("%.200q by %.80q: %+v %v", text, key, r, ok)
	}
}

// P65: the text of a ring, a line for each key but the first, sealed by the key ahead; that of one key is empty.
func TestRingPut(t *testing.T) {
	if text := impl.RingPut(ring("key", 1)); text != "" {
		t.Errorf("%q", text)
	}
	want := "turn 5 74776f " + sealByWorld("key", "turn 5 74776f") + "\nturn 999999 00ff0a20 " + sealByWorld("two", "turn 999999 00ff0a20") + "\n"
	if text := impl.RingPut(ring("key", 1, "two", 5, "\x00\xff\n ", 999999)); text != want {
		t.Errorf("%q, want %q", text, want)
	}
	for _, r := range goodRings() {
		text := impl.RingPut(r)
		if text != ringText(r) {
			t.Errorf("%+v: %q", r, text)
		}
		wantRing(t, r.Keys[0], text, r)
	}
	for _, r := range badRings() {
		if text := impl.RingPut(r); text != "" {
			t.Errorf("%+.80v: %q", r, text)
		}
	}
}

// P65: who has no key, or another first key, comes to no ring, but to that of it alone by no turns.
func TestRingGetKeys(t *testing.T) {
	for _, r := range goodRings() {
		text := impl.RingPut(r)
		for _, other := range slices.Concat(r.Keys[1:], goodKeys, []string{"ke", "keyy", "Key", "other"}) {
			if text == "" {
				wantRing(t, other, text, ring(other, 1))
			} else if other != r.Keys[0] {
				wantNoRing(t, other, text)
			}
		}
		for _, bad := range badKeys {
			wantNoRing(t, bad, text)
		}
	}
	// With a byte of 0 behind it, a key that is none would seal as without.
	wantNoRing(t, "key\x00", turnLine("key", "two", 5))
	wantNoRing(t, "", turnLine("", "two", 5))
}

// P65: with the last lines away a text is that of a ring of fewer keys; with others away, or more, it is none.
func TestRingGetLines(t *testing.T) {
	r := fullRing()
	lines := strings.SplitAfter(impl.RingPut(r), "\n")[:4]
	for n := range 5 {
		fewer := impl.Ring{Keys: r.Keys[:n+1], From: r.From[:n+1]}
		wantRing(t, "a", strings.Join(lines[:n], ""), fewer)
		if n < 4 {
			wantNoRing(t, "a", strings.Join(lines[:n], "")+turnLine("e", "f", 101))
			wantNoRing(t, "a", strings.Join(slices.Insert(slices.Clone(lines), n, lines[n]), ""))
			wantNoRing(t, "a", strings.Join(slices.Insert(slices.Clone(lines), n, "\n"), ""))
			wantNoRing(t, "a", strings.Join(slices.Insert(slices.Clone(lines), n, "turn\n"), ""))
		}
		if n < 3 {
			wantNoRing(t, "a", strings.Join(slices.Delete(slices.Clone(lines), n, n+1), ""))
			swapped := slices.Clone(lines)
			swapped[n], swapped[n+1] = swapped[n+1], swapped[n]
			wantNoRing(t, "a", strings.Join(swapped, ""))
		}
	}
	all := strings.Join(lines, "")
	wantNoRing(t, "a", all+turnLine("e", "f", 101))
	wantNoRing(t, "a", all+"\n")
	wantNoRing(t, "a", "\n"+all)
	wantNoRing(t, "a", all+all)
	wantNoRing(t, "a", strings.Repeat(lines[0], 100000))
	wantNoRing(t, "a", strings.Repeat("\n", 100000))
}

// P65: texts that look nearly like that of a turn are not read, be they sealed or not.
func TestRingGetRefuses(t *testing.T) {
	text := turnByWords("two", 5)
	seal := sealByWorld("key", text)
	good := text + " " + seal + "\n"
	wantRing(t, "key", good, ring("key", 1, "two", 5))
	for _, wrong := range []string{
		good[:len(good)-1], good + "x", "x" + good, good + " ", " " + good, good[:len(good)-1] + " \n", text + "\n", seal + "\n", text + seal + "\n", text + "  " + seal + "\n", text + " " + seal + " " + seal + "\n", text + " " + strings.ToUpper(seal) + "\n", text + " " + seal[1:] + "\n", text + " " + seal + "0\n", text + "\t" + seal + "\n", text + " " + seal + "\r\n", "turn\n5\n74776f\n" + seal + "\n", "x", "\n", " ", "   \n", "turn\n", "turn   \n", "turn 5 74776f \n",
	} {
		wantNoRing(t, "key", wrong)
	}
	for _, wrong := range []string{
		"turn 05 74776f", "turn +5 74776f", "turn 5.0 74776f", "turn 0x5 74776f", "turn five 74776f", "turn  74776f", "turn 5 ", "turn 5", "turn 5  74776f", "turn  5 74776f", "turn 5 74776f ", " turn 5 74776f", "Turn 5 74776f", "TURN 5 74776f", "turns 5 74776f", " 5 74776f", "x 5 74776f", "74776f 5 turn", "turn 74776f 5",
		// Figures that are capital, of an odd number, none, or of no key.
		"turn 5 74776F", "turn 5 74776", "turn 5 74776f0", "turn 5 7", "turn 5 g0", "turn 5 0g", "turn 5 two", "turn 5 747 76f", "turn 5 0x74", "turn 5 -1", "turn 5 00", "turn 5 74776f00", "turn 5 " + strings.Repeat("6b", 65), "turn 5 " + strings.Repeat("6b", 63) + "00", "turn 5 " + strings.Repeat("6b", 10000), "turn 5 " + hex.EncodeToString([]byte("key")),
		// Numbers that are none of a key behind the first.
		"turn 1 74776f", "turn 0 74776f", "turn -5 74776f", "turn 1000000 74776f", "turn 9223372036854775807 74776f", "turn 9223372036854775808 74776f", "turn 18446744073709551621 74776f", "turn 5" + strings.Repeat("0", 1000) + " 74776f",
	} {
		wantNoRing(t, "key", wrong+" "+sealByWorld("key", wrong)+"\n")
		if r, ok := ringByWords("key", wrong+" "+sealByWorld("key", wrong)+"\n"); ok {
			t.Errorf("%q: by the document's words %+v", wrong, r)
		}
	}
	for _, key := range []string{strings.Repeat("k", 64), strings.Repeat("k", 63), "\x00k", "\xff", "\n", "0"} {
		wantRing(t, "key", turnLine("key", key, 999999), ring("key", 1, key, 999999))
	}
}

// P65: what is written is read back, of many rings; with a byte more, less or changed it is not.
func TestRingBothWays(t *testing.T) {
	r := rand.New(rand.NewSource(1103))
	for range 200 {
		keys := someRing(r)
		text := impl.RingPut(keys)
		if text != ringText(keys) {
			t.Fatalf("%+v: %q", keys, text)
		}
		wantRing(t, keys.Keys[0], text, keys)
		for range 20 {
			at := r.Intn(len(text) + 1)
			more := text[:at] + textOf(r, "turn 0123456789abcdefABF\n\x00", 1) + text[at:]
			wantNoRing(t, keys.Keys[0], more)
			if at == len(text) {
				continue
			}
			wantNoRing(t, keys.Keys[0], text[:at]+text[at+1:])
			if changed := text[:at] + more[at:at+1] + text[at+1:]; changed != text {
				wantNoRing(t, keys.Keys[0], changed)
			}
		}
		if len(keys.Keys) > 1 {
			if next, ok := ringByWords(keys.Keys[0], text+turnLine(lastKey(keys), "new", 50)); ok == (len(keys.Keys) == 5) || ok && !sameRing(next, with(keys, "new", 50)) {
				t.Fatalf("%+v: %+v", keys, next)
			}
		}
	}
}

// roomyRing is the same ring, with others behind the ends of its lists.
func roomyRing(r impl.Ring) impl.Ring {
	return impl.Ring{Keys: withRoom(r.Keys, "room"), From: withRoom(r.From, 77)}
}

// wholeRing is a ring with all that stands in its lists and behind their ends.
func wholeRing(r impl.Ring) impl.Ring {
	return impl.Ring{Keys: allOf(r.Keys), From: allOf(r.From)}
}

// spoilRing writes over all lists of a ring, spare room included.
func spoilRing(r impl.Ring) {
	spoil(r.Keys, "gone")
	spoil(r.From, -77)
}

// placesOfRing is where the lists of a ring are.
func placesOfRing(what string, r impl.Ring) []place {
	return []place{placeOf(what+", keys", r.Keys), placeOf(what+", numbers", r.From)}
}

// What was handed in is not changed, nor what stands behind its end; no answer shares memory with it, or with another answer.
func TestRingsAreNew(t *testing.T) {
	r := rand.New(rand.NewSource(1104))
	for range 300 {
		keys := roomyRing(someRing(r))
		plain := someBook(r)
		a, b := roomyBook(plain), roomyBook(bookNear(r, plain))
		keptKeys, keptA, keptB := wholeRing(keys), wholeBook(a), wholeBook(b)
		turn, _ := impl.TurnOf(keys, "new", 50)
		x, _ := impl.RingRelease(keys, 2, a, b)
		x.Delta = roomyDelta(x.Delta)
		keptDelta := wholeDelta(x.Delta)
		places := slices.Concat(placesOfRing("ring", keys), placesOfBook("book", a), placesOfBook("next book", b), []place{placeOf("goes", x.Delta.Goes), placeOf("comes", x.Delta.Comes), placeOf("affixes", x.Delta.List)})
		var rings []impl.Ring
		var books []impl.Book
		for range 2 {
			taken, _ := impl.RingTake(keys, turn)
			left, _ := impl.RingTake(keys, impl.Turn{})
			one, _ := impl.RingNew("key")
			read, _ := impl.RingGet(keys.Keys[0], impl.RingPut(keys))
			rings = append(rings, taken, left, one, read)
			done, _ := impl.RingDo(keys, 2, a, x)
			same, _ := impl.RingDo(keys, 3, a, x)
			bad, _ := impl.RingDo(impl.Ring{}, 2, a, x)
			books = append(books, done, same, bad)
			made, _ := impl.RingRelease(keys, 2, a, b)
			places = append(places, placeOf("goes again", made.Delta.Goes), placeOf("comes again", made.Delta.Comes), placeOf("affixes again", made.Delta.List))
		}
		impl.RingOk(keys)
		impl.RingKey(keys, 2)
		if !reflect.DeepEqual(keptKeys, wholeRing(keys)) || !reflect.DeepEqual(keptA, wholeBook(a)) || !reflect.DeepEqual(keptB, wholeBook(b)) || !reflect.DeepEqual(keptDelta, wholeDelta(x.Delta)) {
			t.Fatal("an argument is changed")
		}
		for i, one := range rings {
			places = append(places, placesOfRing("ring "+strconv.Itoa(i), one)...)
		}
		for i, one := range books {
			places = append(places, placesOfBook("book "+strconv.Itoa(i), one)...)
		}
		wantApart(t, places)
		for i := range 4 {
			spoilRing(rings[i])
			if !impl.RingOk(rings[i+4]) {
				t.Fatal("answers share memory, or change from call to call")
			}
		}
	}
}

// Rings and turns are answered whatever they are made of.
func TestAnyRing(t *testing.T) {
	r := rand.New(rand.NewSource(1105))
	ok := 0
	for range 20000 {
		var keys impl.Ring
		for range r.Intn(4) {
			keys.Keys = append(keys.Keys, textOf(r, "abc\x00", r.Intn(3)))
		}
		for i := range len(keys.Keys) + r.Intn(12)/11 {
			keys.From = append(keys.From, i+1+r.Intn(10)/9)
		}
		turn := impl.Turn{Key: textOf(r, "ab\x00", r.Intn(3)), From: r.Intn(6) - 1, Seal: textOf(r, "0f\xff", 64*r.Intn(2))}
		if r.Intn(2) == 0 {
			turn, _ = impl.TurnOf(keys, turn.Key, turn.From)
		}
		text := impl.RingPut(keys)
		next, taken := impl.RingTake(keys, turn)
		if !impl.RingOk(keys) {
			if text != "" || taken || len(next.Keys) > 0 || impl.RingKey(keys, 2) != "" {
				t.Fatalf("%+v: %q, %+v", keys, text, next)
			}
			continue
		}
		ok++
		if text != ringText(keys) || !impl.RingOk(next) || taken && !sameRing(next, with(keys, turn.Key, turn.From)) || impl.RingKey(keys, 2) != keyByWords(keys, 2) {
			t.Fatalf("%+v: %q, %+v", keys, text, next)
		}
		junk := textOf(r, "turn 5 61\n\xff", r.Intn(20))
		if got, read := impl.RingGet(keys.Keys[0], text+junk); read != (junk == "") || read && !sameRing(got, keys) {
			t.Fatalf("%q: %+v", text+junk, got)
		}
	}
	if ok < 1000 {
		t.Errorf("only %d are ok", ok)
	}
}
