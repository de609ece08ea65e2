package tests

import (
	"encoding/hex"
	"math"
	"math/rand"
	"slices"
	"strconv"
	"strings"
	"testing"

	"loop.example/medlar/impl"
)

// sameRing says whether two rings are the same; the empty list and the nil list are.
func sameRing(a impl.Ring, b impl.Ring) bool {
	return slices.Equal(a.Keys, b.Keys) && slices.Equal(a.From, b.From)
}

// ring is a ring as it is told here: a key, and from which number on, and so on.
func ring(pairs ...any) impl.Ring {
	var r impl.Ring
	for i := 0; i < len(pairs); i += 2 {
		r.Keys = append(r.Keys, pairs[i].(string))
		r.From = append(r.From, pairs[i+1].(int))
	}
	return r
}

// fullRing is a ring of RingMax keys.
func fullRing() impl.Ring {
	return ring("a", 1, "b", 3, "c", 4, "d", 8, "e", 100)
}

// goodRings are rings that are ok.
func goodRings() []impl.Ring {
	list := []impl.Ring{
		ring("key", 1, "two", 2), ring("key", 1, "two", 5), ring("key", 1, "two", 999999), ring("b", 1, "a", 7, "c", 8), ring("k", 1, "kk", 2, "kkk", 3, "K", 4), ring("k", 1, "\x00k", 2, "k\x00k", 3),
		fullRing(), ring("a", 1, "b", 2, "c", 3, "d", 4, "e", 5), ring("e", 1, "d", 10, "c", 20, "b", 30, "a", 999999), ring("a", 1, "b", 999996, "c", 999997, "d", 999998, "e", 999999),
	}
	for _, key := range goodKeys {
		list = append(list, ring(key, 1), ring("first", 1, key, 3), ring(key, 1, "last", 3), ring("first", 1, key, 3, "last", 4))
	}
	return list
}

// badRings are rings that are not ok.
func badRings() []impl.Ring {
	list := []impl.Ring{
		{}, {Keys: []string{"key"}}, {From: []int{1}}, {Keys: []string{}, From: []int{}},
		// More keys than numbers, and fewer.
		{Keys: []string{"a", "b"}, From: []int{1}}, {Keys: []string{"a"}, From: []int{1, 2}}, {Keys: []string{"a", "b", "c"}, From: []int{1, 2}}, {Keys: []string{"a", "b"}, From: []int{1, 2, 3}}, {Keys: fullRing().Keys, From: append(fullRing().From, 101)}, {Keys: append(fullRing().Keys, "f"), From: fullRing().From},
		// One more than RingMax, and many more.
		ring("a", 1, "b", 2, "c", 3, "d", 4, "e", 5, "f", 6), {Keys: strings.Fields(strings.Repeat("a ", 100000)), From: make([]int, 100000)},
		// A key that comes twice, next to each other and apart.
		ring("a", 1, "a", 2), ring("a", 1, "b", 2, "b", 3), ring("a", 1, "b", 2, "a", 3), ring("a", 1, "b", 2, "c", 3, "d", 4, "a", 5), ring("a", 1, "b", 2, "c", 3, "d", 4, "b", 5), ring("a", 1, "b", 2, "c", 3, "d", 4, "d", 5),
		// Numbers that do not ascend, or come twice.
		ring("a", 1, "b", 1), ring("a", 1, "b", 0), ring("a", 1, "b", -1), ring("a", 1, "b", 5, "c", 5), ring("a", 1, "b", 5, "c", 4), ring("a", 1, "b", 5, "c", 1), ring("a", 1, "b", 999999, "c", 999999), ring("a", 1, "b", 7, "c", 6, "d", 8), ring("a", 1, "b", math.MinInt),
		// One more than the last number, and many more.
		ring("a", 1, "b", 1000000), ring("a", 1, "b", 999999, "c", 1000000), ring("a", 1, "b", 1000000, "c", 1000001), ring("a", 1, "b", math.MaxInt), ring("a", 1, "b", 1000000, "c", 2),
	}
	for _, first := range []int{0, 2, -1, 5, 999999, 1000000, math.MaxInt, math.MinInt} {
		list = append(list, ring("a", first), ring("a", first, "b", 7), ring("a", first, "b", 999999))
	}
	for _, key := range badKeys {
		list = append(list, ring(key, 1), ring(key, 1, "b", 2), ring("a", 1, key, 2), ring("a", 1, key, 2, "c", 3), ring("a", 1, "b", 2, "c", 3, "d", 4, key, 5))
	}
	return list
}

// P59, P60: which rings are ok, limits being met exactly.
func TestRingOk(t *testing.T) {
	if impl.RingMax != 5 {
		t.Error("RingMax")
	}
	for _, r := range goodRings() {
		if !impl.RingOk(r) {
			t.Errorf("not ok: %+v", r)
		}
	}
	for _, r := range badRings() {
		if impl.RingOk(r) {
			t.Errorf("ok: %+.80v", r)
		}
	}
}

// someNumbers are numbers at the edges, and those around some others.
func someNumbers(around ...int) []int {
	list := []int{math.MinInt, math.MinInt + 1, -1000000, -2, -1, 0, 1, 2, 3, 999997, 999998, 999999, 1000000, math.MaxInt - 1, math.MaxInt}
	for _, n := range around {
		list = append(list, n-2, n-1, n, n+1)
	}
	return list
}

// P59: a ring of one key has it for all numbers from 1 on.
func TestRingNew(t *testing.T) {
	for _, key := range goodKeys {
		r, ok := impl.RingNew(key)
		if !ok || !sameRing(r, ring(key, 1)) || !impl.RingOk(r) {
			t.Errorf("%+v: %+v %v", key, r, ok)
		}
		for _, n := range someNumbers(100) {
			want := key
			if n < 1 {
				want = ""
			}
			if got := impl.RingKey(r, n); got != want {
				t.Errorf("%d of %+v: %+v", n, key, got)
			}
		}
	}
	for _, key := range badKeys {
		if r, ok := impl.RingNew(key); ok || !sameRing(r, impl.Ring{}) {
			t.Errorf("%+.80v: %+v %v", key, r, ok)
		}
	}
}

// keyByWords is the key of a number, of a ring that is ok, as the document says it.
func keyByWords(r impl.Ring, number int) string {
	for i := len(r.From) - 1; i >= 0; i-- {
		if r.From[i] <= number {
			return r.Keys[i]
		}
	}
	return ""
}

// P60: the key of a number is the last that begins at most there; ahead of it there is the one ahead, and ahead of 1 none.
func TestRingKey(t *testing.T) {
	for _, r := range goodRings() {
		for i, key := range r.Keys {
			ahead := ""
			if i > 0 {
				ahead = r.Keys[i-1]
			}
			if impl.RingKey(r, r.From[i]) != key || impl.RingKey(r, r.From[i]-1) != ahead {
				t.Errorf("%+v: %+v from %d on", r, impl.RingKey(r, r.From[i]), r.From[i])
			}
		}
		for _, n := range someNumbers(r.From...) {
			if got := impl.RingKey(r, n); got != keyByWords(r, n) {
				t.Errorf("%d of %+v: %+v", n, r, got)
			}
		}
		if last := r.Keys[len(r.Keys)-1]; impl.RingKey(r, 999999) != last || impl.RingKey(r, math.MaxInt) != last || impl.RingKey(r, 0) != "" || impl.RingKey(r, 1) != r.Keys[0] {
			t.Errorf("%+v", r)
		}
	}
	for _, r := range badRings() {
		for _, n := range someNumbers(7) {
			if key := impl.RingKey(r, n); key != "" {
				t.Errorf("%d of %+.80v: %+v", n, r, key)
			}
		}
	}
}

// turnByWords is the text of a turn, as the document says it.
func turnByWords(key string, from int) string {
	return "turn " + strconv.Itoa(from) + " " + hex.EncodeToString([]byte(key))
}

// turnSealed is a turn that is sealed by a key, whatever it says.
func turnSealed(by string, key string, from int) impl.Turn {
	return impl.Turn{Key: key, From: from, Seal: sealByWorld(by, turnByWords(key, from))}
}

// lastKey is the last key of a ring that has some.
func lastKey(r impl.Ring) string {
	return r.Keys[len(r.Keys)-1]
}

// with is a ring with a key more.
func with(r impl.Ring, key string, from int) impl.Ring {
	return impl.Ring{Keys: append(slices.Clone(r.Keys), key), From: append(slices.Clone(r.From), from)}
}

// wantTurn fails if there is no turn of a ring, or another one, or it does not lead on.
func wantTurn(t *testing.T, r impl.Ring, key string, from int) {
	t.Helper()
	want := turnSealed(lastKey(r), key, from)
	turn, made := impl.TurnOf(r, key, from)
	if !made || turn != want {
		t.Errorf("%+v of %d to %+v: %+v, want %+v", key, from, r, turn, want)
	}
	if x, taken := impl.RingTake(r, want); !taken || !sameRing(x, with(r, key, from)) || !impl.RingOk(x) {
		t.Errorf("%+v of %d to %+v: %+v %v", key, from, r, x, taken)
	}
}

// wantNoTurn fails if there is a turn of a ring that is ok, or it is taken.
func wantNoTurn(t *testing.T, r impl.Ring, key string, from int) {
	t.Helper()
	if turn, made := impl.TurnOf(r, key, from); made || turn != (impl.Turn{}) {
		t.Errorf("%+.80v of %d to %+v: %+v %v", key, from, r, turn, made)
	}
	wantNotTaken(t, r, turnSealed(lastKey(r), key, from))
}

// wantNotTaken fails if a ring that is ok takes a turn.
func wantNotTaken(t *testing.T, r impl.Ring, turn impl.Turn) {
	t.Helper()
	if x, taken := impl.RingTake(r, turn); taken || !sameRing(x, r) {
		t.Errorf("%+.80v to %+v: %+v %v", turn, r, x, taken)
	}
}

// P61, P62: turns that there are, and what is none: too many keys, one that was there, numbers that are not behind the last.
func TestTurnOf(t *testing.T) {
	turn, made := impl.TurnOf(ring("key", 1), "two", 5)
	if !made || turn.Key != "two" || turn.From != 5 || turn.Seal != sealByWorld("key", "turn 5 74776f") {
		t.Errorf("%+v %v", turn, made)
	}
	for _, r := range goodRings() {
		last := r.From[len(r.From)-1]
		room := len(r.Keys) < impl.RingMax
		for _, n := range someNumbers(slices.Concat(r.From, []int{10, 500})...) {
			if room && n > last && n <= 999999 {
				wantTurn(t, r, "new", n)
				wantTurn(t, r, "\x00\n ", n)
			} else {
				wantNoTurn(t, r, "new", n)
			}
		}
		for _, key := range slices.Concat(r.Keys, badKeys) {
			for _, n := range []int{0, 1, last, last + 1, 500, 999999} {
				wantNoTurn(t, r, key, n)
			}
		}
		for _, key := range goodKeys {
			if room && last < 500 && !slices.Contains(r.Keys, key) {
				wantTurn(t, r, key, 500)
			}
		}
	}
}

// P61, P62: to a ring that is not ok there are no turns, be they sealed or not, even if it would be ok behind one.
func TestTurnsOfBadRings(t *testing.T) {
	for _, r := range badRings() {
		by := "key"
		if len(r.Keys) > 0 {
			by = lastKey(r)
		}
		for _, n := range []int{0, 1, 2, 500, 999999} {
			if turn, made := impl.TurnOf(r, "new", n); made || turn != (impl.Turn{}) {
				t.Errorf("%+.80v: %+v %v", r, turn, made)
			}
			for _, turn := range []impl.Turn{turnSealed(by, "new", n), {Key: "new", From: n}, {}} {
				if x, taken := impl.RingTake(r, turn); taken || !sameRing(x, impl.Ring{}) {
					t.Errorf("%+.80v: %+.80v %v", r, x, taken)
				}
			}
		}
	}
}

// badSeals are texts beside the seal that a turn has.
func badSeals(seal string) []string {
	list := []string{"", seal[1:], seal[:63], seal + "0", seal + "\n", " " + seal, strings.ToUpper(seal), strings.Repeat("0", 64), seal[32:] + seal[:32]}
	for i := range seal {
		other := byte('0')
		if seal[i] == other {
			other = 'f'
		}
		list = append(list, seal[:i]+string(other)+seal[i+1:])
	}
	return slices.DeleteFunc(list, func(text string) bool { return text == seal })
}

// P61: a turn is not taken that is forged in its key, its number, or its seal, or that another key sealed.
func TestRingTakeForged(t *testing.T) {
	for _, r := range []impl.Ring{ring("key", 1), ring("key", 1, "two", 3), ring("a", 1, "b", 2, "c", 3, "d", 4)} {
		good := turnSealed(lastKey(r), "new", 9)
		wantTurn(t, r, "new", 9)
		for _, seal := range badSeals(good.Seal) {
			wantNotTaken(t, r, impl.Turn{Key: "new", From: 9, Seal: seal})
		}
		for _, key := range []string{"", "ne", "newer", "New", "new\x00", "\x00new", "6e6577", lastKey(r)} {
			wantNotTaken(t, r, impl.Turn{Key: key, From: 9, Seal: good.Seal})
		}
		for _, from := range []int{-9, 0, 1, 8, 10, 90, 99, 999999, 1000000} {
			wantNotTaken(t, r, impl.Turn{Key: "new", From: from, Seal: good.Seal})
		}
		for _, by := range append([]string{"new", "other", "", lastKey(r) + "\x00"}, r.Keys[:len(r.Keys)-1]...) {
			// With a byte of 0 behind it a short key seals as without, here, too.
			if turn := turnSealed(by, "new", 9); turn != good {
				wantNotTaken(t, r, turn)
			}
		}
		// Sealed, but another text.
		for _, text := range []string{"turn 9 new", "turn 9 6e6577\n", "turn 9 6E6577", "turn 09 6e6577", "turn  9 6e6577", "9 6e6577", "", "turn 9 6e6577 "} {
			wantNotTaken(t, r, impl.Turn{Key: "new", From: 9, Seal: sealByWorld(lastKey(r), text)})
		}
		wantNotTaken(t, r, impl.Turn{})
	}
}

// P61: behind a turn the new key is the one from its number on, elder ones are ahead, and it is not taken twice.
func TestRingTakeTwice(t *testing.T) {
	r := ring("a", 1)
	for i, key := range []string{"b", "c", "d", "e"} {
		from := 10 * (i + 1)
		turn, made := impl.TurnOf(r, key, from)
		x, taken := impl.RingTake(r, turn)
		if !made || !taken || impl.RingKey(x, from) != key || impl.RingKey(x, from+1) != key || impl.RingKey(x, 999999) != key {
			t.Fatalf("%+v %v %v", x, made, taken)
		}
		for n := range from {
			if impl.RingKey(x, n) != impl.RingKey(r, n) {
				t.Fatalf("%d of %+v: %+v", n, x, impl.RingKey(x, n))
			}
		}
		wantNotTaken(t, x, turn)
		// Sealed again by the new key it would be one that comes twice.
		wantNotTaken(t, x, turnSealed(key, key, from))
		wantNotTaken(t, x, turnSealed(key, key, from+10))
		wantNotTaken(t, x, turnSealed(key, "new", from))
		r = x
	}
	wantNoTurn(t, r, "f", 50)
}

// someRing is some ring that is ok, of few keys and small numbers.
func someRing(r *rand.Rand) impl.Ring {
	keys := []string{"a", "b", "c", "d", "e", "f", "ab", "\x00a", strings.Repeat("k", 64)}
	r.Shuffle(len(keys), func(i, k int) { keys[i], keys[k] = keys[k], keys[i] })
	made := ring(keys[0], 1)
	for _, key := range keys[1 : 1+r.Intn(impl.RingMax)] {
		made = with(made, key, made.From[len(made.From)-1]+1+r.Intn(3))
	}
	return made
}

// P60, P61, P62: many turns, of the same ring or another one: just those of the last key are taken.
func TestRingTakeMany(t *testing.T) {
	r := rand.New(rand.NewSource(1101))
	taken, other := 0, 0
	for range 3000 {
		a, b := someRing(r), someRing(r)
		if r.Intn(2) == 0 {
			b = a
		}
		key, from := string(rune('a'+r.Intn(8))), r.Intn(20)
		turn, made := impl.TurnOf(a, key, from)
		fits := len(a.Keys) < 5 && !slices.Contains(a.Keys, key) && from > a.From[len(a.From)-1]
		if made != fits || made && turn != turnSealed(lastKey(a), key, from) {
			t.Fatalf("%+v of %d to %+v: %+v", key, from, a, turn)
		}
		x, ok := impl.RingTake(b, turn)
		want := made && lastKey(a) == lastKey(b) && len(b.Keys) < 5 && !slices.Contains(b.Keys, key) && from > b.From[len(b.From)-1]
		if ok != want || ok && !sameRing(x, with(b, key, from)) || !ok && !sameRing(x, b) || !impl.RingOk(x) {
			t.Fatalf("%+v of %d to %+v: %+v %v", key, from, b, x, ok)
		}
		if ok {
			taken++
		} else if made {
			other++
		}
	}
	if taken < 300 || other < 300 {
		t.Errorf("too few of some kind: %d, %d", taken, other)
	}
}
