package tests

import (
	"fmt"
	"math/rand"
	"slices"
	"strings"
	"testing"

	"loop.example/medlar/impl"
)

// numberBytesByWords is a number in bytes, as the document says it.
func numberBytesByWords(n int) []byte {
	if n < 128 {
		return []byte{byte(n)}
	}
	return []byte{byte(n&127 | 128), byte(n >> 7)}
}

// machineBytes is a machine as bytes, as the document says it, be it ok or not, and however many there are.
func machineBytes(m []impl.State) string {
	list := numberBytesByWords(len(m))
	for at, s := range m {
		n := 2 * len(s.Edges)
		if s.Ends {
			n++
		}
		list = append(list, numberBytesByWords(n)...)
		for _, e := range s.Edges {
			list = append(append(list, byte(e.Letter)), numberBytesByWords(e.To-at)...)
		}
	}
	return string(list)
}

// numberRead is the number that bytes begin with, and what stands behind it, if it is written as short as can be.
func numberRead(text string) (int, string, bool) {
	switch {
	case len(text) > 0 && text[0] < 128:
		return int(text[0]), text[1:], true
	case len(text) > 1 && text[1] > 0:
		return int(text[0]&127) | int(text[1])<<7, text[2:], true
	}
	return 0, "", false
}

// machineRead is MachineGet, as the document says it.
func machineRead(text string) ([]impl.State, bool) {
	states, rest, ok := numberRead(text)
	if !ok || states > 400 || len(text) > 4000 {
		return nil, false
	}
	var m []impl.State
	for at := range states {
		var n int
		if n, rest, ok = numberRead(rest); !ok {
			return nil, false
		}
		s := impl.State{Ends: n&1 == 1}
		for range n >> 1 {
			if rest == "" {
				return nil, false
			}
			e := impl.Edge{Letter: int(rest[0])}
			var further int
			if further, rest, ok = numberRead(rest[1:]); !ok {
				return nil, false
			}
			e.To = at + further
			s.Edges = append(s.Edges, e)
		}
		m = append(m, s)
	}
	return m, rest == "" && impl.MachineOk(m)
}

// toldMachine tells a machine in short.
func toldMachine(m []impl.State) string {
	return fmt.Sprintf("%.300s", fmt.Sprint(m))
}

// wantStored fails if a machine is not written as bytes, or not read back from them.
func wantStored(t *testing.T, m []impl.State, text string) {
	t.Helper()
	if got := impl.MachinePut(m); got != text {
		t.Errorf("%s: %.200q, want %.200q", toldMachine(m), got, text)
	}
	if got, ok := impl.MachineGet(text); !ok || !sameMachine(got, m) {
		t.Errorf("%.200q: %s %v, want %s", text, toldMachine(got), ok, toldMachine(m))
	}
	if got, ok := machineRead(text); !ok || !sameMachine(got, m) || machineBytes(m) != text {
		t.Errorf("%.200q: by the document's words %s %v", text, toldMachine(got), ok)
	}
}

// wantNotStored fails if bytes are read as a machine.
func wantNotStored(t *testing.T, text string) {
	t.Helper()
	if m, ok := impl.MachineGet(text); ok || len(m) > 0 {
		t.Errorf("%.200q: %s %v", text, toldMachine(m), ok)
	}
	if m, ok := machineRead(text); ok {
		t.Errorf("%.200q: by the document's words %s", text, toldMachine(m))
	}
}

// farChain is a machine whose first state leads so many states further; all end there.
func farChain(further int) []impl.State {
	m := slices.Repeat([]impl.State{state(true)}, further+1)
	m[0] = state(false, 'q', further)
	return m
}

// P67: machines as bytes, and read back from these.
func TestMachineStored(t *testing.T) {
	if impl.StoreMax != 4000 {
		t.Error("StoreMax")
	}
	end := state(true)
	wantStored(t, []impl.State{state(false)}, "\x01\x00")
	wantStored(t, []impl.State{end}, "\x01\x01")
	wantStored(t, []impl.State{state(false, 'a', 1), end}, "\x02\x02a\x01\x01")
	wantStored(t, []impl.State{state(true, 'a', 1), end}, "\x02\x03a\x01\x01")
	wantStored(t, []impl.State{state(true, 'a', 1, 'z', 2), state(false, 'm', 2), end}, "\x03\x05a\x01z\x02\x02m\x01\x01")
	wantStored(t, []impl.State{state(false), end, end}, "\x03\x00\x01\x01")
	wantStored(t, chain(1, 26), "\x02\x34a\x01b\x01c\x01d\x01e\x01f\x01g\x01h\x01i\x01j\x01k\x01l\x01m\x01n\x01o\x01p\x01q\x01r\x01s\x01t\x01u\x01v\x01w\x01x\x01y\x01z\x01\x01")
	m, _ := impl.MachineOf([]string{"cat", "cats", "do"})
	wantStored(t, m, "\x06\x04c\x01d\x04\x02a\x01\x02t\x01\x03s\x02\x02o\x01\x01")
	for _, m := range goodMachines() {
		if text := machineBytes(m); len(text) <= 4000 {
			wantStored(t, m, text)
		}
	}
}

// P67: numbers of 127, 128 and more: how many states there are, and how many further an edge leads.
func TestStoredNumbers(t *testing.T) {
	for further, number := range map[int]string{
		1: "\x01", 2: "\x02", 126: "\x7e", 127: "\x7f", 128: "\x80\x01", 129: "\x81\x01", 130: "\x82\x01", 255: "\xff\x01", 256: "\x80\x02", 257: "\x81\x02", 383: "\xff\x02", 384: "\x80\x03", 398: "\x8e\x03", 399: "\x8f\x03",
	} {
		states := string(numberBytesByWords(further + 1))
		wantStored(t, farChain(further), states+"\x02q"+number+strings.Repeat("\x01", further))
		// Neither in more bytes, nor as another number.
		wantNotStored(t, states+"\x82\x00q"+number+strings.Repeat("\x01", further))
		if further < 128 {
			wantNotStored(t, states+"\x02q"+string([]byte{byte(further) | 128, 0})+strings.Repeat("\x01", further))
		}
		wantNotStored(t, states+"\x02q"+string(numberBytesByWords(further+1))+strings.Repeat("\x01", further))
	}
	for states, number := range map[int]string{126: "\x7e", 127: "\x7f", 128: "\x80\x01", 129: "\x81\x01", 399: "\x8f\x03", 400: "\x90\x03"} {
		wantStored(t, slices.Repeat([]impl.State{state(true)}, states), number+strings.Repeat("\x01", states))
		wantNotStored(t, number+strings.Repeat("\x01", states-1))
		wantNotStored(t, number+strings.Repeat("\x01", states+1))
	}
	wantNotStored(t, "\x91\x03"+strings.Repeat("\x01", 401))
	wantNotStored(t, "\x90\x83"+strings.Repeat("\x01", 400))
	wantNotStored(t, "\x90\x03\x00"+strings.Repeat("\x01", 400))
	wantNotStored(t, "\x81\x00\x01")
	wantNotStored(t, "\xff\xff"+strings.Repeat("\x01", 3998))
	wantNotStored(t, "\xff\xff"+strings.Repeat("\x01", 32767))
}

// sizedMachine is a machine that is ok, of NodeMax states and so many bytes.
func sizedMachine(t *testing.T, size int) []impl.State {
	t.Helper()
	m := slices.Repeat([]impl.State{state(true)}, impl.NodeMax)
	have := len(machineBytes(m))
	// The first state leads nowhere, so that however long the others lead on, nothing but the empty text is known.
	for at := 1; at < impl.NodeMax-130; at++ {
		for letter := 'a'; letter <= 'z' && have < size; letter++ {
			further := 1
			if (size-have)%2 == 1 {
				further = 130
			}
			m[at].Edges = append(m[at].Edges, impl.Edge{Letter: int(letter), To: at + further})
			have += 2 + further/130
		}
	}
	if !impl.MachineOk(m) || len(machineBytes(m)) != size {
		t.Fatalf("%d bytes, want %d", len(machineBytes(m)), size)
	}
	return m
}

// P67: a machine of StoreMax bytes is written and read, one of more is not.
func TestStoreMax(t *testing.T) {
	for _, size := range []int{1000, 3998, 3999, 4000} {
		m := sizedMachine(t, size)
		wantStored(t, m, machineBytes(m))
	}
	for _, size := range []int{4001, 4002, 5000, 8000, 12000} {
		m := sizedMachine(t, size)
		if text := impl.MachinePut(m); text != "" {
			t.Errorf("%d bytes: %.80q", size, text)
		}
		wantNotStored(t, machineBytes(m))
	}
	full := machineBytes(sizedMachine(t, 4000))
	wantNotStored(t, full+"\x00")
	wantNotStored(t, full[:3999])
}

// P67: machines that are not ok are not written, nor read.
func TestBadMachinesStored(t *testing.T) {
	for i, m := range badMachines() {
		if text := impl.MachinePut(m); text != "" {
			t.Errorf("%d: %.80q", i, text)
		}
	}
	for _, m := range [][]impl.State{chain(impl.WordMax+1, 1), chain(impl.WordMax+1, 2), {state(false, 'b', 1, 'a', 1), state(true)}, {state(false, 'a', 1, 'a', 1), state(true)}, {state(false), state(false)}, {state(false, 'a', 1), state(false)}, {state(false, 'A', 1), state(true)}, {state(false, '`', 1), state(true)}, {state(false, '{', 1), state(true)}, {state(false, 'a', 2), state(true)}, {state(false, 'a', 1)}} {
		wantNotStored(t, machineBytes(m))
	}
}

// P67: bytes that look nearly like those of a machine are not read.
func TestMachineGetRefuses(t *testing.T) {
	for _, text := range []string{
		"", "\x00", "\x01", "\x02", "\x80", "\x80\x00", "\x80\x01", "\x81", "\xff", "\xff\xff", "\x01\x02", "\x01\x02a", "\x01\x02a\x01", "\x00\x00", "\x00\x01",
		// Too few bytes, or too many.
		"\x02\x02a\x01", "\x02\x02a", "\x02\x02", "\x02\x02a\x01\x01\x00", "\x02\x02a\x01\x01\x01", "\x02\x02a\x01\x01x", "\x02\x02a\x01\x01\n", "\x01\x02a\x01\x01", "\x03\x02a\x01\x01", "\x01\x01\x01", "\x01\x00\x00", "x\x02\x02a\x01\x01", "\x02\x02a\x80", "\x02\x82", "\x02\x02a\x01\x81",
		// A number of two bytes where one would do.
		"\x82\x00\x02a\x01\x01", "\x02\x82\x00a\x01\x01", "\x02\x02a\x81\x00\x01", "\x02\x02a\x01\x81\x00", "\x82\x80\x00\x02a\x01\x01", "\x81\x00\x00", "\x01\x80\x00",
		// A To of no further, or behind the last state.
		"\x02\x02a\x00\x01", "\x02\x02a\x02\x01", "\x02\x02a\x7f\x01", "\x02\x02a\x80\x01\x01", "\x02\x02a\xff\xff\x01", "\x02\x02a\x01\x03a\x00", "\x02\x02a\x01\x03a\x01", "\x03\x02a\x03\x01\x01", "\x02\x02a\xff\x01", "\x02\x02a\x80\x00\x01",
		// Other letters, or other numbers of edges.
		"\x02\x02A\x01\x01", "\x02\x02`\x01\x01", "\x02\x02{\x01\x01", "\x02\x02\x00\x01\x01", "\x02\x02\xe1\x01\x01", "\x02\x04b\x01a\x01\x01", "\x02\x04a\x01a\x01\x01", "\x02\x04a\x01\x01", "\x02\x00a\x01\x01", "\x02\x01a\x01\x01", "\x02\x06a\x01b\x01\x01", "\x02\x02a\x01b\x01\x01", "\x02\xff\xffa\x01\x01",
		// States that neither end nor lead on.
		"\x02\x02a\x01\x00", "\x02\x00\x00", "\x02\x01\x00", "\x03\x02a\x02\x00\x01",
		strings.Repeat("\x00", 4000), strings.Repeat("\x01", 4000), strings.Repeat("\xff", 4000), strings.Repeat("a", 4000), strings.Repeat("\xff", 1000000), strings.Repeat("\x01", 1000000),
	} {
		wantNotStored(t, text)
	}
}

// P67: of all short texts of some bytes just those of machines are read, and these are written again.
func TestMachineGetShort(t *testing.T) {
	read := 0
	for _, text := range textsOver("\x00\x01\x02\x03ab\u0081", 6) {
		// These texts are of runes, of which this one stands for a byte.
		text = strings.ReplaceAll(text, "\u0081", "\x81")
		want, fits := machineRead(text)
		got, ok := impl.MachineGet(text)
		if ok != fits || ok && (!sameMachine(got, want) || impl.MachinePut(got) != text) || !ok && len(got) > 0 {
			t.Fatalf("%q: %v %v, want %v %v", text, got, ok, want, fits)
		}
		if ok {
			read++
		}
	}
	if read < 20 {
		t.Errorf("only %d were read", read)
	}
}

// storedMachine is some machine, of words or not, be it long or short.
func storedMachine(r *rand.Rand) []impl.State {
	if r.Intn(2) == 0 {
		return someMachine(r)
	}
	m, _ := impl.MachineOf(someWords(r, small[:2+r.Intn(9)], 1+r.Intn(90), 1+r.Intn(4)))
	return m
}

// P67: many machines are read back; with bytes more, less or changed they are read just if they are written so.
func TestMachineBothWays(t *testing.T) {
	r := rand.New(rand.NewSource(1204))
	read := 0
	for range 2000 {
		m := storedMachine(r)
		text := machineBytes(m)
		wantStored(t, m, text)
		for range 30 {
			at := r.Intn(len(text) + 1)
			other := text[:at] + textOf(r, "\x00\x01\x02\x03\x04\x05\x06abcz\x80\x81\x82\xff", r.Intn(3)) + text[min(at+r.Intn(3), len(text)):]
			want, fits := machineRead(other)
			got, ok := impl.MachineGet(other)
			if ok != fits || ok && (!sameMachine(got, want) || impl.MachinePut(got) != other) || !ok && len(got) > 0 {
				t.Fatalf("%q: %v %v, want %v %v", other, got, ok, want, fits)
			}
			if ok && other != text {
				read++
			}
		}
	}
	if read < 1000 {
		t.Errorf("only %d others were read", read)
	}
}
