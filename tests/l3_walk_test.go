package tests

import (
	"math/rand"
	"reflect"
	"slices"
	"strings"
	"testing"

	"loop.example/medlar/impl"
)

const thousandMillion = 1000000000

// chain is a machine of so many steps one behind the other, of so many letters each.
func chain(steps int, letters int) []impl.State {
	m := make([]impl.State, steps+1)
	for at := range steps {
		for i := range letters {
			m[at].Edges = append(m[at].Edges, impl.Edge{Letter: 'a' + i, To: at + 1})
		}
	}
	m[steps].Ends = true
	return m
}

// oneLess is a machine that knows just one text less than chain of as many steps of ten letters: the last one.
func oneLess(steps int) []impl.State {
	m := make([]impl.State, steps)
	for _, s := range chain(steps, 10) {
		for i := range s.Edges {
			s.Edges[i].To += steps
		}
		m = append(m, s)
	}
	for at := range steps {
		m[at].Edges = slices.Clone(m[steps+at].Edges)
		m[at].Edges[9].To = at + 1
	}
	m[steps-1].Edges = m[steps-1].Edges[:9]
	return m
}

// withState is a machine with another state at a place.
func withState(m []impl.State, at int, s impl.State) []impl.State {
	m = slices.Clone(m)
	m[at] = s
	return m
}

// goodMachines are machines that are ok, at the edges.
func goodMachines() [][]impl.State {
	end := state(true)
	full := chain(1, 26)
	far := withState(chain(impl.NodeMax-1, 26), 0, state(true, 'a', impl.NodeMax-1))
	return [][]impl.State{
		{state(false)}, {end}, {state(false, 'a', 1), end}, {state(false, 'z', 1), end}, {state(true, 'a', 1, 'b', 2), end, end}, {state(false), end}, {state(false), state(false, 'a', 2), end},
		full, chain(impl.WordMax, 1), chain(impl.WordMax, 26), chain(9, 10), oneLess(9),
		// States to which nothing leads know what they like.
		far, withState(chain(impl.WordMax+1, 2), 0, state(true)), withState(chain(impl.WordMax+1, 2), 0, state(false, 'a', 2)),
	}
}

// badMachines are machines that are not ok.
func badMachines() [][]impl.State {
	end := state(true)
	return [][]impl.State{
		nil, {}, {state(false, 'a', 1)}, {state(false, 'a', 0)}, {state(true, 'a', -1)}, {state(false, 'a', 2), end}, {state(false, 'a', 1<<40), end}, {state(false, 'a', -1<<40), end},
		// Letters out of order, or twice, or none.
		{state(false, 'b', 1, 'a', 1), end}, {state(false, 'a', 1, 'a', 1), end}, {state(false, 'a', 1, 'a', 2), end, end}, {state(false, 'a', 1, 'c', 1, 'b', 1), end},
		{state(false, 'A', 1), end}, {state(false, '`', 1), end}, {state(false, '{', 1), end}, {state(false, rune(0), 1), end}, {state(false, rune(-1), 1), end}, {state(false, 'a'+256, 1), end}, {state(false, 'a', 1, '{', 1), end}, {state(false, '`', 1, 'a', 1), end},
		// States that lead back, or to themselves.
		{state(false, 'a', 1), state(true, 'a', 1)}, {state(false, 'a', 1), state(true, 'a', 0)}, {state(false, 'a', 1), state(false, 'a', 2), state(true, 'b', 1)},
		// States that neither end nor lead on, be they led to or not.
		{state(false, 'a', 1), state(false)}, {state(false), state(false)}, {end, state(false)}, {state(false, 'a', 2), state(false), end}, {state(false, 'a', 1, 'b', 2), end, state(false)},
		// What is not led to, too.
		{end, state(true, 'b', 2, 'a', 2), end}, {end, state(true, 'a', 1)}, {end, state(true, 'a', 2)}, {end, state(true, 'A', 2), end},
		// Texts longer than WordMax.
		chain(impl.WordMax+1, 1), chain(impl.WordMax+1, 26), chain(impl.NodeMax-1, 26), withState(chain(impl.WordMax+1, 1), impl.WordMax, state(true, 'a', impl.WordMax+1)), withState(chain(impl.WordMax+1, 1), 0, state(false, 'a', 1, 'b', 13)), withState(chain(impl.WordMax+2, 1), 0, state(true, 'a', 13, 'b', 2)),
		append(withState(chain(impl.NodeMax-1, 26), 0, state(true, 'a', impl.NodeMax-1)), end), slices.Repeat([]impl.State{end}, 100000),
	}
}

// P13, P14: which machines are ok.
func TestMachineOk(t *testing.T) {
	for i, m := range goodMachines() {
		if !impl.MachineOk(m) {
			t.Errorf("%d is not ok", i)
		}
	}
	for i, m := range badMachines() {
		if impl.MachineOk(m) {
			t.Errorf("%d is ok", i)
		}
	}
	for letter := -300; letter < 600; letter++ {
		m := []impl.State{{Edges: []impl.Edge{{Letter: letter, To: 1}}}, {Ends: true}}
		if ok := letter >= 'a' && letter <= 'z'; impl.MachineOk(m) != ok {
			t.Errorf("letter %d: %v", letter, !ok)
		}
	}
}

// P14, P16: of a machine that is not ok nothing is known.
func TestBadMachines(t *testing.T) {
	for i, m := range badMachines() {
		if impl.MachineCount(m) != 0 {
			t.Errorf("%d: %d texts", i, impl.MachineCount(m))
		}
		for _, word := range []string{"", "a", "aa", "b", "A", "`", "{", "aaaaaaaaaaaaa"} {
			if impl.MachineKnows(m, word) || impl.MachineRank(m, word) != -1 {
				t.Errorf("%d knows %q", i, word)
			}
		}
		for rank := -1; rank < 3; rank++ {
			if word := impl.MachineWord(m, rank); word != "" {
				t.Errorf("%d: %q", i, word)
			}
		}
	}
}

// textsFrom is all texts that lead from a state to an end, in order.
func textsFrom(m []impl.State, at int) []string {
	var list []string
	if m[at].Ends {
		list = append(list, "")
	}
	for _, e := range m[at].Edges {
		for _, text := range textsFrom(m, e.To) {
			list = append(list, string(rune(e.Letter))+text)
		}
	}
	return list
}

// someMachine is some machine that is ok, of few texts; some of its states may be alike, or led to by nothing.
func someMachine(r *rand.Rand) []impl.State {
	m := make([]impl.State, 1+r.Intn(7))
	for at := range m {
		m[at].Ends = r.Intn(3) == 0
		for _, c := range "abz" {
			if at+1 < len(m) && r.Intn(2) == 0 {
				m[at].Edges = append(m[at].Edges, impl.Edge{Letter: int(c), To: at + 1 + r.Intn(len(m)-at-1)})
			}
		}
		if at > 0 && len(m[at].Edges) == 0 {
			m[at].Ends = true
		}
	}
	return m
}

// P14, P15, P16: of many machines: what is known, how much, and of which ranks.
func TestManyMachines(t *testing.T) {
	r := rand.New(rand.NewSource(12))
	others := append(textsOver("abz", 4), notWords...)
	emptyKnown := false
	for range 1500 {
		m := someMachine(r)
		texts := textsFrom(m, 0)
		wantAscending(t, "texts", texts)
		checkMachine(t, m, texts, others)
		emptyKnown = emptyKnown || len(texts) > 1 && texts[0] == ""
	}
	if !emptyKnown {
		t.Error("no machine knows the empty text")
	}
}

// P14, P15, P16: the empty text may be known, and is the first then.
func TestEmptyTextKnown(t *testing.T) {
	m := []impl.State{state(true, 'a', 1), state(true)}
	if !impl.MachineKnows(m, "") || impl.MachineRank(m, "") != 0 || impl.MachineRank(m, "a") != 1 || impl.MachineCount(m) != 2 || impl.MachineWord(m, 0) != "" || impl.MachineWord(m, 1) != "a" || impl.MachineWord(m, 2) != "" {
		t.Errorf("%v", m)
	}
	m[0].Ends = false
	if impl.MachineKnows(m, "") || impl.MachineRank(m, "") != -1 || impl.MachineRank(m, "a") != 0 || impl.MachineCount(m) != 1 || impl.MachineWord(m, 0) != "a" {
		t.Errorf("%v", m)
	}
	only := []impl.State{state(true)}
	if !impl.MachineKnows(only, "") || impl.MachineCount(only) != 1 || impl.MachineRank(only, "") != 0 || impl.MachineRank(only, "a") != -1 {
		t.Errorf("%v", only)
	}
}

// P14, P15, P16: just below a thousand million texts there are ranks; from there on there are none, but texts are known.
func TestThousandMillion(t *testing.T) {
	less := oneLess(9)
	if n := impl.MachineCount(less); n != thousandMillion-1 {
		t.Fatalf("%d texts", n)
	}
	for _, c := range []struct {
		word string
		rank int
	}{{"aaaaaaaaa", 0}, {"aaaaaaaab", 1}, {"aaaaaaaba", 10}, {"bcdefghij", 123456789}, {"jjjjjjjji", 999999998}, {"jjjjjjjia", 999999980}} {
		if !impl.MachineKnows(less, c.word) || impl.MachineRank(less, c.word) != c.rank || impl.MachineWord(less, c.rank) != c.word {
			t.Errorf("%q: %d, %d: %q", c.word, impl.MachineRank(less, c.word), c.rank, impl.MachineWord(less, c.rank))
		}
	}
	for _, rank := range []int{-1, thousandMillion - 1, thousandMillion} {
		if word := impl.MachineWord(less, rank); word != "" {
			t.Errorf("%d: %q", rank, word)
		}
	}
	if impl.MachineKnows(less, "jjjjjjjjj") || impl.MachineRank(less, "jjjjjjjjj") != -1 {
		t.Error("the last one is known")
	}
	withEmpty := withState(less, 0, impl.State{Ends: true, Edges: less[0].Edges})
	for i, m := range [][]impl.State{chain(9, 10), withEmpty, chain(10, 8), chain(impl.WordMax, 26), chain(impl.WordMax, 20)} {
		if !impl.MachineOk(m) || impl.MachineCount(m) != thousandMillion {
			t.Errorf("%d: %d texts", i, impl.MachineCount(m))
		}
		first := strings.Repeat("a", len(m)-1)
		if i == 1 {
			first = "aaaaaaaaa"
		}
		if !impl.MachineKnows(m, first) || impl.MachineKnows(m, first+"a") {
			t.Errorf("%d: %q is not known, or more is", i, first)
		}
		if rank := impl.MachineRank(m, first); rank != -1 {
			t.Errorf("%d: rank %d", i, rank)
		}
		for _, rank := range []int{-1, 0, 1, thousandMillion - 1, thousandMillion, 1 << 40} {
			if word := impl.MachineWord(m, rank); word != "" {
				t.Errorf("%d: rank %d: %q", i, rank, word)
			}
		}
	}
}

// P14, P16: states to which nothing leads add nothing, however much leads on from them.
func TestStatesLeftOut(t *testing.T) {
	m := withState(chain(impl.NodeMax-1, 26), 0, state(true, 'b', impl.NodeMax-1))
	if !impl.MachineOk(m) || impl.MachineCount(m) != 2 || impl.MachineRank(m, "b") != 1 || impl.MachineWord(m, 1) != "b" || impl.MachineKnows(m, "a") || impl.MachineKnows(m, "bb") {
		t.Errorf("%d texts", impl.MachineCount(m))
	}
}

// machineRoom is a machine of the same states, with other states and edges behind its ends.
func machineRoom(m []impl.State) []impl.State {
	room := withRoom(m, state(true, 'x', 7))
	for at := range room {
		room[at].Edges = withRoom(room[at].Edges, impl.Edge{Letter: 'x', To: 9})
	}
	return room
}

// wholeMachine is a copy of all of a machine, spare room included.
func wholeMachine(m []impl.State) []impl.State {
	all := slices.Clone(m[:cap(m)])
	for at := range all {
		all[at].Edges = slices.Clone(all[at].Edges[:cap(all[at].Edges)])
	}
	return all
}

// What was handed in is not changed, nor what stands behind its end.
func TestMachineIsLeftAlone(t *testing.T) {
	r := rand.New(rand.NewSource(13))
	for i := range 60 {
		words := withRoom(someWords(r, "abc", 12, 4), "zz")
		kept := slices.Clone(words[:cap(words)])
		if m, ok := impl.MachineOf(words); !ok || !sameMachine(m, machineByWords(words)) || !slices.Equal(kept, words[:cap(words)]) {
			t.Fatalf("%q: %v, %q", words, m, words[:cap(words)])
		}
		m := machineRoom(someMachine(r))
		if bad := badMachines(); i < len(bad) && len(bad[i]) > 0 {
			m = machineRoom(bad[i])
		}
		want := wholeMachine(m)
		impl.MachineOk(m)
		impl.MachineCount(m)
		for rank := range 5 {
			word := impl.MachineWord(m, rank)
			impl.MachineKnows(m, word)
			impl.MachineRank(m, word)
			impl.MachineGuesses(m, word)
		}
		if !reflect.DeepEqual(want, wholeMachine(m)) {
			t.Fatalf("changed: %v", m)
		}
	}
}

// A machine shares no memory with the words, or with another answer, and no two of its lists share any.
func TestMachineIsNew(t *testing.T) {
	r := rand.New(rand.NewSource(14))
	for range 60 {
		words := withRoom(someWords(r, "abc", 12, 4), "zz")
		want := machineByWords(words)
		m, _ := impl.MachineOf(words)
		other, _ := impl.MachineOf(words)
		spoil(words, "gone")
		for at := range other {
			spoil(other[at].Edges, impl.Edge{Letter: 'x', To: 77})
		}
		spoil(other, impl.State{})
		if !sameMachine(m, want) {
			t.Fatalf("%v, want %v", m, want)
		}
		for at := range m {
			// What is written into one list, and behind its end, is in no other one.
			spoil(m[at].Edges, impl.Edge{Letter: 'x', To: 77})
			m[at].Edges = nil
			if !sameMachine(m[at+1:], want[at+1:]) {
				t.Fatalf("%d shares memory: %v, want %v", at, m, want)
			}
		}
	}
}
