package tests

import (
	"fmt"
	"math/rand"
	"slices"
	"strings"
	"testing"

	"loop.example/medlar/impl"
)

// sameMachine says whether two machines are the same; the empty list and the nil list are.
func sameMachine(a []impl.State, b []impl.State) bool {
	return slices.EqualFunc(a, b, func(x impl.State, y impl.State) bool {
		return x.Ends == y.Ends && slices.Equal(x.Edges, y.Edges)
	})
}

// state reads how states are told here: whether a word ends there, and a letter and a place for each edge.
func state(ends bool, edges ...any) impl.State {
	s := impl.State{Ends: ends}
	for i := 0; i < len(edges); i += 2 {
		s.Edges = append(s.Edges, impl.Edge{Letter: int(edges[i].(rune)), To: edges[i+1].(int)})
	}
	return s
}

// endsBehind is what words have behind a beginning, in order.
func endsBehind(words []string, ahead string) []string {
	var list []string
	for _, word := range words {
		if strings.HasPrefix(word, ahead) {
			list = append(list, word[len(ahead):])
		}
	}
	return list
}

// endsLess says whether a state of some ends stands ahead of one of others, as the document says it.
func endsLess(a []string, b []string) bool {
	longest := func(list []string) int {
		n := 0
		for _, end := range list {
			n = max(n, len(end))
		}
		return n
	}
	if longest(a) != longest(b) {
		return longest(a) > longest(b)
	}
	for i := 0; i < len(a) && i < len(b); i++ {
		if a[i] != b[i] {
			return a[i] < b[i]
		}
	}
	return len(a) < len(b)
}

// setsByWords is all sets of ends that words have behind their beginnings, in the order of states.
func setsByWords(words []string) [][]string {
	sets := [][]string{endsBehind(words, "")}
	seen := map[string]bool{strings.Join(words, ","): true}
	for _, word := range words {
		for n := range len(word) {
			set := endsBehind(words, word[:n+1])
			if key := strings.Join(set, ","); !seen[key] {
				seen[key] = true
				sets = append(sets, set)
			}
		}
	}
	slices.SortFunc(sets, func(a []string, b []string) int {
		if endsLess(a, b) {
			return -1
		}
		return 1
	})
	return sets
}

// machineByWords is MachineOf, as the document says it, however many states there are.
func machineByWords(words []string) []impl.State {
	sets := setsByWords(words)
	var m []impl.State
	for _, set := range sets {
		s := impl.State{Ends: slices.Contains(set, "")}
		for _, c := range small {
			behind := endsBehind(set, string(c))
			if len(behind) == 0 {
				continue
			}
			to := slices.IndexFunc(sets, func(other []string) bool { return slices.Equal(other, behind) })
			s.Edges = append(s.Edges, impl.Edge{Letter: int(c), To: to})
		}
		m = append(m, s)
	}
	return m
}

// someWords is some list of words, in order, each once.
func someWords(r *rand.Rand, letters string, most int, longest int) []string {
	var list []string
	for range r.Intn(most + 1) {
		list = append(list, textOf(r, letters, 1+r.Intn(longest)))
	}
	slices.Sort(list)
	return slices.Compact(list)
}

// manyWords is so many words of few states.
func manyWords(n int) []string {
	list := textsOver("abcdefg", 3)[1:]
	slices.Sort(list)
	return list[:n]
}

// wordsOfStates is words whose least machine has so many states.
func wordsOfStates(t *testing.T, states int) []string {
	t.Helper()
	r := rand.New(rand.NewSource(7))
	var list []string
	have := 1
	for range 100000 {
		more := append(slices.Clone(list), textOf(r, small, 1+r.Intn(impl.WordMax)))
		slices.Sort(more)
		more = slices.Compact(more)
		if n := len(setsByWords(more)); n <= states && n >= have {
			list, have = more, n
		}
		if have == states {
			return list
		}
	}
	t.Fatalf("no words of %d states", states)
	return nil
}

// badLists are lists that are not words, ascending, each once, and at most 300.
func badLists() [][]string {
	lists := [][]string{
		{"b", "a"}, {"a", "a"}, {"cats", "cat"}, {"a", "b", "a"}, {"a", "c", "b"}, {"a", "b", "b"}, {"a", "b", ""},
		manyWords(301), append(manyWords(300), "zzz"), slices.Repeat([]string{"a"}, 100000),
	}
	for _, text := range notWords {
		lists = append(lists, []string{text})
		mixed := []string{"cat", text, "dog"}
		slices.Sort(mixed)
		lists = append(lists, mixed)
	}
	return lists
}

// P13: machines of few words, state by state.
func TestMachineOfFew(t *testing.T) {
	end := state(true)
	for _, c := range []struct {
		words string
		want  []impl.State
	}{
		{"", []impl.State{state(false)}},
		{"a", []impl.State{state(false, 'a', 1), end}},
		{"a z", []impl.State{state(false, 'a', 1, 'z', 1), end}},
		{"a aa aaa", []impl.State{state(false, 'a', 1), state(true, 'a', 2), state(true, 'a', 3), end}},
		{"cat cats rat rats", []impl.State{state(false, 'c', 1, 'r', 1), state(false, 'a', 2), state(false, 't', 3), state(true, 's', 4), end}},
		// The longest end comes first, whatever its letters.
		{"aa bcc", []impl.State{state(false, 'a', 2, 'b', 1), state(false, 'c', 3), state(false, 'a', 4), state(false, 'c', 4), end}},
		// Of ends that begin alike those that are fewer come first.
		{"xa xb ya", []impl.State{state(false, 'x', 2, 'y', 1), state(false, 'a', 3), state(false, 'a', 3, 'b', 3), end}},
		// The empty end is ahead of others.
		{"xa y ya", []impl.State{state(false, 'x', 2, 'y', 1), state(true, 'a', 3), state(false, 'a', 3), end}},
		// End by end: `b` and `c` are told apart by the second end alone.
		{"xa xc ya yb", []impl.State{state(false, 'x', 2, 'y', 1), state(false, 'a', 3, 'b', 3), state(false, 'a', 3, 'c', 3), end}},
		// By the longest end, not by the first one, nor by how many there are.
		{"xb xbb xc yccc", []impl.State{state(false, 'x', 2, 'y', 1), state(false, 'c', 3), state(false, 'b', 4, 'c', 6), state(false, 'c', 5), state(true, 'b', 6), state(false, 'c', 6), end}},
	} {
		words := strings.Fields(c.words)
		got, ok := impl.MachineOf(words)
		if !ok || !sameMachine(got, c.want) {
			t.Errorf("%s: %v %v, want %v", c.words, got, ok, c.want)
		}
		if by := machineByWords(words); !sameMachine(by, c.want) {
			t.Errorf("%s: by the document's words %v, want %v", c.words, by, c.want)
		}
	}
}

// checkMachine fails if a machine does not know just some words, in order.
func checkMachine(t *testing.T, m []impl.State, words []string, others []string) {
	t.Helper()
	if !impl.MachineOk(m) || impl.MachineCount(m) != len(words) {
		t.Fatalf("%q: %d words of %v", words, impl.MachineCount(m), m)
	}
	for rank, word := range words {
		if !impl.MachineKnows(m, word) || impl.MachineRank(m, word) != rank || impl.MachineWord(m, rank) != word {
			t.Fatalf("%q of %q: %d %q", word, words, impl.MachineRank(m, word), impl.MachineWord(m, rank))
		}
	}
	for _, rank := range []int{-1, len(words), len(words) + 1, -1 << 62, 1 << 62} {
		if word := impl.MachineWord(m, rank); word != "" {
			t.Fatalf("rank %d of %d: %q", rank, len(words), word)
		}
	}
	for _, word := range others {
		if _, there := slices.BinarySearch(words, word); !there && (impl.MachineKnows(m, word) || impl.MachineRank(m, word) != -1) {
			t.Fatalf("%q is none of %q", word, words)
		}
	}
}

// P13: a machine of many words is the one that the document tells, and knows just these.
func TestMachineOfMany(t *testing.T) {
	r := rand.New(rand.NewSource(8))
	others := append(textsOver("ab", 4), notWords...)
	for i := range 600 {
		words := someWords(r, small[:1+i%4], 1+i%25, 1+i%7)
		m, ok := impl.MachineOf(words)
		if want := machineByWords(words); !ok || !sameMachine(m, want) {
			t.Fatalf("%q: %v %v, want %v", words, m, ok, want)
		}
		checkMachine(t, m, words, others)
	}
}

// P13: no two states of a machine are alike, and none is but for a beginning.
func TestMachineIsLeast(t *testing.T) {
	r := rand.New(rand.NewSource(9))
	for i := range 200 {
		m, _ := impl.MachineOf(someWords(r, small[:2+i%3], 40, 6))
		reached := map[int]bool{0: true}
		seen := map[string]int{}
		for at, s := range m {
			if other, twice := seen[fmt.Sprint(s)]; twice || !reached[at] {
				t.Fatalf("%d is as %d, or none comes there: %v", at, other, m)
			}
			seen[fmt.Sprint(s)] = at
			for _, e := range s.Edges {
				reached[e.To] = true
			}
		}
	}
}

// P13: 300 words, and NodeMax states, are met exactly; one more is refused.
func TestMachineOfLimits(t *testing.T) {
	if impl.NodeMax != 400 {
		t.Error("NodeMax")
	}
	for _, n := range []int{299, 300} {
		words := manyWords(n)
		m, ok := impl.MachineOf(words)
		if !ok || !sameMachine(m, machineByWords(words)) {
			t.Errorf("%d words: %v", n, ok)
		}
		checkMachine(t, m, words, manyWords(390))
	}
	for _, n := range []int{impl.NodeMax - 1, impl.NodeMax} {
		words := wordsOfStates(t, n)
		m, ok := impl.MachineOf(words)
		if !ok || len(m) != n || !sameMachine(m, machineByWords(words)) {
			t.Fatalf("%d states: %d %v", n, len(m), ok)
		}
		checkMachine(t, m, words, nil)
	}
	for _, n := range []int{impl.NodeMax + 1, impl.NodeMax + 2, 2 * impl.NodeMax} {
		if m, ok := impl.MachineOf(wordsOfStates(t, n)); ok || len(m) > 0 {
			t.Errorf("%d states: %d %v", n, len(m), ok)
		}
	}
	r := rand.New(rand.NewSource(10))
	var words []string
	for range 300 {
		words = append(words, textOf(r, small, impl.WordMax))
	}
	slices.Sort(words)
	if m, ok := impl.MachineOf(words); ok || len(m) > 0 {
		t.Errorf("300 long words: %d %v", len(m), ok)
	}
	long := []string{strings.Repeat("a", impl.WordMax), strings.Repeat("z", impl.WordMax)}
	m, ok := impl.MachineOf(long)
	if !ok || len(m) != 2*impl.WordMax {
		t.Errorf("%v %v", m, ok)
	}
	checkMachine(t, m, long, notWords)
}

// P13: there is no machine of what is not words, ascending, each once.
func TestMachineOfRefuses(t *testing.T) {
	for _, words := range badLists() {
		if m, ok := impl.MachineOf(words); ok || len(m) > 0 {
			t.Errorf("%.80q: %v %v", words, m, ok)
		}
	}
}

// P72: without one of its words a machine knows all others, in order, and not that one.
func TestMachineWithoutOne(t *testing.T) {
	r := rand.New(rand.NewSource(11))
	for i := range 60 {
		words := someWords(r, small[:2+i%3], 20, 5)
		for at, word := range words {
			fewer := slices.Delete(slices.Clone(words), at, at+1)
			m, ok := impl.MachineOf(fewer)
			if !ok || impl.MachineKnows(m, word) || impl.MachineRank(m, word) != -1 {
				t.Fatalf("%q is known without it, of %q", word, words)
			}
			checkMachine(t, m, fewer, words)
		}
	}
	if m, ok := impl.MachineOf([]string{}); !ok || impl.MachineKnows(m, "a") || impl.MachineKnows(m, "") || impl.MachineCount(m) != 0 {
		t.Errorf("without its only word: %v", m)
	}
}
