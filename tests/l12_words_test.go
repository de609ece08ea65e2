package tests

import (
	"math"
	"math/rand"
	"reflect"
	"slices"
	"strconv"
	"strings"
	"testing"

	"loop.example/medlar/impl"
)

// machineOfWords is the machine of words that has one.
func machineOfWords(t *testing.T, words ...string) []impl.State {
	t.Helper()
	m, ok := impl.MachineOf(words)
	if !ok {
		t.Fatalf("no machine of %q", words)
	}
	return m
}

// wantAll fails if what a machine knows is not told, or told though it is more than most.
func wantAll(t *testing.T, m []impl.State, words []string) {
	t.Helper()
	for _, most := range []int{math.MinInt, -300, -1, 0, 1, len(words) - 1, len(words), len(words) + 1, 299, 300, 301, 302, math.MaxInt} {
		got, ok := impl.MachineAll(m, most)
		if most < 0 || most > 300 || len(words) > most {
			if ok || len(got) > 0 {
				t.Errorf("%d of %d: %.80q %v", most, len(words), got, ok)
			}
		} else if !ok || !slices.Equal(got, words) {
			t.Errorf("%d of %q: %q %v", most, words, got, ok)
		}
	}
}

// wantNotAll fails if a machine tells all that it knows.
func wantNotAll(t *testing.T, m []impl.State) {
	t.Helper()
	for _, most := range []int{-1, 0, 1, 2, 299, 300, 301, math.MaxInt} {
		if got, ok := impl.MachineAll(m, most); ok || len(got) > 0 {
			t.Errorf("%s: %d: %.80q %v", toldMachine(m), most, got, ok)
		}
	}
}

// countedMachine is a machine that knows so many words, of 27 to 676: of two letters each.
func countedMachine(count int) []impl.State {
	m := []impl.State{state(false), state(false), state(false), state(true)}
	for letter := 'a'; letter <= 'z'; letter++ {
		m[1].Edges = append(m[1].Edges, impl.Edge{Letter: int(letter), To: 3})
		if int(letter-'a') < count/26 {
			m[0].Edges = append(m[0].Edges, impl.Edge{Letter: int(letter), To: 1})
		}
		if int(letter-'a') < count%26 {
			m[2].Edges = append(m[2].Edges, impl.Edge{Letter: int(letter), To: 3})
		}
	}
	if count%26 > 0 {
		m[0].Edges = append(m[0].Edges, impl.Edge{Letter: 'a' + count/26, To: 2})
	} else {
		m[2].Ends = true
	}
	return m
}

// P68: all words of a machine are told, in order, if they are at most most.
func TestMachineAll(t *testing.T) {
	wantAll(t, machineOfWords(t), nil)
	wantAll(t, machineOfWords(t, "a"), []string{"a"})
	wantAll(t, machineOfWords(t, "cat", "cats", "do"), []string{"cat", "cats", "do"})
	long := []string{strings.Repeat("a", impl.WordMax-1), strings.Repeat("a", impl.WordMax), strings.Repeat("z", impl.WordMax)}
	wantAll(t, machineOfWords(t, long...), long)
	for _, n := range []int{1, 40, 299, 300} {
		wantAll(t, machineOfWords(t, manyWords(n)...), manyWords(n))
	}
	for _, n := range []int{27, 52, 298, 299, 300, 301, 302, 312, 600, 676} {
		m := countedMachine(n)
		if !impl.MachineOk(m) || impl.MachineCount(m) != n {
			t.Fatalf("%d texts, want %d", impl.MachineCount(m), n)
		}
		wantAll(t, m, textsFrom(m, 0))
	}
	// What leads to no state is not told, however much it knows.
	wantAll(t, withState(chain(impl.NodeMax-1, 26), 0, state(false, 'b', impl.NodeMax-1)), []string{"b"})
}

// P68: of a machine that knows the empty text, too much, or is not ok, nothing is told.
func TestMachineAllRefuses(t *testing.T) {
	for _, m := range append(badMachines(), []impl.State{state(true)}, []impl.State{state(true, 'a', 1), state(true)}, withState(countedMachine(40), 0, state(true, 'a', 1)), chain(9, 10), oneLess(9), chain(impl.WordMax, 26), chain(impl.WordMax, 2), countedMachine(301)) {
		wantNotAll(t, m)
	}
}

// beginsByWords is MachineBegins of a machine that is ok and knows few texts, as the document says it.
func beginsByWords(m []impl.State, ahead string, most int) []string {
	var list []string
	for _, text := range textsFrom(m, 0) {
		if strings.HasPrefix(text, ahead) && len(list) < most {
			list = append(list, text)
		}
	}
	return list
}

// P69: words that begin with a text, in order, the first so many.
func TestMachineBegins(t *testing.T) {
	m := machineOfWords(t, "ca", "cat", "cats", "cot", "do", "dog", "dogs", "z")
	for _, c := range []struct {
		ahead string
		most  int
		want  string
	}{
		{"", 40, "ca cat cats cot do dog dogs z"}, {"", 3, "ca cat cats"}, {"", 1, "ca"}, {"", 0, ""}, {"c", 40, "ca cat cats cot"}, {"c", 4, "ca cat cats cot"}, {"c", 3, "ca cat cats"}, {"ca", 2, "ca cat"}, {"ca", 1, "ca"}, {"ca", 0, ""}, {"cat", 9, "cat cats"}, {"cats", 9, "cats"}, {"catss", 9, ""}, {"co", 9, "cot"}, {"d", 2, "do dog"}, {"z", 40, "z"}, {"z", 1, "z"}, {"z", 0, ""},
		{"x", 9, ""}, {"b", 9, ""}, {"zz", 9, ""}, {"cb", 9, ""}, {"C", 9, ""}, {" ", 9, ""}, {"c ", 9, ""}, {"\x00", 9, ""}, {"ca\x00", 9, ""}, {"\xff", 9, ""}, {"é", 9, ""}, {"c\n", 9, ""}, {strings.Repeat("c", 100000), 9, ""}, {"ca" + strings.Repeat("t", 100000), 9, ""},
		{"ca", -1, ""}, {"ca", 41, ""}, {"", 41, ""}, {"", 300, ""}, {"", math.MinInt, ""}, {"", math.MaxInt, ""},
	} {
		wantList(t, c.ahead+" "+strconv.Itoa(c.most), impl.MachineBegins(m, c.ahead, c.most), strings.Fields(c.want)...)
	}
	// The empty text, if it is known, is the first of all.
	empty := []impl.State{state(true, 'a', 1, 'b', 1), state(true)}
	wantList(t, "the empty text", impl.MachineBegins(empty, "", 2), "", "a")
	wantList(t, "the empty text alone", impl.MachineBegins(empty, "", 1), "")
	wantList(t, "no text", impl.MachineBegins(empty, "", 0))
	wantList(t, "a text that is known", impl.MachineBegins(empty, "a", 9), "a")
	wantList(t, "nothing known", impl.MachineBegins([]impl.State{state(false)}, "", 9))
	wantList(t, "only the empty text", impl.MachineBegins([]impl.State{state(true)}, "", 9), "")
	wantList(t, "behind the empty text", impl.MachineBegins([]impl.State{state(true)}, "a", 9))
}

// P69: of machines that know very much the first are told, and 40 at most.
func TestMachineBeginsMuch(t *testing.T) {
	m := chain(impl.WordMax, 26)
	var want []string
	for i := range 40 {
		want = append(want, "zz"+strings.Repeat("a", 8)+small[i/26:i/26+1]+small[i%26:i%26+1])
	}
	wantList(t, "zz", impl.MachineBegins(m, "zz", 40), want...)
	wantList(t, "zz, one", impl.MachineBegins(m, "zz", 1), want[0])
	wantList(t, "zz, one too many", impl.MachineBegins(m, "zz", 41))
	wantList(t, "all, below 0", impl.MachineBegins(m, "", -1))
	wantList(t, "twelve letters", impl.MachineBegins(m, "zzzzzzzzzzzz", 40), "zzzzzzzzzzzz")
	wantList(t, "thirteen letters", impl.MachineBegins(m, "zzzzzzzzzzzzz", 40))
	wantList(t, "eleven letters", impl.MachineBegins(m, "zzzzzzzzzzz", 40), want26("zzzzzzzzzzz")...)
	for _, n := range []int{39, 40, 41} {
		wantList(t, strconv.Itoa(n)+" words", impl.MachineBegins(machineOfWords(t, manyWords(n)...), "", 40), manyWords(min(n, 40))...)
	}
	for i, m := range badMachines() {
		for _, ahead := range []string{"", "a", "aa", "b"} {
			if got := impl.MachineBegins(m, ahead, 9); len(got) > 0 {
				t.Errorf("%d: %q: %q", i, ahead, got)
			}
		}
	}
}

// want26 is a text with each letter behind it.
func want26(ahead string) []string {
	var list []string
	for i := range small {
		list = append(list, ahead+small[i:i+1])
	}
	return list
}

// P68, P69: of many machines all words are those of ranks 0, 1, 2 and so on, and those that begin with a text are the first that do.
func TestWordsOfManyMachines(t *testing.T) {
	r := rand.New(rand.NewSource(1205))
	aheads := append(textsOver("abz", 4), notWords...)
	for range 600 {
		m := storedMachine(r)
		texts := textsFrom(m, 0)
		if impl.MachineKnows(m, "") {
			wantNotAll(t, m)
		} else {
			wantAll(t, m, texts)
			all, _ := impl.MachineAll(m, 300)
			for rank, word := range all {
				if impl.MachineWord(m, rank) != word || len(all) != impl.MachineCount(m) {
					t.Fatalf("rank %d of %q: %q", rank, all, impl.MachineWord(m, rank))
				}
			}
		}
		for _, ahead := range aheads {
			most := r.Intn(41)
			if r.Intn(2) == 0 {
				most = r.Intn(4)
			}
			if got := impl.MachineBegins(m, ahead, most); !slices.Equal(got, beginsByWords(m, ahead, most)) {
				t.Fatalf("%q of %q, %d: %q", ahead, texts, most, got)
			}
		}
	}
}

// ofTwo is one of the functions that make a machine of two, with whom it asks for.
type ofTwo struct {
	name   string
	do     func(a []impl.State, b []impl.State) ([]impl.State, bool)
	chosen func(one bool, other bool) bool
}

// allOfTwo are all of them.
func allOfTwo() []ofTwo {
	return []ofTwo{
		{"any", impl.MachineAny, func(one bool, other bool) bool { return one || other }},
		{"both", impl.MachineBoth, func(one bool, other bool) bool { return one && other }},
		{"less", impl.MachineLess, func(one bool, other bool) bool { return one && !other }},
	}
}

// chosenWords are words of one list or the other, in order, that are asked for.
func chosenWords(f ofTwo, a []string, b []string) []string {
	var list []string
	for _, word := range slices.Concat(a, b) {
		if f.chosen(slices.Contains(a, word), slices.Contains(b, word)) && !slices.Contains(list, word) {
			list = append(list, word)
		}
	}
	slices.Sort(list)
	return list
}

// wantOfTwo fails if the machines of two are not those of the words that are asked for.
func wantOfTwo(t *testing.T, a []impl.State, b []impl.State) {
	t.Helper()
	ofA, ofB := textsFrom(a, 0), textsFrom(b, 0)
	counts := map[string]int{}
	for _, f := range allOfTwo() {
		words := chosenWords(f, ofA, ofB)
		want := machineByWords(words)
		m, ok := f.do(a, b)
		if fits := len(words) <= 300 && len(want) <= 400; ok != fits || ok && !sameMachine(m, want) || !ok && len(m) > 0 {
			t.Fatalf("%s of %q and %q: %s %v, want %s", f.name, ofA, ofB, toldMachine(m), ok, toldMachine(want))
		}
		for _, word := range slices.Concat(ofA, ofB, []string{"", "none", "zzz"}) {
			if ok && impl.MachineKnows(m, word) != f.chosen(impl.MachineKnows(a, word), impl.MachineKnows(b, word)) {
				t.Fatalf("%s of %q and %q: %q", f.name, ofA, ofB, word)
			}
		}
		counts[f.name] = len(words)
		if ok && impl.MachineCount(m) != len(words) {
			t.Fatalf("%s of %q and %q: %d", f.name, ofA, ofB, impl.MachineCount(m))
		}
	}
	if counts["any"] != len(ofA)+len(ofB)-counts["both"] || counts["less"] != len(ofA)-counts["both"] {
		t.Fatalf("%q and %q: %v", ofA, ofB, counts)
	}
}

// wantNoneOfTwo fails if there is a machine of two.
func wantNoneOfTwo(t *testing.T, a []impl.State, b []impl.State) {
	t.Helper()
	for _, f := range allOfTwo() {
		for _, two := range [][2][]impl.State{{a, b}, {b, a}} {
			if m, ok := f.do(two[0], two[1]); ok || len(m) > 0 {
				t.Errorf("%s: %s %v", f.name, toldMachine(m), ok)
			}
		}
	}
}

// P70: machines of two: one knows nothing, both know the same, none knows what the other does, some do.
func TestMachinesOfTwo(t *testing.T) {
	lists := []string{"", "a", "b", "cat do", "do dog", "cat cats do", "dog dogs", "cats", "a aa aaa", "aa", "ab bb", "zzzzzzzzzzzz", "aaaaaaaaaaaa zzzzzzzzzzzz"}
	for _, a := range lists {
		for _, b := range lists {
			wantOfTwo(t, machineOfWords(t, strings.Fields(a)...), machineOfWords(t, strings.Fields(b)...))
		}
	}
	a, b := machineOfWords(t, "cat", "do"), machineOfWords(t, "do", "dog")
	for i, want := range []string{"cat do dog", "do", "cat"} {
		if m, ok := allOfTwo()[i].do(a, b); !ok || !sameMachine(m, machineOfWords(t, strings.Fields(want)...)) {
			t.Errorf("%s: %s %v", want, toldMachine(m), ok)
		}
	}
	if m, ok := impl.MachineLess(b, a); !ok || !sameMachine(m, machineOfWords(t, "dog")) {
		t.Errorf("dog: %s %v", toldMachine(m), ok)
	}
	// Machines that are not the least ones of their words.
	same := []impl.State{state(false, 'a', 1, 'b', 2), state(true), state(true), state(true, 'x', 4), state(true)}
	wantOfTwo(t, same, same)
	wantOfTwo(t, same, machineOfWords(t, "a"))
	wantOfTwo(t, countedMachine(100), countedMachine(130))
}

// P70: many machines of two.
func TestMachinesOfTwoMany(t *testing.T) {
	r := rand.New(rand.NewSource(1206))
	made := 0
	for range 1500 {
		a, b := storedMachine(r), storedMachine(r)
		if impl.MachineKnows(a, "") || impl.MachineKnows(b, "") {
			wantNoneOfTwo(t, a, b)
			continue
		}
		if impl.MachineCount(a)+impl.MachineCount(b) < 60 {
			wantOfTwo(t, a, b)
			made++
		}
	}
	if made < 300 {
		t.Errorf("only %d", made)
	}
}

// P70: 300 words of each, and of both, are met exactly; one more of one is refused, and one more of both, where it would be known.
func TestMachinesOfTwoLimits(t *testing.T) {
	wantOfTwo(t, countedMachine(300), countedMachine(300))
	wantOfTwo(t, countedMachine(300), countedMachine(299))
	wantOfTwo(t, countedMachine(300), machineOfWords(t))
	wantOfTwo(t, countedMachine(300), machineOfWords(t, "zz"))
	wantOfTwo(t, countedMachine(299), machineOfWords(t, "zz"))
	wantOfTwo(t, machineOfWords(t, manyWords(300)...), machineOfWords(t, "zz"))
	wantOfTwo(t, machineOfWords(t, manyWords(300)[:200]...), machineOfWords(t, manyWords(300)[100:]...))
	wantOfTwo(t, machineOfWords(t, manyWords(300)...), countedMachine(300))
	for _, n := range []int{impl.NodeMax, impl.NodeMax + 1} {
		words := wordsOfStates(t, n)
		half := len(words) / 2
		wantOfTwo(t, machineOfWords(t, words[:half]...), machineOfWords(t, words[half:]...))
	}
	fine := machineOfWords(t, "a", "b")
	for _, m := range append(badMachines(), countedMachine(301), chain(9, 10), oneLess(9), chain(impl.WordMax, 26), []impl.State{state(true)}, []impl.State{state(true, 'a', 1), state(true)}) {
		wantNoneOfTwo(t, m, fine)
		wantNoneOfTwo(t, m, machineOfWords(t))
		wantNoneOfTwo(t, m, m)
	}
}

// placesOfMachine is where all lists of a machine are.
func placesOfMachine(what string, m []impl.State) []place {
	list := []place{placeOf(what, m)}
	for at, s := range m {
		list = append(list, placeOf(what+", edges of "+strconv.Itoa(at), s.Edges))
	}
	return list
}

// What was handed in is not changed, nor what stands behind its end; no answer shares memory with it, or with another answer.
func TestStoredAreNew(t *testing.T) {
	r := rand.New(rand.NewSource(1207))
	for range 300 {
		a, b := machineRoom(storedMachine(r)), machineRoom(storedMachine(r))
		keptA, keptB := wholeMachine(a), wholeMachine(b)
		places := append(placesOfMachine("one", a), placesOfMachine("other", b)...)
		var machines [][]impl.State
		var lists [][]string
		for range 2 {
			read, _ := impl.MachineGet(impl.MachinePut(a))
			machines = append(machines, read)
			for _, f := range allOfTwo() {
				m, _ := f.do(a, b)
				same, _ := f.do(a, a)
				machines = append(machines, m, same)
			}
			all, _ := impl.MachineAll(a, 300)
			lists = append(lists, all, impl.MachineBegins(a, "", 40), impl.MachineBegins(a, "a", 2))
		}
		if !reflect.DeepEqual(keptA, wholeMachine(a)) || !reflect.DeepEqual(keptB, wholeMachine(b)) {
			t.Fatal("an argument is changed")
		}
		for i, m := range machines {
			places = append(places, placesOfMachine("machine "+strconv.Itoa(i), m)...)
		}
		for i, list := range lists {
			places = append(places, placeOf("list "+strconv.Itoa(i), list))
		}
		wantApart(t, places)
		for i := range 7 {
			if !sameMachine(machines[i], machines[i+7]) {
				t.Fatal("answers change from call to call")
			}
		}
		for i := range 3 {
			spoil(lists[i], "gone")
			if slices.Contains(lists[i+3], "gone") {
				t.Fatal("answers share memory")
			}
		}
	}
}

// Machines are answered whatever they are made of.
func TestAnyStored(t *testing.T) {
	r := rand.New(rand.NewSource(1208))
	ok := 0
	for range 20000 {
		m := make([]impl.State, r.Intn(5))
		for at := range m {
			m[at].Ends = r.Intn(2) == 0
			for range r.Intn(3) {
				m[at].Edges = append(m[at].Edges, impl.Edge{Letter: 'a' + r.Intn(4) - r.Intn(12)/11, To: at + 1 + r.Intn(2) - r.Intn(9)/8})
			}
			slices.SortFunc(m[at].Edges, func(a, b impl.Edge) int { return a.Letter - b.Letter })
		}
		most := r.Intn(44) - 2
		text := impl.MachinePut(m)
		read, fine := impl.MachineGet(text)
		all, told := impl.MachineAll(m, most)
		begins := impl.MachineBegins(m, textOf(r, "ab\xff", r.Intn(3)), most)
		both, one := impl.MachineBoth(m, m)
		if !impl.MachineOk(m) {
			if text != "" || fine || told || len(all) > 0 || len(begins) > 0 || one || len(both) > 0 {
				t.Fatalf("%v: %q %q %q %v", m, text, all, begins, both)
			}
			continue
		}
		ok++
		if text != machineBytes(m) || !fine || !sameMachine(read, m) || told != (!m[0].Ends && most >= 0 && impl.MachineCount(m) <= most) || one == m[0].Ends || len(begins) > max(most, 0) {
			t.Fatalf("%v: %q %q %q %v", m, text, all, begins, both)
		}
	}
	if ok < 1000 {
		t.Errorf("only %d are ok", ok)
	}
}
