package tests

import (
	"math"
	"math/rand"
	"slices"
	"testing"

	"loop.example/g03112/impl"
)

func TestIsMachine(t *testing.T) {
	good := append(namedMachines(),
		machine(3, "0", 0, 0, 0, 1, 0, 2, 0, -1, 0, -1, 0, -1, 0, -1, 0, -1),
		machine(1, "11", 1, 0, 0, -1, 1, -1, 0, 0),
		impl.Machine{States: 9, Registers: 3, Accept: make([]bool, 9), Moves: make([]impl.Move, 72)})
	random := rand.New(rand.NewSource(70))
	for states := range impl.MaxStates {
		for registers := range impl.MaxRegisters + 1 {
			good = append(good, someMachine(random, states+1, registers))
		}
	}
	for _, m := range good {
		if !impl.IsMachine(m) {
			t.Errorf("%s: a valid machine", machineText(m))
		}
	}
	for why, m := range notMachines() {
		if impl.IsMachine(m) {
			t.Errorf("%s: no valid machine", why)
		}
	}
}

func TestRunMachine(t *testing.T) {
	three := impl.Machine{States: 1, Registers: 3, Accept: []bool{true}}
	for _, store := range atoms(0, 2, 1, -1, 1, -1, -1, -1) {
		three.Moves = append(three.Moves, impl.Move{To: 0, Store: store})
	}
	for _, c := range []struct {
		m     impl.Machine
		word  []int
		state int
		held  []int
	}{
		{everyWord(), nil, 0, nil},
		{everyWord(), atoms(0, 999), 0, nil},
		{lengthsModulo(9, 0), atoms(0, 999, 0, 0, 0, 0, 0, 0), 8, nil},
		{lengthsModulo(9, 0), atoms(0, 999, 0, 0, 0, 0, 0, 0, 0), 0, nil},
		{firstAgain(), nil, 0, atoms(-1)},
		{firstAgain(), atoms(5), 1, atoms(5)},
		{firstAgain(), atoms(5, 7), 1, atoms(5)},
		{firstAgain(), atoms(5, 7, 0, 5), 2, atoms(5)},
		{firstAgain(), atoms(999, 0, 0, 999, 0), 2, atoms(999)},
		{twiceRunning(), atoms(5, 7, 5), 0, atoms(5)}, // what was held before is overwritten
		{twiceRunning(), atoms(5, 7, 7, 5), 1, atoms(7)},
		{twiceRunningByTwo(), atoms(5), 1, atoms(5, -1)},
		{twiceRunningByTwo(), atoms(5, 7), 0, atoms(5, 7)},
		{twiceRunningByTwo(), atoms(5, 7, 5), 1, atoms(5, 7)},
		{twiceRunningByTwo(), atoms(5, 7, 8, 9), 0, atoms(8, 9)},
		{twiceRunningByTwo(), atoms(5, 5), 2, atoms(5, -1)}, // only the register 0: the other one is empty
		{twiceRunningByTwo(), atoms(5, 7, 7), 2, atoms(5, 7)},
		{sameInBoth(), atoms(4, 4), 2, atoms(4, 4)},
		{sameInBoth(), atoms(4, 4, 4), 3, atoms(4, 4)}, // both registers hold the letter
		{sameInBoth(), atoms(4, 5, 5), 4, atoms(4, 5)},
		{sameInBoth(), atoms(4, 5, 4), 4, atoms(4, 5)},
		{sameInBoth(), atoms(0, 0, 0), 3, atoms(0, 0)}, // 0 is no empty register
		{three, nil, 0, atoms(-1, -1, -1)},
		{three, atoms(0), 0, atoms(0, -1, -1)},
		{three, atoms(7, 7), 0, atoms(7, -1, 7)},       // the set with the number 1
		{three, atoms(7, 7, 7), 0, atoms(7, -1, 7)},    // the set with the number 5
		{three, atoms(7, 7, 8, 8), 0, atoms(8, -1, 8)}, // none, and then again 1
		{three, atoms(7, 7, 8, 7), 0, atoms(8, 7, 7)},  // the set with the number 4
		{three, atoms(7, 7, 8, 7, 7), 0, atoms(8, 7, 7)},
	} {
		state, held, ok := impl.RunMachine(c.m, c.word)
		if !ok || state != c.state || !slices.Equal(held, c.held) {
			t.Errorf("%s with %v: %d, %v, %v", machineText(c.m), c.word, state, held, ok)
		}
		if got := impl.AcceptsWord(c.m, c.word); got != c.m.Accept[c.state] {
			t.Errorf("%s with %v: accepted %v", machineText(c.m), c.word, got)
		}
	}
}

func TestAcceptsWord(t *testing.T) {
	for _, c := range []struct {
		m       impl.Machine
		in, out [][]int
	}{
		{everyWord(), [][]int{nil, {0}, {999, 0, 1, 2, 3, 4, 5, 6, 7}}, nil},
		{noWord(), nil, [][]int{nil, {0}, {999, 0, 1, 2, 3, 4, 5, 6, 7}}},
		{lengthsFrom(2), [][]int{{1, 2}, {1, 1}, {1, 2, 3}}, [][]int{nil, {1}}},
		{lengthsModulo(2, 0), [][]int{nil, {0, 0}, {0, 1, 2, 3}}, [][]int{{0}, {0, 1, 2}}},
		{firstAgain(), [][]int{{5, 7, 5}, {5, 5}, {0, 1, 0}, {1, 2, 2, 1, 3, 4, 5, 6, 7}}, [][]int{nil, {5}, {5, 7, 7}, {0, 1, 2, 3, 4, 5, 6, 7, 8}}},
		{twiceRunning(), [][]int{{0, 0}, {1, 0, 0}, {3, 3, 4}}, [][]int{nil, {0}, {0, 1, 0, 1}}},
		{twiceRunningByTwo(), [][]int{{0, 0}, {1, 0, 0}, {3, 3, 4}}, [][]int{nil, {0}, {0, 1, 0, 1}}},
		{threeDifferent(), [][]int{{0, 1, 2}, {1, 1, 2, 1, 0}, {0, 1, 1, 2, 0}, {0, 1, 0, 2, 2}}, [][]int{nil, {0, 1}, {0, 1, 0, 1}, {0, 1, 1, 2, 2, 0, 0}, {0, 1, 0, 0, 2, 2}}},
		{sameInBoth(), [][]int{{7, 7, 7}}, [][]int{nil, {7, 7}, {7, 7, 8}, {7, 8, 7}, {8, 7, 7}, {7, 7, 7, 7}}},
		{changing(), [][]int{{0, 1, 0}, {0, 1, 2, 2}}, [][]int{nil, {0, 1}, {0, 0, 1}, {0, 1, 1}}},
	} {
		for _, word := range c.in {
			if !impl.AcceptsWord(c.m, word) {
				t.Errorf("%v is accepted by %s", word, machineText(c.m))
			}
		}
		for _, word := range c.out {
			if impl.AcceptsWord(c.m, word) {
				t.Errorf("%v is not accepted by %s", word, machineText(c.m))
			}
		}
	}
}

func TestRunMachineInvalid(t *testing.T) {
	check := func(why string, m impl.Machine, word []int) {
		t.Helper()
		if state, held, ok := impl.RunMachine(m, word); ok || state != 0 || len(held) > 0 {
			t.Errorf("%s with %v: %d, %v, %v", why, word, state, held, ok)
		}
		if impl.AcceptsWord(m, word) {
			t.Errorf("%s with %v: accepted", why, word)
		}
	}
	for why, m := range notMachines() {
		for _, word := range [][]int{nil, {0}, {0, 0, 1}, {-1}} {
			check(why, m, word)
		}
	}
	for why, word := range notWords() {
		for _, m := range append(namedMachines(), impl.ComplementMachine(firstAgain()), impl.ComplementMachine(sameInBoth())) {
			check(why, m, word)
		}
	}
}

// The machines of each pair first differ for the word, with a letter for each
// digit; without a word their difference has the length.
var differences = []struct {
	why    string
	a, b   impl.Machine
	length int
	word   string
}{
	{"all or none", everyWord(), noWord(), 0, ""},
	{"other states", lengthsFrom(0), everyWord(), -1, ""},
	{"one word", lengthsFrom(1), everyWord(), 0, ""},
	{"at one letter", lengthsFrom(1), noWord(), 1, "0"},
	{"at four letters", lengthsFrom(4), lengthsFrom(5), 4, "0000"},
	{"at five letters", lengthsFrom(5), noWord(), 5, "00000"},
	{"at six letters", lengthsFrom(6), noWord(), 6, ""},
	{"of nine and eight", lengthsModulo(9, 0), lengthsModulo(8, 0), 8, ""},
	{"of one and three", lengthsModulo(1, 0), lengthsModulo(3, 1), 0, ""},
	{"twice as many", lengthsModulo(4, 3), lengthsModulo(2, 1), 1, "0"},
	{"above MaxWord", longMachine(), noWord(), 12, ""},
	{"above MaxWord, turned round", impl.ComplementMachine(longMachine()), everyWord(), 12, ""},
	{"first again", firstAgain(), noWord(), 2, "00"},
	{"first again, or running", firstAgain(), twiceRunning(), 3, "010"},
	{"running, by one register or two", twiceRunning(), twiceRunningByTwo(), -1, ""},
	{"three different ones", threeDifferent(), noWord(), 3, "012"},
	{"both registers", sameInBoth(), noWord(), 3, "000"},
	{"both registers, and some more", sameInBoth(), firstAgain(), 2, "00"},
	{"a letter that is forgotten", changing(), noWord(), 3, "010"},
	{"forgotten by one of both", changing(), threeDifferent(), 3, "010"},
	{"all but the forgotten", impl.ComplementMachine(changing()), everyWord(), 3, "010"},
}

func TestDifferences(t *testing.T) {
	for _, c := range differences {
		for _, pair := range [][]impl.Machine{{c.a, c.b}, {c.b, c.a}} {
			a, b := pair[0], pair[1]
			if got := impl.DifferLength(a, b); got != c.length {
				t.Errorf("%s: length %d instead of %d", c.why, got, c.length)
			}
			if impl.SameMachines(a, b) != (c.length == -1) {
				t.Errorf("%s: the same or not", c.why)
			}
			find := func(most int) ([]int, bool) { return impl.LeastDifference(a, b, most) }
			checkDifference(t, c.why, c.length, find, func() []int { return digits(c.word)[0] })
			if machineText(b) != machineText(noWord()) {
				continue
			}
			if got := impl.ShortestLength(a); got != c.length {
				t.Errorf("%s: shortest length %d instead of %d", c.why, got, c.length)
			}
			find = func(most int) ([]int, bool) { return impl.LeastWord(a, most) }
			checkDifference(t, c.why, c.length, find, func() []int { return digits(c.word)[0] })
		}
	}
	for _, m := range []impl.Machine{noWord(), machine(1, "01", 0, 0, 0, -1, 1, 0, 1, 0), machine(1, "01", 0, -1, 1, -1, 1, 0, 1, 0)} {
		if impl.ShortestLength(m) != -1 || !impl.SameMachines(m, noWord()) {
			t.Errorf("%s accepts nothing", machineText(m)) // an empty register does not hold a letter
		}
	}
}

func TestDifferencesInvalid(t *testing.T) {
	check := func(why string, a, b impl.Machine) {
		t.Helper()
		if got := impl.DifferLength(a, b); got != -1 {
			t.Errorf("%s: length %d", why, got)
		}
		if impl.SameMachines(a, b) {
			t.Errorf("%s: the same", why)
		}
		find := func(most int) ([]int, bool) { return impl.LeastDifference(a, b, most) }
		checkDifference(t, why, -1, find, nil)
	}
	for why, m := range notMachines() {
		for _, other := range namedMachines() {
			check(why, m, other)
			check(why, other, m)
		}
		check(why, m, m)
		if got := impl.ShortestLength(m); got != -1 {
			t.Errorf("%s: shortest length %d", why, got)
		}
		checkDifference(t, why, -1, func(most int) ([]int, bool) { return impl.LeastWord(m, most) }, nil)
	}
}

func TestComplementMachine(t *testing.T) {
	got := impl.ComplementMachine(firstAgain())
	want := machine(1, "110", 1, 0, 1, 0, 1, -1, 2, -1, 2, -1, 2, -1)
	if machineText(got) != machineText(want) {
		t.Error(machineText(got))
	}
	if got := impl.ComplementMachine(noWord()); machineText(got) != machineText(everyWord()) {
		t.Error(machineText(got))
	}
	for why, m := range notMachines() {
		checkNoMachine(t, why, impl.ComplementMachine(m), false)
	}
}

func TestProductMachine(t *testing.T) {
	even := lengthsModulo(2, 0)
	for _, c := range []struct {
		why  string
		a, b impl.Machine
		some bool
		want impl.Machine
	}{
		{"one state", everyWord(), noWord(), false, noWord()},
		{"one state, some", everyWord(), noWord(), true, everyWord()},
		{"states of a first", firstAgain(), even, false,
			machine(1, "000010", 3, 0, 3, 0, 2, 0, 2, 0, 3, -1, 5, -1, 2, -1, 4, -1, 5, -1, 5, -1, 4, -1, 4, -1)},
		{"states of a first, some", firstAgain(), even, true,
			machine(1, "101011", 3, 0, 3, 0, 2, 0, 2, 0, 3, -1, 5, -1, 2, -1, 4, -1, 5, -1, 5, -1, 4, -1, 4, -1)},
		{"states of b behind", even, firstAgain(), false,
			machine(1, "001000", 4, 0, 4, 0, 4, -1, 5, -1, 5, -1, 5, -1, 1, 0, 1, 0, 1, -1, 2, -1, 2, -1, 2, -1)},
		{"registers of a first", machine(1, "01", 0, 0, 1, -1, 0, -1, 1, 0), machine(1, "1", 0, -1, 0, -1), false,
			machine(2, "01", 0, 0, 1, -1, 0, 0, 1, -1, 0, -1, 1, 0, 0, -1, 1, 0)},
		{"registers of b behind", machine(1, "1", 0, -1, 0, -1), machine(1, "01", 0, 0, 1, -1, 0, -1, 1, 0), false,
			machine(2, "01", 0, 1, 0, 1, 1, -1, 1, -1, 0, -1, 0, -1, 1, 1, 1, 1)},
		{"two registers behind one", machine(1, "1", 0, -1, 0, -1), machine(2, "01", 0, 0, 1, 1, 0, -1, 1, 0, 0, 0, 0, 0, 0, 0, 0, 1), true,
			machine(3, "11", 0, 1, 0, 1, 1, 2, 1, 2, 0, -1, 0, -1, 1, 1, 1, 1, 0, 1, 0, 1, 0, 1, 0, 1, 0, 1, 0, 1, 0, 2, 0, 2)},
	} {
		got, ok := impl.ProductMachine(c.a, c.b, c.some)
		if !ok || machineText(got) != machineText(c.want) || !impl.IsMachine(got) {
			t.Errorf("%s: %s, %v", c.why, machineText(got), ok)
		}
	}
	for _, c := range [][2]int{{1, 9}, {9, 1}, {3, 3}, {2, 4}, {4, 2}} {
		if p, ok := impl.ProductMachine(lengthsModulo(c[0], 0), lengthsModulo(c[1], 0), false); !ok || p.States != c[0]*c[1] || !impl.IsMachine(p) {
			t.Errorf("%v states: %s, %v", c, machineText(p), ok)
		}
	}
}

// idle is a machine with registers into which it does not store.
func idle(registers int) impl.Machine {
	m := impl.Machine{States: 1, Registers: registers, Accept: []bool{true}}
	for range 1 << registers {
		m.Moves = append(m.Moves, impl.Move{To: 0, Store: -1})
	}
	return m
}

func TestProductMachineInvalid(t *testing.T) {
	for _, some := range []bool{false, true} {
		check := func(why string, a, b impl.Machine) {
			t.Helper()
			m, ok := impl.ProductMachine(a, b, some)
			checkNoMachine(t, why, m, ok)
		}
		for why, m := range notMachines() {
			check(why, m, everyWord())
			check(why, everyWord(), m)
			check(why, m, m)
		}
		check("10 states", lengthsModulo(2, 0), lengthsModulo(5, 0))
		check("10 states", lengthsModulo(5, 0), lengthsModulo(2, 0))
		check("12 states", lengthsModulo(3, 0), lengthsModulo(4, 0))
		check("81 states", lengthsModulo(9, 0), lengthsModulo(9, 0))
		check("4 registers", idle(1), idle(3))
		check("4 registers", idle(2), idle(2))
		check("4 registers", idle(3), idle(1))
		check("6 registers", idle(3), idle(3))
		check("both store", firstAgain(), twiceRunning())
		check("both store into the same", firstAgain(), firstAgain())
		// Which states are met, and which registers may hold the same, does not matter.
		rare := machine(1, "10", 0, -1, 0, -1, 1, -1, 1, 0)
		check("both store where no word leads", rare, rare)
		check("one stores at first", twiceRunning(), rare)
		check("one stores at first, the other way round", rare, twiceRunning())
		check("for the set of all registers", machine(1, "1", 0, -1, 0, 0), machine(2, "1", 0, -1, 0, -1, 0, -1, 0, 1))
	}
	for registers := range impl.MaxRegisters + 1 {
		p, ok := impl.ProductMachine(idle(registers), idle(impl.MaxRegisters-registers), false)
		if !ok || machineText(p) != machineText(idle(impl.MaxRegisters)) {
			t.Errorf("%d registers: %s, %v", registers, machineText(p), ok)
		}
	}
}

func TestCountWords(t *testing.T) {
	for _, c := range []struct {
		m         impl.Machine
		length, n int
		want      int
	}{
		{everyWord(), 0, 0, 1},
		{everyWord(), 0, 9, 1},
		{everyWord(), 1, 0, 0},
		{everyWord(), 5, 0, 0},
		{everyWord(), 5, 1, 1},
		{everyWord(), 5, 9, 59049},
		{noWord(), 0, 0, 0},
		{noWord(), 5, 9, 0},
		{lengthsFrom(2), 1, 9, 0},
		{lengthsFrom(2), 2, 3, 9},
		{firstAgain(), 3, 3, 15},
		{firstAgain(), 2, 9, 9},
		{firstAgain(), 0, 9, 0},
		{twiceRunning(), 5, 9, 59049 - 9*8*8*8*8},
		{twiceRunningByTwo(), 5, 9, 59049 - 9*8*8*8*8},
		{twiceRunning(), 2, 0, 0},
		{threeDifferent(), 3, 2, 0},
		{threeDifferent(), 3, 3, 6},
		{threeDifferent(), 3, 9, 9 * 8 * 7},
		{sameInBoth(), 3, 9, 9},
		{changing(), 3, 9, 9 * 8 * 8},
		{longMachine(), 5, 9, 0},
	} {
		if got := impl.CountWords(c.m, c.length, c.n); got != c.want {
			t.Errorf("%s, length %d, %d atoms: %d instead of %d", machineText(c.m), c.length, c.n, got, c.want)
		}
	}
}

func TestCountWordsInvalid(t *testing.T) {
	for why, m := range notMachines() {
		for length := range impl.MaxSearch + 1 {
			if got := impl.CountWords(m, length, length); got != -1 {
				t.Errorf("%s: %d", why, got)
			}
		}
	}
	for _, bad := range atoms(-1, 6, 9, math.MinInt, math.MaxInt) {
		for n := range impl.MaxWord + 1 {
			if got := impl.CountWords(everyWord(), bad, n); got != -1 {
				t.Errorf("length %d, %d atoms: %d", bad, n, got)
			}
		}
	}
	for _, bad := range atoms(-1, 10, math.MinInt, math.MaxInt) {
		for length := range impl.MaxSearch + 1 {
			if got := impl.CountWords(everyWord(), length, bad); got != -1 {
				t.Errorf("length %d, %d atoms: %d", length, bad, got)
			}
		}
	}
}
