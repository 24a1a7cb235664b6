package tests

import (
	"fmt"
	"math"
	"math/rand"
	"slices"
	"strconv"
	"testing"

	"loop.example/g03112/impl"
)

// machine is the one with a state for each letter of accept, of which 1 stands
// for those that accept, and with moves of To, Store, To, Store and so on.
func machine(registers int, accept string, numbers ...int) impl.Machine {
	m := impl.Machine{States: len(accept), Registers: registers}
	for _, c := range accept {
		m.Accept = append(m.Accept, c == '1')
	}
	for i := 0; i < len(numbers); i += 2 {
		m.Moves = append(m.Moves, impl.Move{To: numbers[i], Store: numbers[i+1]})
	}
	return m
}

func machineText(m impl.Machine) string {
	return fmt.Sprint(m.States, m.Registers, m.Accept, m.Moves)
}

func everyWord() impl.Machine {
	return machine(0, "1", 0, -1)
}

func noWord() impl.Machine {
	return machine(0, "0", 0, -1)
}

// lengthsFrom accepts the words with at least count letters.
func lengthsFrom(count int) impl.Machine {
	m := impl.Machine{States: count + 1}
	for q := range count + 1 {
		m.Accept = append(m.Accept, q == count)
		m.Moves = append(m.Moves, impl.Move{To: min(q+1, count), Store: -1})
	}
	return m
}

// lengthsModulo accepts the words whose length leaves the rest.
func lengthsModulo(n, rest int) impl.Machine {
	m := impl.Machine{States: n}
	for q := range n {
		m.Accept = append(m.Accept, q == rest)
		m.Moves = append(m.Moves, impl.Move{To: (q + 1) % n, Store: -1})
	}
	return m
}

// firstAgain accepts words in which the first letter comes again.
func firstAgain() impl.Machine {
	return machine(1, "001", 1, 0, 1, 0, 1, -1, 2, -1, 2, -1, 2, -1)
}

// twiceRunning accepts words in which a letter comes twice running.
func twiceRunning() impl.Machine {
	return machine(1, "01", 0, 0, 1, -1, 1, -1, 1, -1)
}

// twiceRunningByTwo does the same. It stores by turns into two registers, and
// has states for which one is next.
func twiceRunningByTwo() impl.Machine {
	return machine(2, "001",
		1, 0, 1, 0, 2, -1, 2, -1, // the last one in register 1
		0, 1, 2, -1, 0, 1, 2, -1, // the last one in register 0
		2, -1, 2, -1, 2, -1, 2, -1)
}

// threeDifferent accepts words in which three different letters follow one
// another.
func threeDifferent() impl.Machine {
	return machine(2, "00001",
		1, 0, 1, 0, 1, 0, 1, 0, // no letter yet
		2, 1, 1, -1, 2, -1, 1, -1, // the last one in register 0, not after another one
		4, -1, 3, -1, 1, 0, 4, -1, // the last one in register 1, and another one before it in register 0
		4, -1, 1, -1, 2, -1, 4, -1, // the other way round
		4, -1, 4, -1, 4, -1, 4, -1)
}

// sameInBoth accepts words of three letters that are all the same.
func sameInBoth() impl.Machine {
	return machine(2, "00010",
		1, 0, 1, 0, 1, 0, 1, 0,
		2, 1, 2, 1, 2, 1, 2, 1,
		4, -1, 4, -1, 4, -1, 3, -1,
		4, -1, 4, -1, 4, -1, 4, -1,
		4, -1, 4, -1, 4, -1, 4, -1)
}

// changing accepts words of at least three letters that begin with one, another
// one, and not this one again. It forgets all letters but the last one.
func changing() impl.Machine {
	return machine(1, "00010", 1, 0, 1, 0, 2, 0, 4, -1, 3, 0, 4, -1, 3, -1, 3, -1, 4, -1, 4, -1)
}

// longMachine accepts words of 12 letters and more alone. It was found by trying
// many machines.
func longMachine() impl.Machine {
	return machine(2, "0001",
		2, -1, 2, -1, 2, -1, 2, 1,
		1, 0, 0, 0, 0, -1, 0, -1,
		1, -1, 0, 1, 3, -1, 1, 0,
		2, 1, 1, -1, 1, 0, 2, 0)
}

// notMachines tells, for each way in which a value can fail to be a valid
// machine, one that fails in this way alone where that is possible.
func notMachines() map[string]impl.Machine {
	l := map[string]impl.Machine{
		"the zero value":             {},
		"no states":                  machine(0, ""),
		"ten states":                 lengthsModulo(10, 0),
		"four registers":             {States: 1, Registers: 4, Accept: []bool{true}, Moves: make([]impl.Move, 16)},
		"63 registers":               {States: 2, Registers: 63, Accept: []bool{true, true}},
		"64 registers":               {States: 1, Registers: 64, Accept: []bool{true}},
		"accept: none":               {States: 1, Moves: []impl.Move{{To: 0, Store: -1}}},
		"accept: one too few":        {States: 2, Accept: []bool{true}, Moves: []impl.Move{{To: 0, Store: -1}, {To: 1, Store: -1}}},
		"accept: one too many":       {States: 1, Accept: []bool{true, true}, Moves: []impl.Move{{To: 0, Store: -1}}},
		"moves: none":                machine(0, "1"),
		"moves: one too few":         machine(0, "11", 0, -1),
		"moves: one too many":        machine(0, "11", 0, -1, 1, -1, 0, -1),
		"moves: those without any":   machine(1, "11", 0, -1, 1, -1),
		"moves: those of three":      machine(1, "11", 0, -1, 1, -1, 0, -1, 0, -1, 0, -1, 0, -1),
		"moves: one of three":        machine(3, "1", 0, -1, 0, -1, 0, -1),
		"moves: one of two":          machine(2, "1", 0, -1, 0, -1, 0, -1),
		"the register 0 of none":     machine(0, "1", 0, 0),
		"the register 1 of one":      machine(1, "1", 0, -1, 0, 1),
		"the register 3 of three":    machine(3, "1", 0, 0, 0, 1, 0, 2, 0, -1, 0, 0, 0, 0, 0, 0, 0, 3),
		"the register -2":            machine(1, "1", 0, -2, 0, 0),
		"the state 2 of two":         machine(0, "01", 1, -1, 2, -1),
		"the state 1 of one":         machine(1, "0", 0, -1, 1, -1),
		"the state 9 of nine":        machine(0, "000000000", 0, -1, 0, -1, 0, -1, 0, -1, 0, -1, 0, -1, 0, -1, 0, -1, 9, -1),
		"a state that no word meets": machine(1, "01", 0, -1, 0, -1, 0, -1, 2, -1),
	}
	for _, n := range atoms(-1, math.MinInt, math.MaxInt) {
		text := strconv.Itoa(n)
		l["states: "+text] = impl.Machine{States: n, Accept: []bool{true}, Moves: []impl.Move{{To: 0, Store: -1}}}
		l["registers: "+text] = impl.Machine{States: 1, Registers: n, Accept: []bool{true}, Moves: []impl.Move{{To: 0, Store: -1}}}
		l["the state "+text] = machine(1, "01", 0, -1, 1, -1, n, -1, 1, -1)
		if n != -1 {
			l["the register "+text] = machine(1, "01", 0, -1, 1, n, 0, -1, 1, -1)
		}
	}
	return l
}

// notWords tells, for each way in which a list can fail to be a word, one that
// fails in this way alone.
func notWords() map[string][]int {
	l := map[string][]int{"ten letters": atoms(0, 1, 2, 3, 4, 5, 6, 7, 8, 9), "ten times one": make([]int, 10), "many": make([]int, 100000)}
	for _, a := range notAtoms {
		text := strconv.Itoa(a)
		l["the number "+text] = atoms(a)
		l["in front the number "+text] = atoms(a, 0, 1, 0, 0, 5, 6, 7, 8)
		l["behind the number "+text] = atoms(0, 1, 0, 0, 5, 6, 7, 8, a)
	}
	return l
}

// runByHand goes by the words of the document.
func runByHand(m impl.Machine, word []int) (int, []int) {
	state, held := 0, map[int]int{} // empty registers are not in the map
	for _, letter := range word {
		index := state * (1 << m.Registers)
		for i, weight := range []int{1, 2, 4} {
			if a, full := held[i]; full && a == letter {
				index += weight
			}
		}
		state = m.Moves[index].To
		if m.Moves[index].Store != -1 {
			held[m.Moves[index].Store] = letter
		}
	}
	registers := []int{}
	for i := range m.Registers {
		a, full := held[i]
		if !full {
			a = -1
		}
		registers = append(registers, a)
	}
	return state, registers
}

func acceptsByHand(m impl.Machine, word []int) bool {
	state, _ := runByHand(m, word)
	return m.Accept[state]
}

// afterByHand is where a machine stands after a letter.
func afterByHand(m impl.Machine, state int, held [3]int, letter int) (int, [3]int) {
	n := state
	for i := m.Registers - 1; i >= 0; i-- {
		n *= 2
		if held[i] == letter {
			n++
		}
	}
	if m.Moves[n].Store >= 0 {
		held[m.Moves[n].Store] = letter
	}
	return m.Moves[n].To, held
}

// differByHand is the length of the shortest word with which both machines
// differ. It goes with atoms as they are, of which it has one more than there
// are registers. So there is always one that no register holds. There must not
// be many registers.
func differByHand(a, b impl.Machine) int {
	type both struct {
		p, q int
		r, s [3]int
	}
	first := both{r: [3]int{-1, -1, -1}, s: [3]int{-1, -1, -1}}
	lengths, queue := map[both]int{first: 0}, []both{first}
	for len(queue) > 0 {
		now := queue[0]
		queue = queue[1:]
		if a.Accept[now.p] != b.Accept[now.q] {
			return lengths[now]
		}
		for letter := range a.Registers + b.Registers + 1 {
			next := both{}
			next.p, next.r = afterByHand(a, now.p, now.r, letter)
			next.q, next.s = afterByHand(b, now.q, now.s, letter)
			if _, met := lengths[next]; !met {
				lengths[next] = lengths[now] + 1
				queue = append(queue, next)
			}
		}
	}
	return -1
}

// leastDifferenceByHand is the first word of the length, and of few letters,
// with which both machines differ.
func leastDifferenceByHand(a, b impl.Machine, length int) []int {
	for _, word := range tuplesOf(length, atoms(0, 1, 2, 3, 4)) {
		if acceptsByHand(a, word) != acceptsByHand(b, word) {
			return word
		}
	}
	return nil
}

// checkDifference checks what is said of a shortest word, and of the least one,
// against the length of the shortest one and the function that tells the least
// one by hand.
func checkDifference(t *testing.T, why string, length int, find func(int) ([]int, bool), byHand func() []int) {
	t.Helper()
	for _, most := range atoms(-1, 0, 1, 2, 3, 4, 5, 6, 7, math.MinInt, math.MaxInt) {
		word, ok := find(most)
		if length == -1 || length > most || most > impl.MaxSearch {
			if ok || len(word) > 0 {
				t.Errorf("%s: %v, %v for most %d", why, word, ok, most)
			}
		} else if want := byHand(); !ok || !slices.Equal(word, want) {
			t.Errorf("%s: %v, %v instead of %v", why, word, ok, want)
		}
	}
}

func checkNoMachine(t *testing.T, why string, m impl.Machine, ok bool) {
	t.Helper()
	if ok || machineText(m) != machineText(impl.Machine{}) {
		t.Errorf("%s: %s, %v", why, machineText(m), ok)
	}
}

// namedMachines are those above, in order.
func namedMachines() []impl.Machine {
	return []impl.Machine{everyWord(), noWord(), lengthsFrom(0), lengthsFrom(3), lengthsFrom(8), lengthsModulo(9, 8), lengthsModulo(2, 0),
		firstAgain(), twiceRunning(), twiceRunningByTwo(), threeDifferent(), sameInBoth(), changing(), longMachine()}
}

// someMachine is a random one. It often has few states that accept.
func someMachine(random *rand.Rand, states, registers int) impl.Machine {
	m := impl.Machine{States: states, Registers: registers}
	share := 1 + random.Intn(4)
	for range states {
		m.Accept = append(m.Accept, random.Intn(4) < share && random.Intn(2) == 0)
	}
	for range states << registers {
		m.Moves = append(m.Moves, impl.Move{To: random.Intn(states), Store: random.Intn(registers+1) - 1})
	}
	return m
}

func anyMachine(random *rand.Rand) impl.Machine {
	return someMachine(random, 1+random.Intn(impl.MaxStates), random.Intn(impl.MaxRegisters+1))
}

// changed is a machine with one move, or one element of Accept, of another kind.
func changed(random *rand.Rand, m impl.Machine) impl.Machine {
	m.Accept, m.Moves = slices.Clone(m.Accept), slices.Clone(m.Moves)
	if random.Intn(3) == 0 {
		q := random.Intn(m.States)
		m.Accept[q] = !m.Accept[q]
	} else {
		m.Moves[random.Intn(len(m.Moves))] = impl.Move{To: random.Intn(m.States), Store: random.Intn(m.Registers+1) - 1}
	}
	return m
}

// reordered is a machine that does the same with other numbers for its states,
// but for the first one, and for its registers.
func reordered(random *rand.Rand, m impl.Machine) impl.Machine {
	states, registers := append(atoms(0), random.Perm(m.States-1)...), random.Perm(m.Registers)
	for i := range states[1:] {
		states[i+1]++
	}
	other := impl.Machine{States: m.States, Registers: m.Registers, Accept: make([]bool, m.States), Moves: make([]impl.Move, len(m.Moves))}
	for q := range m.States {
		other.Accept[states[q]] = m.Accept[q]
		for n := range 1 << m.Registers {
			number := 0
			for i, j := range registers {
				number += n >> i & 1 << j
			}
			move := m.Moves[q<<m.Registers+n]
			if move.Store >= 0 {
				move.Store = registers[move.Store]
			}
			other.Moves[states[q]<<m.Registers+number] = impl.Move{To: states[move.To], Store: move.Store}
		}
	}
	return other
}

// someWord is a random one of few letters.
func someWord(random *rand.Rand, length int) []int {
	word := []int{}
	for range length {
		word = append(word, likelyAtoms[random.Intn(1+random.Intn(len(likelyAtoms)))])
	}
	return word
}
