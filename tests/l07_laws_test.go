package tests

import (
	"fmt"
	"math/rand"
	"slices"
	"testing"

	"loop.example/g03112/impl"
)

// wordShapes are words of up to most letters, among which is one for each way
// in which letters can be the same.
func wordShapes(most int) [][]int {
	words := [][]int{}
	for length := range most + 1 {
		words = append(words, patternsByHand(length, 0)...)
	}
	return words
}

func TestRunsByHand(t *testing.T) {
	random := rand.New(rand.NewSource(71))
	machines := namedMachines()
	for range 300 {
		machines = append(machines, anyMachine(random))
	}
	for _, m := range machines {
		words := wordShapes(4)
		for range 100 {
			words = append(words, someWord(random, random.Intn(impl.MaxWord+1)))
		}
		for _, word := range words {
			state, held, ok := impl.RunMachine(m, word)
			wantState, wantHeld := runByHand(m, word)
			if !ok || state != wantState || !slices.Equal(held, wantHeld) {
				t.Fatalf("%s with %v: %d, %v, %v instead of %d, %v", machineText(m), word, state, held, ok, wantState, wantHeld)
			}
			if impl.AcceptsWord(m, word) != m.Accept[wantState] {
				t.Fatalf("%s with %v: not what is accepted", machineText(m), word)
			}
		}
	}
}

// What a machine does depends only on which letters are the same.
func TestMachinesDoNotKnowNames(t *testing.T) {
	random := rand.New(rand.NewSource(72))
	permutations := somePermutations(40)
	for range 2000 {
		m, word := anyMachine(random), someWord(random, random.Intn(impl.MaxWord+1))
		p := permutations[random.Intn(len(permutations))]
		other := []int{}
		for _, a := range word {
			other = append(other, impl.ImageOf(p, a))
		}
		state, held, _ := impl.RunMachine(m, word)
		for i, a := range held {
			if a != -1 {
				held[i] = impl.ImageOf(p, a)
			}
		}
		gotState, gotHeld, ok := impl.RunMachine(m, other)
		if !ok || gotState != state || !slices.Equal(gotHeld, held) {
			t.Fatalf("%s with %v and %v: %d, %v instead of %d, %v", machineText(m), word, other, gotState, gotHeld, state, held)
		}
	}
}

// checkPair checks promise 7 for two machines.
func checkPair(t *testing.T, a, b impl.Machine) {
	t.Helper()
	why := machineText(a) + " and " + machineText(b)
	length := differByHand(a, b)
	if got, back := impl.DifferLength(a, b), impl.DifferLength(b, a); got != length || back != length {
		t.Fatalf("%s: lengths %d and %d instead of %d", why, got, back, length)
	}
	if impl.SameMachines(a, b) != (length == -1) {
		t.Fatalf("%s: the same or not", why)
	}
	for n := 0; n <= impl.MaxSearch && (length == -1 || n <= length); n++ {
		differ := false
		for _, word := range patternsByHand(n, 0) {
			differ = differ || impl.AcceptsWord(a, word) != impl.AcceptsWord(b, word)
		}
		if differ != (n == length) {
			t.Fatalf("%s: differ with %d letters: %v, and not with %d", why, n, differ, length)
		}
	}
	find := func(most int) ([]int, bool) { return impl.LeastDifference(a, b, most) }
	checkDifference(t, why, length, find, func() []int { return leastDifferenceByHand(a, b, length) })
}

func checkAlone(t *testing.T, m impl.Machine) {
	t.Helper()
	length := differByHand(m, noWord())
	if got := impl.ShortestLength(m); got != length {
		t.Fatalf("%s: shortest length %d instead of %d", machineText(m), got, length)
	}
	find := func(most int) ([]int, bool) { return impl.LeastWord(m, most) }
	checkDifference(t, machineText(m), length, find, func() []int { return leastDifferenceByHand(m, noWord(), length) })
}

func TestLeastDifferencesOfNamed(t *testing.T) {
	for _, a := range namedMachines() {
		checkAlone(t, a)
		checkAlone(t, impl.ComplementMachine(a))
		for _, b := range namedMachines() {
			checkPair(t, a, b)
			checkPair(t, a, impl.ComplementMachine(b))
		}
	}
}

func TestLeastDifferencesOfRandom(t *testing.T) {
	random := rand.New(rand.NewSource(73))
	met := map[int]int{}
	for range 700 {
		registers := random.Intn(3)
		a := someMachine(random, 1+random.Intn(5), registers)
		b := someMachine(random, 1+random.Intn(5), random.Intn(4-registers))
		checkAlone(t, a)
		checkAlone(t, b)
		checkPair(t, a, b)
		// Those that are nearly the same have longer differences.
		for _, c := range []impl.Machine{changed(random, a), changed(random, reordered(random, a))} {
			checkPair(t, a, c)
			met[impl.DifferLength(a, c)]++
		}
	}
	for length := -1; length <= impl.MaxSearch+1; length++ {
		if met[length] == 0 {
			t.Errorf("no two machines with the length %d", length)
		}
	}
}

// With three registers in each machine, there are too many cases to go through
// by hand for all pairs: those here do the same, or nearly so.
func TestThreeRegisters(t *testing.T) {
	random := rand.New(rand.NewSource(74))
	for range 150 {
		a := someMachine(random, 1+random.Intn(impl.MaxStates), 3)
		b := reordered(random, a)
		if impl.DifferLength(a, b) != -1 || !impl.SameMachines(a, b) {
			t.Fatalf("%s and %s: the same", machineText(a), machineText(b))
		}
		if word, ok := impl.LeastDifference(a, b, impl.MaxSearch); ok || len(word) > 0 {
			t.Fatalf("%s and %s: %v", machineText(a), machineText(b), word)
		}
		checkAlone(t, a)
		c := changed(random, b)
		if length := impl.DifferLength(a, c); length >= 0 && length <= impl.MaxSearch {
			word, ok := impl.LeastDifference(a, c, length)
			if !ok || !slices.Equal(word, leastDifferenceByHand(a, c, length)) {
				t.Fatalf("%s and %s: %v", machineText(a), machineText(c), word)
			}
			if length > 0 && leastDifferenceByHand(a, c, length-1) != nil {
				t.Fatalf("%s and %s: differ before %d", machineText(a), machineText(c), length)
			}
		} else if word := leastDifferenceByHand(a, c, impl.MaxSearch); word != nil {
			t.Fatalf("%s and %s: length %d, and differ with %v", machineText(a), machineText(c), length, word)
		}
	}
}

// smallMachines are all with two states and one register.
func smallMachines() []impl.Machine {
	l := []impl.Machine{}
	for n := range 1 << 10 {
		m := machine(1, fmt.Sprintf("%d%d", n>>9, n>>8&1))
		for i := range 4 {
			m.Moves = append(m.Moves, impl.Move{To: n >> (2 * i) & 1, Store: n>>(2*i+1)&1 - 1})
		}
		l = append(l, m)
	}
	return l
}

// Machines that accept the same words of few letters are the same if they are
// small, and those that are not differ where the words first do.
func TestSmallMachines(t *testing.T) {
	random := rand.New(rand.NewSource(75))
	machines, accepted := smallMachines(), []string{}
	words := wordShapes(7)
	for _, m := range machines {
		text := []byte{}
		for _, word := range words {
			c := byte('0')
			if acceptsByHand(m, word) {
				c = '1'
			}
			text = append(text, c)
		}
		accepted = append(accepted, string(text))
	}
	for i, a := range machines {
		for range 40 {
			j := random.Intn(len(machines))
			length := -1
			for k, word := range words {
				if accepted[i][k] != accepted[j][k] {
					length = len(word)
					break
				}
			}
			if got := impl.DifferLength(a, machines[j]); got != length {
				t.Fatalf("%s and %s: %d instead of %d", machineText(a), machineText(machines[j]), got, length)
			}
		}
		checkAlone(t, a)
	}
}

func TestComplements(t *testing.T) {
	random := rand.New(rand.NewSource(76))
	for range 300 {
		m := anyMachine(random)
		c := impl.ComplementMachine(m)
		if impl.DifferLength(m, c) != 0 || machineText(impl.ComplementMachine(c)) != machineText(m) {
			t.Fatalf("%s and %s", machineText(m), machineText(c))
		}
		for _, word := range append(wordShapes(3), someWord(random, 9)) {
			if impl.AcceptsWord(c, word) == acceptsByHand(m, word) {
				t.Fatalf("%s and %s: %v", machineText(m), machineText(c), word)
			}
		}
	}
}

// productByHand goes by the words of the document.
func productByHand(a, b impl.Machine, some bool) (impl.Machine, bool) {
	both := impl.Machine{States: a.States * b.States, Registers: a.Registers + b.Registers}
	if both.States > 9 || both.Registers > 3 {
		return impl.Machine{}, false
	}
	for state := range both.States {
		p, q := state/b.States, state%b.States
		both.Accept = append(both.Accept, a.Accept[p] && b.Accept[q] || some && (a.Accept[p] || b.Accept[q]))
		for n := range 1 << both.Registers {
			x := a.Moves[p<<a.Registers+n%(1<<a.Registers)]
			y := b.Moves[q<<b.Registers+n/(1<<a.Registers)]
			store := x.Store
			if x.Store != -1 && y.Store != -1 {
				return impl.Machine{}, false
			} else if y.Store != -1 {
				store = y.Store + a.Registers
			}
			both.Moves = append(both.Moves, impl.Move{To: x.To*b.States + y.To, Store: store})
		}
	}
	return both, true
}

// storingNothing is a machine without its stores.
func storingNothing(m impl.Machine) impl.Machine {
	m.Moves = slices.Clone(m.Moves)
	for i := range m.Moves {
		m.Moves[i].Store = -1
	}
	return m
}

func TestProducts(t *testing.T) {
	random := rand.New(rand.NewSource(77))
	counts := map[bool]int{}
	for range 3000 {
		a := someMachine(random, 1+random.Intn(4), random.Intn(3))
		b := someMachine(random, 1+random.Intn(4), random.Intn(3))
		switch random.Intn(3) {
		case 0:
			a = storingNothing(a)
		case 1:
			b = storingNothing(b)
		}
		some := random.Intn(2) == 0
		got, ok := impl.ProductMachine(a, b, some)
		want, wantOk := productByHand(a, b, some)
		if ok != wantOk || machineText(got) != machineText(want) {
			t.Fatalf("%s and %s: %s, %v instead of %s, %v", machineText(a), machineText(b), machineText(got), ok, machineText(want), wantOk)
		}
		if counts[ok]++; !ok {
			continue
		}
		for _, word := range append(wordShapes(3), someWord(random, 5), someWord(random, 9)) {
			inA, inB := acceptsByHand(a, word), acceptsByHand(b, word)
			if impl.AcceptsWord(got, word) != (inA && inB || some && (inA || inB)) {
				t.Fatalf("%s and %s, some %v: %v", machineText(a), machineText(b), some, word)
			}
		}
		// The words in one of both are those that are not in neither.
		neither, _ := impl.ProductMachine(impl.ComplementMachine(a), impl.ComplementMachine(b), !some)
		if !impl.SameMachines(impl.ComplementMachine(neither), got) {
			t.Fatalf("%s and %s: the complement of the complements", machineText(a), machineText(b))
		}
	}
	if counts[true] < 500 || counts[false] < 500 {
		t.Error(counts)
	}
}

func TestCountsByHand(t *testing.T) {
	random := rand.New(rand.NewSource(78))
	given := atoms(7, 0, 999, 4, 1, 500, 2, 3, 10)
	most := atoms(9, 9, 9, 9, 6, 5) // for each length, of how many atoms there are words to go through
	for range 60 {
		m := anyMachine(random)
		for length := range impl.MaxSearch + 1 {
			whole := 1
			for range length {
				whole *= 9
			}
			if sum := impl.CountWords(m, length, 9) + impl.CountWords(impl.ComplementMachine(m), length, 9); sum != whole {
				t.Fatalf("%s, length %d: %d words in all", machineText(m), length, sum)
			}
			n := random.Intn(most[length] + 1)
			count := 0
			for _, word := range tuplesOf(length, given[:n]) {
				if acceptsByHand(m, word) {
					count++
				}
			}
			if got := impl.CountWords(m, length, n); got != count {
				t.Fatalf("%s, length %d, %d atoms: %d instead of %d", machineText(m), length, n, got, count)
			}
		}
	}
}
