package tests

import (
	"fmt"
	"math/rand"
	"slices"
	"testing"

	"loop.example/g03112/impl"
)

// roomyMachine is the same value, with spare capacity in each slice.
func roomyMachine(m impl.Machine) impl.Machine {
	return impl.Machine{States: m.States, Registers: m.Registers, Accept: roomy(m.Accept, true), Moves: roomy(m.Moves, impl.Move{To: 51, Store: 52})}
}

// allOfMachine tells a machine with all that its slices have room for.
func allOfMachine(m impl.Machine) string {
	return fmt.Sprint(m.States, m.Registers, m.Accept[:cap(m.Accept)], m.Moves[:cap(m.Moves)], len(m.Accept), len(m.Moves))
}

func overwriteMachine(m impl.Machine, _ bool) {
	accept := m.Accept[:cap(m.Accept)]
	for i := range accept {
		accept[i] = !accept[i]
	}
	overwrite(m.Moves, impl.Move{To: 77, Store: 77})
}

func overwriteWord(word []int, _ bool) {
	overwrite(word, 77)
}

// useMachines calls every function of chapter 7, and writes over all that is
// returned.
func useMachines(a, b impl.Machine, word []int) {
	impl.IsMachine(a)
	_, held, _ := impl.RunMachine(a, word)
	overwrite(held, 77)
	impl.AcceptsWord(a, word)
	impl.ShortestLength(a)
	impl.DifferLength(a, b)
	impl.SameMachines(a, b)
	overwriteWord(impl.LeastDifference(a, b, impl.MaxSearch))
	overwriteWord(impl.LeastWord(a, impl.MaxSearch))
	overwriteMachine(impl.ComplementMachine(a), true)
	overwriteMachine(impl.ProductMachine(a, b, true))
	overwriteMachine(impl.ProductMachine(a, b, false))
	overwriteMachine(impl.ProductMachine(a, everyWord(), false))
	overwriteMachine(impl.ProductMachine(everyWord(), a, true))
	impl.CountWords(a, 3, 4)
}

func TestMachineArgumentsStay(t *testing.T) {
	random := rand.New(rand.NewSource(79))
	machines := namedMachines()
	for range 60 {
		machines = append(machines, anyMachine(random), someMachine(random, 1+random.Intn(3), random.Intn(2)))
	}
	for _, m := range notMachines() {
		machines = append(machines, m)
	}
	for _, m := range machines {
		a, b := roomyMachine(m), roomyMachine(machines[random.Intn(len(machines))])
		for length := range impl.MaxWord + 2 {
			word := roomy(someWord(random, length), 53)
			before := allOfMachine(a) + allOfMachine(b) + allOf(word)
			useMachines(a, b, word)
			useMachines(a, a, word)
			if allOfMachine(a)+allOfMachine(b)+allOf(word) != before {
				t.Fatalf("%s, %s: an argument is changed", machineText(a), machineText(b))
			}
		}
	}
}

// What is written over one result is not seen in an argument or in another one.
func TestMachinesStandAlone(t *testing.T) {
	random := rand.New(rand.NewSource(80))
	for range 300 {
		a := anyMachine(random)
		before := machineText(a)
		results := func() []impl.Machine {
			first, _ := impl.ProductMachine(a, everyWord(), false)
			second, _ := impl.ProductMachine(everyWord(), a, false)
			return []impl.Machine{impl.ComplementMachine(a), first, second}
		}
		one, two := results(), results()
		texts := []string{}
		for _, m := range two {
			texts = append(texts, machineText(m))
		}
		for _, m := range one {
			overwriteMachine(m, true)
		}
		for i, m := range two {
			if machineText(m) != texts[i] {
				t.Fatalf("%s: results share memory", machineText(a))
			}
		}
		if machineText(a) != before {
			t.Fatalf("%s: a result shares memory with an argument", before)
		}
		word := someWord(random, 5)
		_, held, _ := impl.RunMachine(a, word)
		kept := slices.Clone(held)
		_, other, _ := impl.RunMachine(a, word)
		overwrite(other, 77)
		if !slices.Equal(held, kept) {
			t.Fatalf("%s: registers share memory", before)
		}
	}
}

// Nothing is kept from call to call.
func TestMachineCallsAreAlike(t *testing.T) {
	first := []string{}
	for range 10 {
		now := []string{}
		random := rand.New(rand.NewSource(81))
		for range 60 {
			a, b, word := anyMachine(random), anyMachine(random), someWord(random, 9)
			if random.Intn(2) == 0 {
				b = changed(random, a)
			}
			state, held, _ := impl.RunMachine(a, word)
			least, _ := impl.LeastDifference(a, b, impl.MaxSearch)
			shortest, _ := impl.LeastWord(a, impl.MaxSearch)
			now = append(now, fmt.Sprint(state, held, least, shortest, impl.ShortestLength(a), impl.DifferLength(a, b), impl.CountWords(a, 4, 7)))
			useMachines(a, b, word)
		}
		if len(first) > 0 && !slices.Equal(first, now) {
			t.Error("other results of the same calls")
		}
		first = now
	}
}
