package tests

import (
	"fmt"
	"math/rand"
	"slices"
	"strings"
	"testing"

	"loop.example/g03112/impl"
)

// roomyLists is the same value, with spare capacity in each slice.
func roomyLists(l [][]int) [][]int {
	m := [][]int{}
	for _, numbers := range l {
		m = append(m, roomy(numbers, 33))
	}
	return roomy(m, []int{34})
}

func roomySet(s impl.OrbitSet) impl.OrbitSet {
	return impl.OrbitSet{Width: s.Width, Constants: roomy(s.Constants, 35), Patterns: roomyLists(s.Patterns)}
}

func roomyFormula(f impl.Formula) impl.Formula {
	kids := []impl.Formula{}
	for _, kid := range f.Kids {
		kids = append(kids, roomyFormula(kid))
	}
	return impl.Formula{Op: f.Op, A: f.A, B: f.B, Kids: roomy(kids, impl.Formula{Op: 36})}
}

// allOf tells lists of numbers with all that they have room for.
func allOf(l ...[]int) string {
	text := ""
	for _, numbers := range l {
		text += fmt.Sprint(numbers[:cap(numbers)])
	}
	return text
}

func allOfLists(l [][]int) string {
	return allOf(l[:cap(l)]...)
}

func allOfSet(s impl.OrbitSet) string {
	return fmt.Sprint(s.Width) + allOf(s.Constants) + allOfLists(s.Patterns)
}

func allOfFormula(f impl.Formula) string {
	text := fmt.Sprint(f.Op, f.A, f.B)
	for _, kid := range f.Kids[:cap(f.Kids)] {
		text += "(" + allOfFormula(kid) + ")"
	}
	return text
}

func overwriteLists(l [][]int) {
	for _, numbers := range l {
		overwrite(numbers, 77)
	}
	overwrite(l, []int{77})
}

func overwriteSet(s impl.OrbitSet, _ bool) {
	overwrite(s.Constants, 77)
	overwriteLists(s.Patterns)
}

// useSets calls every function of chapter 6, and writes over all that is
// returned.
func useSets(a, b impl.OrbitSet, f impl.Formula, constants, tuple []int, tuples [][]int, p []impl.Pair) {
	pattern, _ := impl.PatternOf(constants, tuple)
	overwrite(pattern, 77)
	overwriteLists(impl.PatternsOf(a.Width, len(constants)))
	impl.IsOrbitSet(a)
	overwriteSet(impl.SetOf(constants, len(tuple), tuples))
	overwriteSet(impl.SetOf(constants, a.Width, a.Patterns))
	impl.HasTuple(a, tuple)
	overwriteLists(impl.ExamplesOf(a))
	overwriteSet(impl.ExtendSet(a, constants))
	overwriteSet(impl.ExtendSet(a, a.Constants))
	overwriteSet(impl.UniteSets(a, b))
	overwriteSet(impl.UniteSets(a, a))
	overwriteSet(impl.MeetSets(a, b))
	overwriteSet(impl.MeetSets(a, a))
	overwriteSet(impl.ComplementSet(a), true)
	overwriteSet(impl.PlacesOfSet(a, tuple))
	overwriteSet(impl.WidenSet(a))
	overwriteSet(impl.ActOnSet(p, a))
	overwriteSet(impl.ActOnSet(nil, a))
	overwriteSet(impl.ReducedSet(a), true)
	impl.SameSet(a, b)
	impl.CountTuples(a, 7)
	impl.IsFormula(f, len(tuple))
	impl.HoldsFormula(f, tuple)
	overwriteSet(impl.SetOfFormula(f, len(tuple)))
}

func TestSetArgumentsStay(t *testing.T) {
	random := rand.New(rand.NewSource(44))
	sets := someSets(random, 60)
	for _, s := range notSets() {
		if len(s.Constants) < 10 {
			sets = append(sets, s)
		}
	}
	formulas := []impl.Formula{anAtom(3), isTwo(), areThree(), foSame(0, 1), foAnd(foIs(0, 7), foSome(foSame(0, 1)))}
	for why, f := range notFormulas() {
		if !strings.HasSuffix(why, "in itself") {
			formulas = append(formulas, f)
		}
	}
	for i, a := range sets {
		b, f := sets[random.Intn(len(sets))], roomyFormula(formulas[i%len(formulas)])
		a, b = roomySet(a), roomySet(b)
		if random.Intn(2) == 0 {
			b.Width = a.Width
		}
		for width := range impl.MaxWidth + 2 {
			constants := roomy(joinedAtoms(a.Constants, someConstants(random, random.Intn(3))), 37)
			tuple := roomy([]int{0, 1, 0, 2, 3}[:width], 38)
			tuples := roomyLists(slices.Repeat([][]int{someTuple(random, width)}, 3))
			p := roomy(read(t, "(0 1)(2 3)"), markPair)
			now := func() string {
				return allOfSet(a) + allOfSet(b) + allOfFormula(f) + allOf(constants, tuple) + allOfLists(tuples) + fmt.Sprint(p[:cap(p)])
			}
			before := now()
			useSets(a, b, f, constants, tuple, tuples, p)
			if now() != before {
				t.Fatalf("%s, %s: an argument is changed", setText(a), setText(b))
			}
		}
	}
}

// ownNumbers marks the places of the numbers of a list, and reports whether none
// of them was marked.
func ownNumbers(found map[*int]bool, l ...[]int) bool {
	alone := true
	for _, numbers := range l {
		whole := numbers[:cap(numbers)]
		for i := range whole {
			alone = alone && !found[&whole[i]]
			found[&whole[i]] = true
		}
	}
	return alone
}

func ownLists(found map[*int]bool, seen map[*[]int]bool, l [][]int) bool {
	alone := ownNumbers(found, l...)
	whole := l[:cap(l)]
	for i := range whole {
		alone = alone && !seen[&whole[i]]
		seen[&whole[i]] = true
	}
	return alone
}

// A result shares no memory with an argument, and no two slices in it do.
func TestSetsStandAlone(t *testing.T) {
	random := rand.New(rand.NewSource(45))
	for _, a := range someSets(random, 300) {
		// The tests themselves use constants again.
		a = impl.OrbitSet{Width: a.Width, Constants: slices.Clone(a.Constants), Patterns: a.Patterns}
		b := impl.OrbitSet{Width: a.Width, Constants: slices.Clone(a.Constants), Patterns: patternsByHand(a.Width, len(a.Constants))}
		found, seen := map[*int]bool{}, map[*[]int]bool{}
		own := func(s impl.OrbitSet) bool {
			return ownNumbers(found, s.Constants) && ownLists(found, seen, s.Patterns)
		}
		if !own(a) || !own(b) {
			t.Fatal("the arguments share memory")
		}
		check := func(why string, s impl.OrbitSet, ok bool) {
			t.Helper()
			if !own(s) {
				t.Fatalf("%s of %s shares memory", why, setText(a))
			}
		}
		tuples := impl.ExamplesOf(a)
		if !ownLists(found, seen, tuples) || !ownLists(found, seen, impl.PatternsOf(a.Width, 3)) {
			t.Fatalf("lists of %s share memory", setText(a))
		}
		s, ok := impl.SetOf(a.Constants, a.Width, tuples)
		check("the set", s, ok)
		s, ok = impl.ExtendSet(a, a.Constants)
		check("the extended set", s, ok)
		s, ok = impl.UniteSets(a, b)
		check("the united set", s, ok)
		s, ok = impl.UniteSets(a, a)
		check("the set united with itself", s, ok)
		s, ok = impl.MeetSets(a, b)
		check("the meeting set", s, ok)
		check("the complement", impl.ComplementSet(a), true)
		s, ok = impl.PlacesOfSet(a, atoms(0, 1, 2, 3)[:a.Width])
		check("the places", s, ok)
		s, ok = impl.WidenSet(a)
		check("the wider set", s, ok)
		s, ok = impl.ActOnSet(nil, a)
		check("the set acted on", s, ok)
		check("the reduced set", impl.ReducedSet(a), true)
		for _, tuple := range tuples {
			p, _ := impl.PatternOf(a.Constants, tuple)
			if !ownNumbers(found, p) {
				t.Fatalf("a pattern of %s shares memory", setText(a))
			}
		}
	}
}

// Nothing is kept from call to call.
func TestSetCallsAreAlike(t *testing.T) {
	first := []string{}
	for range 20 {
		now := []string{}
		random := rand.New(rand.NewSource(46))
		for _, a := range someSets(random, 40) {
			b := someSet(random, a.Width)
			f := someFormula(random, a.Width, 4, atoms(0, 7, 999))
			for _, s := range []impl.OrbitSet{impl.ComplementSet(a), impl.ReducedSet(a)} {
				now = append(now, setText(s))
			}
			both, _ := impl.UniteSets(a, b)
			of, _ := impl.SetOfFormula(f, a.Width)
			now = append(now, setText(both), setText(of), fmt.Sprint(impl.ExamplesOf(a), impl.SameSet(a, b), impl.CountTuples(a, 9)))
			useSets(a, b, f, slices.Clone(a.Constants), someTuple(random, a.Width), nil, impl.SwapOf(0, 1))
		}
		if len(first) > 0 && !slices.Equal(first, now) {
			t.Error("other results of the same calls")
		}
		first = now
	}
}
