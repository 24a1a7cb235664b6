package tests

import (
	"math"
	"math/rand"
	"slices"
	"strconv"
	"testing"

	"loop.example/g03112/impl"
)

// freshes makes a list of elements of an atom, a hole, an atom, a hole and so on.
func freshes(numbers ...int) []impl.Fresh {
	l := []impl.Fresh{}
	for i := 0; i < len(numbers); i += 2 {
		l = append(l, impl.Fresh{Atom: numbers[i], Hole: numbers[i+1]})
	}
	return l
}

// freshFrom are count atoms from first on, for one hole.
func freshFrom(first, count, hole int) []impl.Fresh {
	l := []impl.Fresh{}
	for i := range count {
		l = append(l, impl.Fresh{Atom: first + i, Hole: hole})
	}
	return l
}

// context is the context with the text; the text must have one.
func context(t *testing.T, text string) []impl.Fresh {
	t.Helper()
	l, ok := impl.ParseContext(text)
	if !ok {
		t.Fatalf("no context with the text %q", text)
	}
	return l
}

// notContexts tells, for each way in which a list can fail to be a context, one
// that fails in this way alone.
func notContexts() map[string][]impl.Fresh {
	l := map[string][]impl.Fresh{
		"hole -1":            freshes(0, -1),
		"hole 10":            freshes(0, 10),
		"the least hole":     freshes(0, math.MinInt),
		"the last number":    freshes(0, math.MaxInt),
		"a hole behind":      freshes(0, 9, 0, 10),
		"an atom behind":     freshes(0, 9, 1000, 9),
		"one twice":          freshes(3, 3, 3, 3),
		"twice among others": freshes(0, 3, 3, 3, 3, 3, 4, 3),
		"atoms descending":   freshes(1, 0, 0, 0),
		"holes descending":   freshes(0, 1, 0, 0),
		"in order of atoms":  freshes(0, 1, 1, 0),
		"41 of one hole":     freshFrom(0, 41, 0),
		"41 of two holes":    slices.Concat(freshFrom(0, 20, 0), freshFrom(0, 21, 1)),
	}
	for _, a := range notAtoms {
		l["the atom "+strconv.Itoa(a)] = freshes(a, 0)
	}
	return l
}

// binding is the substitution that has one hole alone.
func binding(hole int, x impl.Term) []impl.Binding {
	return []impl.Binding{{Hole: hole, Term: x}}
}

// bindings is the substitution with the texts, of which each empty one stands
// for a hole that it does not have.
func bindings(t *testing.T, texts ...string) []impl.Binding {
	t.Helper()
	l := []impl.Binding{}
	for n, text := range texts {
		if text != "" {
			l = append(l, impl.Binding{Hole: n, Term: term(t, text)})
		}
	}
	return l
}

// notSubstitutions tells, for each way in which a list can fail to be a
// substitution, one that fails in this way alone.
func notSubstitutions() map[string][]impl.Binding {
	l := map[string][]impl.Binding{
		"hole -1":          binding(-1, atom(0)),
		"hole 10":          binding(10, atom(0)),
		"the least hole":   binding(math.MinInt, atom(0)),
		"the last number":  binding(math.MaxInt, atom(0)),
		"one twice":        slices.Concat(binding(3, atom(0)), binding(3, atom(0))),
		"two for one hole": slices.Concat(binding(3, atom(0)), binding(3, atom(1))),
		"descending":       slices.Concat(binding(1, atom(0)), binding(0, atom(0))),
		"a bad one behind": slices.Concat(binding(0, atom(0)), binding(1, atom(1000))),
		"an eleventh one":  slices.Concat(allBound(atom(0)), binding(9, atom(0))),
		"a hole behind 9":  slices.Concat(binding(9, atom(0)), binding(10, atom(0))),
	}
	for why, x := range notTerms() {
		l["to "+why] = binding(0, x)
	}
	return l
}

// allBound binds all holes to one term.
func allBound(x impl.Term) []impl.Binding {
	l := []impl.Binding{}
	for n := range impl.MaxHole + 1 {
		l = append(l, impl.Binding{Hole: n, Term: x})
	}
	return l
}

func sameBindings(l, m []impl.Binding) bool {
	return slices.EqualFunc(l, m, func(x, y impl.Binding) bool { return x.Hole == y.Hole && same(x.Term, y.Term) })
}

// filled is x with what acting makes of by[n] in the place of each hole n,
// without the functions of the program.
func filled(x impl.Term, by map[int]impl.Term) impl.Term {
	if u, found := by[x.N]; found && x.Op == impl.TmHole {
		return actedByTable(tableOf(x.Perm), u)
	}
	y := impl.Term{Op: x.Op, N: x.N, Perm: slices.Clone(x.Perm)}
	for _, kid := range x.Kids {
		y.Kids = append(y.Kids, filled(kid, by))
	}
	return y
}

// byHole tells a substitution as filled takes it.
func byHole(l []impl.Binding) map[int]impl.Term {
	by := map[int]impl.Term{}
	for _, b := range l {
		by[b.Hole] = b.Term
	}
	return by
}

// holesWithin are the holes within the terms, ascending.
func holesWithin(l ...impl.Term) []int {
	holes := []int{}
	for _, x := range l {
		toEach(x, func(y impl.Term) {
			if y.Op == impl.TmHole {
				holes = append(holes, y.N)
			}
		})
	}
	slices.Sort(holes)
	return slices.Compact(holes)
}

// filler is what a hole is filled with to see what is needed of it: a node that
// is in no term, with the given free atoms.
func filler(hole int, free ...int) impl.Term {
	kids := []impl.Term{}
	for _, a := range free {
		kids = append(kids, atom(a))
	}
	return node(100+hole, kids...)
}

// neededFor tells from instances alone with which least context a claim about
// them holds. It fails if the claim does not hold even where no atom is free in
// what the holes are filled with.
func neededFor(holes, atoms []int, holds func(map[int]impl.Term) bool) ([]impl.Fresh, bool) {
	by := map[int]impl.Term{}
	for _, n := range holes {
		by[n] = filler(n)
	}
	if !holds(by) {
		return nil, false
	}
	l := []impl.Fresh{}
	for _, n := range holes {
		for _, a := range atoms {
			by[n] = filler(n, a)
			if !holds(by) {
				l = append(l, impl.Fresh{Atom: a, Hole: n})
			}
		}
		by[n] = filler(n)
	}
	return l, true
}

// probes are the atoms of which random terms are made, and one more.
var probes = []int{0, 1, 2, 3, 4, 5, 6, 500}

// someWithHoles are random terms with few holes, so that they often have the
// same ones.
func someWithHoles(random *rand.Rand, count int) []impl.Term {
	l := []impl.Term{}
	for range count {
		x := someTerm(random, 1+random.Intn(24), true)
		l = append(l, fewHoles(x, 1+random.Intn(4)))
	}
	return l
}

func fewHoles(x impl.Term, count int) impl.Term {
	y := impl.Term{Op: x.Op, N: x.N, Perm: x.Perm}
	if x.Op == impl.TmHole {
		y.N = x.N % count
	}
	for _, kid := range x.Kids {
		y.Kids = append(y.Kids, fewHoles(kid, count))
	}
	return y
}

// holeVariant swaps the atoms of some binders in what they bind, whether this is
// seen or not, and now and then changes a Perm.
func holeVariant(random *rand.Rand, x impl.Term) impl.Term {
	y := impl.Term{Op: x.Op, N: x.N, Perm: x.Perm}
	for _, kid := range x.Kids {
		y.Kids = append(y.Kids, holeVariant(random, kid))
	}
	switch {
	case x.Op == impl.TmHole && random.Intn(4) == 0:
		y.Perm = somePermutationOf(random, 5)
	case x.Op == impl.TmBind && random.Intn(2) == 0:
		a, b := x.N, random.Intn(7)
		if a != b {
			return actedByTable(tableOf(pairs(a, b, b, a)), y)
		}
	}
	return y
}

// someGround are ground terms for holes, with few atoms.
func someGround(random *rand.Rand) impl.Term {
	return someTerm(random, 1+random.Intn(4), false)
}

// someSubstitution is a random one, of some of the first holes, to ground terms
// if these are asked for.
func someSubstitution(random *rand.Rand, holes int, ground bool) []impl.Binding {
	l := []impl.Binding{}
	for n := range holes {
		if random.Intn(3) > 0 {
			l = append(l, impl.Binding{Hole: n, Term: fewHoles(someTerm(random, 1+random.Intn(5), !ground), 5)})
		}
	}
	return l
}

// someContext is a random one, of few atoms and of the first holes.
func someContext(random *rand.Rand, holes int) []impl.Fresh {
	l := []impl.Fresh{}
	for n := range holes {
		for a := range 6 {
			if random.Intn(3) == 0 {
				l = append(l, impl.Fresh{Atom: a, Hole: n})
			}
		}
	}
	return l
}
