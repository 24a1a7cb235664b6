package tests

import (
	"slices"
	"testing"

	"loop.example/g03112/impl"
)

var markFresh = impl.Fresh{Atom: 3, Hole: 5}

var spoiltFresh = impl.Fresh{Atom: 77, Hole: 77}

func roomyBindings(l []impl.Binding) []impl.Binding {
	m := []impl.Binding{}
	for _, b := range l {
		m = append(m, impl.Binding{Hole: b.Hole, Term: roomyTerm(b.Term)})
	}
	return roomy(m, impl.Binding{Hole: 7, Term: markTerm})
}

// areRoomy reports whether l is still what roomyBindings has made of m.
func areRoomy(l, m []impl.Binding) bool {
	for _, b := range l[len(l):cap(l)][:50] {
		if b.Hole != 7 || !same(b.Term, markTerm) {
			return false
		}
	}
	return slices.EqualFunc(l, m, func(x, y impl.Binding) bool { return x.Hole == y.Hole && isRoomy(x.Term, y.Term) })
}

func overwriteBindings(l []impl.Binding) {
	for _, b := range l {
		overwriteTerm(b.Term)
	}
	overwrite(l, impl.Binding{Hole: 77})
}

// useJudgments calls every function of chapter 3 that takes lists or terms, and
// writes over all that is returned.
func useJudgments(l, m []impl.Fresh, s, u []impl.Binding, x, y impl.Term) {
	impl.IsContext(l)
	impl.IncludesContext(l, m)
	impl.FreshIn(l, 0, x)
	impl.EqualIn(l, x, y)
	impl.IsSubstitution(s)
	impl.FormatContext(l)
	for _, both := range [][2][]impl.Fresh{{l, m}, {l, nil}, {nil, l}, {l, l}} {
		merged, _ := impl.MergeContexts(both[0], both[1])
		overwrite(merged, spoiltFresh)
	}
	needed, _ := impl.FreshNeeds(0, x)
	overwrite(needed, spoiltFresh)
	needed, _ = impl.EqualNeeds(x, y)
	overwrite(needed, spoiltFresh)
	for _, some := range [][]impl.Binding{s, nil} {
		z, _ := impl.ApplySubstitution(some, x)
		overwriteTerm(z)
		needed, _ = impl.ContextUnder(some, l)
		overwrite(needed, spoiltFresh)
	}
	for _, both := range [][2][]impl.Binding{{s, u}, {s, nil}, {nil, s}, {s, s}} {
		composed, _ := impl.ComposeSubstitutions(both[0], both[1])
		overwriteBindings(composed)
	}
}

func TestJudgmentArgumentsStay(t *testing.T) {
	contexts := [][]impl.Fresh{nil, freshes(0, 0), freshes(0, 0, 2, 0, 1, 1), freshFrom(0, 40, 2)}
	for _, l := range notContexts() {
		contexts = append(contexts, l)
	}
	substitutions := [][]impl.Binding{nil, bindings(t, "a0", "(0 1 2)X0", "[a0]f2(a0,(0 1)X1)"), bindings(t, "", "f2(X2,X1)"), allBound(term(t, "f1((0 1)X3)"))}
	for why, l := range notSubstitutions() {
		if why != "to a node in itself" && why != "to a binder in itself" {
			substitutions = append(substitutions, l)
		}
	}
	xs := terms(t, "a0", "[a0]f2((0 1)X1,X0)", "[a1]f2(X1,X0)", "f3(X0,(0 1 2)X1,(0 2)X2)")
	for i, l := range contexts {
		for j, s := range substitutions {
			m, u := contexts[(i+j)%len(contexts)], substitutions[(i+1)%len(substitutions)]
			x, y := xs[(i+j)%len(xs)], xs[(i+2*j+1)%len(xs)]
			l1, m1, s1, u1, x1, y1 := roomy(l, markFresh), roomy(m, markFresh), roomyBindings(s), roomyBindings(u), roomyTerm(x), roomyTerm(y)
			wholeL, wholeM := slices.Clone(l1[:cap(l1)]), slices.Clone(m1[:cap(m1)])
			useJudgments(l1, m1, s1, u1, x1, y1)
			if !slices.Equal(l1[:cap(l1)], wholeL) || !slices.Equal(m1[:cap(m1)], wholeM) {
				t.Fatalf("%v and %v: a context is changed", l, m)
			}
			if !areRoomy(s1, s) || !areRoomy(u1, u) || !isRoomy(x1, x) || !isRoomy(y1, y) {
				t.Fatalf("%v, %v, %v and %v: an argument is changed", s, u, x, y)
			}
		}
	}
}

// placesOfBindings does for all terms of a list what places does for one.
func placesOfBindings(l []impl.Binding, found map[any]bool) bool {
	alone := true
	whole := l[:cap(l)]
	for i := range whole {
		alone = alone && !found[&whole[i]]
		found[&whole[i]] = true
	}
	for _, b := range l {
		alone = places(b.Term, found) && alone
	}
	return alone
}

// A result shares no memory with an argument, and no two slices in it do: also
// if one term comes in the place of many holes.
func TestSubstitutedStandsAlone(t *testing.T) {
	texts := []string{"f2(X0,X0)", "f3((0 1)X0,[a0]X1,X2)", "f2((0 1)X2,(2 3)X4)", "X3", "(0 1)X3", "f2(X1,f2(X1,X1))"}
	for _, text := range texts {
		x := term(t, text)
		for _, l := range [][]impl.Binding{nil, bindings(t, "f2(a0,(0 1)X2)", "[a0](0 2)X0", "(0 1)X5"), allBound(term(t, "f1((2 3)X3)"))} {
			found := map[any]bool{}
			places(x, found)
			for _, b := range l {
				places(b.Term, found)
			}
			if got, ok := impl.ApplySubstitution(l, x); !ok || !places(got, found) {
				t.Errorf("%v on %s shares memory", l, text)
			}
		}
	}
}

func TestComposedStandsAlone(t *testing.T) {
	l := []impl.Binding{{Hole: 0, Term: term(t, "f2((0 1)X5,X5)")}, {Hole: 1, Term: term(t, "f2((2 3)X4,X5)")}}
	m := []impl.Binding{{Hole: 1, Term: term(t, "a0")}, {Hole: 3, Term: term(t, "f1((0 1)X3)")}, {Hole: 5, Term: term(t, "[a0](0 2)X3")}}
	for _, c := range [][2][]impl.Binding{{l, m}, {m, l}, {l, nil}, {nil, l}, {m, nil}, {nil, m}, {m, m}} {
		found := map[any]bool{}
		placesOfBindings(c[0], found)
		placesOfBindings(c[1], found)
		if got, ok := impl.ComposeSubstitutions(c[0], c[1]); !ok || !placesOfBindings(got, found) {
			t.Errorf("%v, then %v shares memory", c[0], c[1])
		}
	}
}

// Nothing is kept from call to call, and the order in which a map is gone
// through is not seen.
func TestJudgmentCallsAreAlike(t *testing.T) {
	l := context(t, "a3#X0,a1#X1,a2#X1")
	s := bindings(t, "f3(X1,(0 4)X2,X3)", "", "(0 1)X0", "a0", "X9")
	x, y := term(t, "[a0]f3(X0,(1 2)X1,X2)"), term(t, "[a7]f3((3 4)X0,X1,(5 6 7)X2)")
	first := []string{}
	for range 50 {
		now := []string{}
		equal, _ := impl.EqualNeeds(x, y)
		fresh, _ := impl.FreshNeeds(2, x)
		below, _ := impl.ContextUnder(s, l)
		merged, _ := impl.MergeContexts(equal, l)
		for _, m := range [][]impl.Fresh{equal, fresh, below, merged} {
			now = append(now, impl.FormatContext(m))
			overwrite(m, spoiltFresh)
		}
		composed, _ := impl.ComposeSubstitutions(s, s)
		for _, b := range composed {
			now = append(now, impl.FormatTerm(b.Term))
		}
		overwriteBindings(composed)
		if len(first) > 0 && !slices.Equal(first, now) {
			t.Error(first, now)
		}
		first = now
	}
}
