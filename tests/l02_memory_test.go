package tests

import (
	"slices"
	"testing"

	"loop.example/g03112/impl"
)

// markTerm is what the spare capacity of terms holds.
var markTerm = impl.Term{Op: 7, N: 7}

var markPair = impl.Pair{From: 5, To: 3}

// roomyTerm is the same value, with spare capacity in each slice.
func roomyTerm(x impl.Term) impl.Term {
	kids := []impl.Term{}
	for _, kid := range x.Kids {
		kids = append(kids, roomyTerm(kid))
	}
	return impl.Term{Op: x.Op, N: x.N, Perm: roomy(x.Perm, markPair), Kids: roomy(kids, markTerm)}
}

// isRoomy reports whether x is still what roomyTerm has made of y.
func isRoomy(x, y impl.Term) bool {
	for _, pair := range x.Perm[len(x.Perm):cap(x.Perm)][:50] {
		if pair != markPair {
			return false
		}
	}
	for _, kid := range x.Kids[len(x.Kids):cap(x.Kids)][:50] {
		if !same(kid, markTerm) {
			return false
		}
	}
	return x.Op == y.Op && x.N == y.N && slices.Equal(x.Perm, y.Perm) && slices.EqualFunc(x.Kids, y.Kids, isRoomy)
}

// overwriteTerm writes over all memory of a result.
func overwriteTerm(x impl.Term) {
	for _, kid := range x.Kids {
		overwriteTerm(kid)
	}
	overwrite(x.Perm, impl.Pair{From: 77, To: 77})
	overwrite(x.Kids, impl.Term{Op: 77, N: 77})
}

// useTerms calls every function of chapter 2, and writes over all that is
// returned.
func useTerms(p []impl.Pair, x, y impl.Term) {
	overwrite(impl.FreeAtoms(x), 77)
	overwrite(impl.AtomsOf(x), 77)
	overwrite(impl.HolesOf(x), 77)
	for a := range 4 {
		z, _ := impl.ReplaceAtom(x, a, y)
		overwriteTerm(z)
		impl.IsFreshFor(a, x)
	}
	z, _ := impl.ActOn(p, x)
	overwriteTerm(z)
	z, _ = impl.ActOn(nil, x)
	overwriteTerm(z)
	z, _ = impl.CanonicalTerm(x)
	overwriteTerm(z)
	z, _ = impl.ParseTerm(impl.FormatTerm(x))
	overwriteTerm(z)
	impl.IsTerm(x)
	impl.IsGround(x)
	impl.SizeOfTerm(x)
	impl.SameTerms(x, y)
	impl.AlphaEqual(x, y)
}

func TestTermsStay(t *testing.T) {
	l := terms(t, "a0", "f0", "X1", "(0 1 2)X1", "[a0]f2(a0,a1)", "[a1]f3(a1,a2,[a0]a1)", "f2(a1,[a0]f1((0 1)X2))", "f3(a0,a0,a0)", "[a3][a1]f3(a1,a3,a0)")
	for _, why := range []string{"an atom with Perm", "an atom with a kid", "a binder with two kids", "a kid that is none", "a hole, Perm descending", "61 nodes"} {
		bad, found := notTerms()[why]
		if !found {
			t.Fatal(why)
		}
		l = append(l, bad)
	}
	for _, x := range l {
		for _, y := range l {
			first, second, p := roomyTerm(x), roomyTerm(y), roomy(read(t, "(0 1)(2 3)"), markPair)
			whole := slices.Clone(p[:cap(p)])
			useTerms(p, first, second)
			if !isRoomy(first, x) || !isRoomy(second, y) || !slices.Equal(p[:cap(p)], whole) {
				t.Errorf("%v and %v: an argument is changed", x, y)
			}
			useTerms(p, first, first)
			if !isRoomy(first, x) {
				t.Errorf("%v: an argument is changed", x)
			}
		}
	}
}

// places tells where the elements of all slices in a value are kept, those of
// their spare capacity too, and whether one of them is found twice.
func places(x impl.Term, found map[any]bool) bool {
	alone := true
	perm, kids := x.Perm[:cap(x.Perm)], x.Kids[:cap(x.Kids)]
	for i := range perm {
		alone = alone && !found[&perm[i]]
		found[&perm[i]] = true
	}
	for i := range kids {
		alone = alone && !found[&kids[i]]
		found[&kids[i]] = true
	}
	for _, kid := range x.Kids {
		alone = places(kid, found) && alone
	}
	return alone
}

// A result shares no memory with an argument, and no two slices in it do.
func TestTermsStandAlone(t *testing.T) {
	for _, x := range someTerms(500, true) {
		for _, p := range []string{"()", "(0 1)", "(0 1 2)(5 6)"} {
			found := map[any]bool{}
			if !places(x, found) {
				t.Fatal("the argument shares memory")
			}
			perm := read(t, p)
			places(impl.Term{Perm: perm}, found)
			if got, ok := impl.ActOn(perm, x); !ok || !places(got, found) {
				t.Fatalf("%s on %s shares memory", p, impl.FormatTerm(x))
			}
		}
	}
	for _, x := range someTerms(500, false) {
		found := map[any]bool{}
		u := node(2, bind(0, atom(1)), atom(2))
		places(x, found)
		places(u, found)
		if got, ok := impl.CanonicalTerm(x); !ok || !places(got, found) {
			t.Fatalf("canonical of %s shares memory", impl.FormatTerm(x))
		}
		for a := range 3 {
			if got, ok := impl.ReplaceAtom(x, a, u); ok && !places(got, found) {
				t.Fatalf("%d replaced in %s shares memory", a, impl.FormatTerm(x))
			}
		}
		if got, ok := impl.ParseTerm(impl.FormatTerm(x)); !ok || !places(got, found) {
			t.Fatalf("%s shares memory", impl.FormatTerm(x))
		}
	}
}

// Nothing is kept from call to call.
func TestTermCallsAreAlike(t *testing.T) {
	first := []string{}
	for range 2 {
		now := []string{}
		for _, text := range []string{"[a3][a1]f3(a1,a3,a0)", "f2(a1,[a0]f1((0 1)X2))", "f2(a0", "a0"} {
			x, _ := impl.ParseTerm(text)
			c, _ := impl.CanonicalTerm(x)
			r, _ := impl.ReplaceAtom(x, 0, x)
			now = append(now, impl.FormatTerm(x), impl.FormatTerm(c), impl.FormatTerm(r))
			useTerms(impl.SwapOf(0, 1), x, c)
			now = append(now, impl.FormatTerm(x), impl.FormatTerm(c), impl.FormatTerm(r))
		}
		if len(first) > 0 && !slices.Equal(first, now) {
			t.Error(first, now)
		}
		first = now
	}
}
