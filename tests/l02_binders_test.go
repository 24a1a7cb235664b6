package tests

import (
	"testing"

	"loop.example/g03112/impl"
)

func TestAlphaEqual(t *testing.T) {
	for _, c := range []struct {
		s, t string
		want bool
	}{
		{"a0", "a0", true},
		{"a0", "a1", false},
		{"f0", "f0", true},
		{"f0", "f4", false},
		{"f1(a0)", "f5(a0)", false},
		{"f1(a0)", "a0", false},
		{"a0", "f0", false},
		{"f1(a0)", "[a1]a0", false},
		{"[a1]a0", "f1(a0)", false},
		{"[a1]a0", "a0", false},
		{"f2(a0,a1)", "f2(a0,a1)", true},
		{"f2(a0,a1)", "f2(a1,a0)", false},
		{"[a0]a0", "[a1]a1", true},
		{"[a0]a0", "[a0]a0", true},
		{"[a0]a0", "[a0]a1", false},
		{"[a0]a1", "[a0]a1", true},
		{"[a0]a1", "[a2]a1", true},  // what is bound occurs nowhere
		{"[a0]a1", "[a1]a1", false}, // what is free here is bound there
		{"[a1]a1", "[a0]a1", false},
		{"[a0]f2(a0,a1)", "[a2]f2(a2,a1)", true},
		{"[a0]f2(a0,a1)", "[a1]f2(a1,a1)", false},
		{"[a1]f2(a1,a1)", "[a0]f2(a0,a1)", false},
		{"[a0]f2(a0,a1)", "[a2]f2(a2,a0)", false}, // a0 is free in the second body
		{"[a0]f2(a0,a1)", "[a1]f2(a1,a0)", false}, // the swap alone would make them the same
		{"[a1]f2(a1,a0)", "[a0]f2(a0,a1)", false},
		{"[a0][a1]f2(a0,a1)", "[a1][a0]f2(a1,a0)", true},
		{"[a0][a1]f2(a0,a1)", "[a1][a0]f2(a0,a1)", false},
		{"[a0][a1]f2(a0,a1)", "[a0][a1]f2(a1,a0)", false},
		{"[a0][a0]a0", "[a1][a0]a0", true},  // the inner one binds
		{"[a0][a0]a0", "[a0][a1]a0", false}, // the outer one does
		{"[a0][a0]a0", "[a0][a1]a1", true},
		{"[a0][a1]a0", "[a1][a0]a1", true},
		{"[a0][a1]a0", "[a2][a2]a2", false},
		{"[a0][a1][a0]f2(a0,a1)", "[a5][a6][a7]f2(a7,a6)", true},
		{"[a0][a1][a0]f2(a0,a1)", "[a5][a6][a7]f2(a5,a6)", false},
		{"f2([a0]a0,a0)", "f2([a1]a1,a0)", true},
		{"f2([a0]a0,a0)", "f2([a1]a1,a1)", false},
		{"[a0]f2([a1]f2(a0,a1),a1)", "[a2]f2([a0]f2(a2,a0),a1)", true},
		{"[a0]f2([a1]f2(a0,a1),a1)", "[a2]f2([a0]f2(a0,a2),a1)", false},
		{"[a0]f2([a1]f2(a0,a1),a1)", "[a1]f2([a0]f2(a1,a0),a1)", false},
		{"X0", "X0", false}, // not ground
		{"X0", "a0", false},
		{"a0", "X0", false},
		{"[a0]X0", "[a0]X0", false},
		{"f2(a0,X1)", "f2(a0,X1)", false},
		{"f2(a0,f0)", "f2(a0,X1)", false},
	} {
		if got := impl.AlphaEqual(term(t, c.s), term(t, c.t)); got != c.want {
			t.Errorf("%s and %s: %v", c.s, c.t, got)
		}
		if got := impl.AlphaEqual(term(t, c.t), term(t, c.s)); got != c.want {
			t.Errorf("%s and %s: %v", c.t, c.s, got)
		}
	}
	for why, x := range notTerms() {
		if impl.AlphaEqual(x, x) || impl.AlphaEqual(x, atom(0)) || impl.AlphaEqual(atom(0), x) {
			t.Errorf("%s: equal", why)
		}
	}
}

func TestIsFreshFor(t *testing.T) {
	for _, c := range []struct {
		a    int
		x    string
		want bool
	}{
		{0, "a1", true},
		{1, "a1", false},
		{0, "f0", true},
		{0, "[a0]a0", true},
		{0, "[a1]a0", false},
		{1, "[a1]a0", true},
		{0, "f2([a0]a0,a0)", false},
		{0, "f2(a0,[a0]a0)", false},
		{0, "f2(a1,[a0]a0)", true},
		{999, "f2(a1,[a0]a0)", true},
		{999, "f2(a1,[a0]a999)", false},
		{0, "X1", false}, // not ground
		{5, "f2(a0,(0 1)X1)", false},
	} {
		if got := impl.IsFreshFor(c.a, term(t, c.x)); got != c.want {
			t.Errorf("%d for %s: %v", c.a, c.x, got)
		}
	}
	for _, a := range notAtoms {
		if impl.IsFreshFor(a, atom(0)) || impl.IsFreshFor(a, node(0)) || impl.IsFreshFor(a, atom(a)) {
			t.Errorf("%d is no atom", a)
		}
	}
	for why, x := range notTerms() {
		if impl.IsFreshFor(500, x) {
			t.Errorf("%s: fresh", why)
		}
	}
}

func TestCanonicalTerm(t *testing.T) {
	for _, c := range []struct{ x, want string }{
		{"a7", "a7"},
		{"f0", "f0"},
		{"f2(a3,a1)", "f2(a3,a1)"}, // free atoms stay
		{"[a0]a0", "[a0]a0"},
		{"[a7]a7", "[a0]a0"},
		{"[a7]a3", "[a0]a3"},
		{"[a7]a0", "[a1]a0"},
		{"[a0]a7", "[a0]a7"},
		{"[a5]f3(a5,a0,a2)", "[a1]f3(a1,a0,a2)"},
		{"[a3][a1]f3(a1,a3,a0)", "[a1][a2]f3(a2,a1,a0)"},
		{"[a0][a1]f2(a0,a1)", "[a0][a1]f2(a0,a1)"},
		{"[a1][a0]f2(a0,a1)", "[a0][a1]f2(a1,a0)"}, // the inner binder is swapped by the outer one
		{"[a4][a4]a4", "[a0][a0]a0"},               // the outer atom is not free in the inner binder
		{"[a4][a5]a5", "[a0][a0]a0"},
		{"[a4][a5]a4", "[a0][a1]a0"},
		{"[a0][a0]a1", "[a0][a0]a1"},
		{"[a1][a0]a1", "[a0][a1]a0"},
		{"[a2][a0]f2(a1,a2)", "[a0][a2]f2(a1,a0)"},
		{"f2([a1]a1,[a1]a0)", "f2([a0]a0,[a1]a0)"},
		{"f3([a9][a8]f2(a8,a9),a0,[a9]f2(a0,a9))", "f3([a0][a1]f2(a1,a0),a0,[a1]f2(a0,a1))"},
		{"[a9]f2([a8]f2(a9,a8),[a7]f2(a0,a7))", "[a1]f2([a0]f2(a1,a0),[a1]f2(a0,a1))"},
		{"[a9][a0][a9]f3(a0,a9,a1)", "[a0][a0][a2]f3(a0,a2,a1)"},
	} {
		x, ok := impl.CanonicalTerm(term(t, c.x))
		if got := impl.FormatTerm(x); !ok || got != c.want {
			t.Errorf("canonical of %s: %s instead of %s", c.x, got, c.want)
		}
	}
	for _, text := range []string{"X0", "[a0]X1", "f2([a5]a5,X1)"} {
		if got, ok := impl.CanonicalTerm(term(t, text)); ok || !isZero(got) {
			t.Errorf("%s is not ground: %v", text, got)
		}
	}
	for why, x := range notTerms() {
		if got, ok := impl.CanonicalTerm(x); ok || !isZero(got) {
			t.Errorf("%s: done", why)
		}
	}
}

// Each binder binds an atom of its own, down to the last node.
func TestCanonicalOfDeepTerm(t *testing.T) {
	x := node(11, atom(950), atom(0), atom(999))
	for i := range 56 {
		x = node(5, x)
		if i%2 == 0 {
			x = impl.Term{Op: impl.TmBind, N: 999 - i, Kids: x.Kids}
		}
	}
	got, ok := impl.CanonicalTerm(x)
	if !ok || !canonicalIn(got) || namelessAlone(got) != namelessAlone(x) {
		t.Error(impl.FormatTerm(got))
	}
}

func TestReplaceAtom(t *testing.T) {
	for _, c := range []struct {
		x    string
		a    int
		u    string
		want string
	}{
		{"a1", 1, "f1(a5)", "f1(a5)"},
		{"a1", 0, "f1(a5)", "a1"},
		{"f0", 1, "a5", "f0"},
		{"f3(a1,a0,a1)", 1, "f1(a1)", "f3(f1(a1),a0,f1(a1))"}, // at once, not again
		{"f2(a1,[a1]a1)", 1, "a0", "f2(a0,[a1]a1)"},           // what is bound stays
		{"[a0]f2(a0,a1)", 1, "a0", "[a2]f2(a2,a0)"},
		{"[a0]f2(a0,a1)", 1, "a5", "[a0]f2(a0,a5)"},         // nothing would be caught
		{"[a0]f2(a0,a1)", 1, "[a0]a0", "[a0]f2(a0,[a0]a0)"}, // a0 is not free there
		{"[a0]f2(a0,a1)", 1, "a1", "[a0]f2(a0,a1)"},
		{"[a0]f2(a0,a1)", 1, "f2(a0,a1)", "[a2]f2(a2,f2(a0,a1))"},
		{"[a0]a0", 1, "a0", "[a0]a0"}, // a1 is not free: it stays as it is
		{"[a0]a0", 0, "a1", "[a0]a0"},
		{"[a1]f2(a0,a1)", 1, "f2(a0,a1)", "[a1]f2(a0,a1)"},
		{"[a3]f2(a3,a1)", 1, "a3", "[a0]f2(a0,a3)"},                     // not free in the body nor in u
		{"[a3]f3(a3,a1,a0)", 1, "a3", "[a2]f3(a2,a3,a0)"},               // a0 in the body, a1 replaced
		{"[a3]f2(a3,a1)", 1, "f2(a3,a0)", "[a2]f2(a2,f2(a3,a0))"},       // a0 in u
		{"[a3]f3(a3,a1,a0)", 1, "f2(a3,a2)", "[a4]f3(a4,f2(a3,a2),a0)"}, // a0, a1, a2, a3
		{"[a3]a0", 0, "a3", "[a1]a3"},                                   // not a0, which is replaced
		{"[a3]f2([a0]a0,a1)", 1, "a3", "[a0]f2([a3]a3,a3)"},             // bound in the body alone, and swapped
		{"[a0][a2]f3(a0,a1,a2)", 1, "a0", "[a2][a3]f3(a2,a0,a3)"},       // the swap makes the inner one catch too
		{"[a0][a1]f2(a0,a1)", 1, "a0", "[a0][a1]f2(a0,a1)"},
		{"[a2][a2]f2(a1,a2)", 1, "a2", "[a0][a0]f2(a2,a0)"},
		{"[a2][a3]f2(a1,a2)", 1, "a2", "[a0][a3]f2(a2,a0)"},
		{"[a2][a3]f3(a1,a2,a3)", 1, "f2(a2,a3)", "[a0][a4]f3(f2(a2,a3),a0,a4)"},
		{"f2([a0]a1,[a2]a1)", 1, "a0", "f2([a2]a0,[a2]a0)"},
		{"f2([a0]a1,[a0]a2)", 1, "a0", "f2([a2]a0,[a0]a2)"},         // only where a1 is free
		{"[a0]f2([a0]a2,a1)", 1, "a0", "[a3]f2([a3]a2,a0)"},         // the swap goes through
		{"[a0][a1]a2", 2, "f2([a0]a0,a1)", "[a0][a0]f2([a0]a0,a1)"}, // the inner one alone would catch
		{"a999", 999, "[a999]a999", "[a999]a999"},
	} {
		x, ok := impl.ReplaceAtom(term(t, c.x), c.a, term(t, c.u))
		if got := impl.FormatTerm(x); !ok || got != c.want {
			t.Errorf("%s in the place of %d in %s: %s instead of %s", c.u, c.a, c.x, got, c.want)
		}
	}
}

func TestReplaceAtTheLimit(t *testing.T) {
	three := node(2, atom(0), atom(0))
	for _, c := range []struct {
		x, u impl.Term
		ok   bool
	}{
		{under(59, atom(0)), atom(1), true},
		{under(58, atom(0)), node(1, atom(1)), true},
		{under(58, atom(0)), node(2, atom(1), atom(1)), false},
		{under(59, atom(0)), node(1, atom(1)), false},
		{under(59, atom(1)), under(59, atom(0)), true}, // there is no place for it
		{under(1, bind(0, atom(0))), under(59, atom(0)), true},
		{atom(0), under(59, atom(0)), true},
		{under(1, atom(0)), under(59, atom(0)), false},
		{three, under(28, atom(0)), true},
		{node(2, three, atom(1)), under(28, atom(0)), false},
		{wide(9, atom(0)), node(1, atom(0)), true},
		{wide(9, atom(0)), node(2, atom(0), atom(0)), false},
		{wide(19, atom(0)), under(59, atom(0)), false},
	} {
		got, ok := impl.ReplaceAtom(c.x, 0, c.u)
		if ok != c.ok || !ok && !isZero(got) || ok && !impl.IsTerm(got) {
			t.Errorf("%v in the place of 0 in %v: %v, %v", c.u, c.x, got, ok)
		}
	}
}

func TestReplaceInvalid(t *testing.T) {
	for _, a := range notAtoms {
		if got, ok := impl.ReplaceAtom(atom(0), a, atom(1)); ok || !isZero(got) {
			t.Errorf("%d is no atom: %v", a, got)
		}
	}
	for _, x := range terms(t, "X0", "[a0]X1", "f2(a1,(0 1)X1)") {
		if got, ok := impl.ReplaceAtom(x, 1, atom(2)); ok || !isZero(got) {
			t.Errorf("%v is not ground: %v", x, got)
		}
		// Also if there is no place for it.
		if got, ok := impl.ReplaceAtom(atom(0), 1, x); ok || !isZero(got) {
			t.Errorf("%v is not ground: %v", x, got)
		}
	}
	for why, x := range notTerms() {
		if got, ok := impl.ReplaceAtom(x, 1, atom(2)); ok || !isZero(got) {
			t.Errorf("%s: done", why)
		}
		if got, ok := impl.ReplaceAtom(atom(0), 1, x); ok || !isZero(got) {
			t.Errorf("%s: done", why)
		}
	}
}
