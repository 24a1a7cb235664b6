package tests

import (
	"slices"
	"testing"

	"loop.example/g03112/impl"
)

func TestHoldsFor(t *testing.T) {
	for _, c := range []struct {
		l    []string
		x    impl.Solution
		want bool
	}{
		{nil, solution(t, "-"), true},
		{nil, solution(t, "a0#X0", "a0"), true}, // it need not be sensible
		{[]string{"a0 = a0"}, solution(t, "-"), true},
		{[]string{"a0 = a1"}, solution(t, "-"), false},
		{[]string{"[a0]a0 = [a1]a1"}, solution(t, "-"), true},
		{[]string{"X0 = a0"}, solution(t, "-", "a0"), true},
		{[]string{"X0 = a0"}, solution(t, "-", "a1"), false},
		{[]string{"X0 = a0"}, solution(t, "-"), false},
		{[]string{"X0 = a0"}, solution(t, "-", "a0", "a1", "f1(X0)"), true}, // it may bind more
		{[]string{"X0 = a0", "X1 = X0"}, solution(t, "-", "a0", "a0"), true},
		{[]string{"X0 = a0", "X1 = X0"}, solution(t, "-", "a0", "a1"), false},
		{[]string{"X1 = X0", "X0 = a0"}, solution(t, "-", "a1", "a1"), false},
		{[]string{"X0 = X1"}, solution(t, "-", "X1"), true},
		{[]string{"X0 = X1"}, solution(t, "-", "", "X0"), true},
		{[]string{"X0 = X1"}, solution(t, "-", "X1", "X0"), false},
		{[]string{"X0 = f1(X0)"}, solution(t, "-", "f1(X0)"), false},
		{[]string{"(0 1)X0 = X0"}, solution(t, "-"), false},
		{[]string{"(0 1)X0 = X0"}, solution(t, "a0#X0"), false},
		{[]string{"(0 1)X0 = X0"}, solution(t, "a0#X0,a1#X0"), true},
		{[]string{"(0 1)X0 = X0"}, solution(t, "a0#X0,a1#X0,a2#X0,a0#X3"), true},
		{[]string{"(0 1)X0 = X0"}, solution(t, "a0#X0,a1#X0", "X1"), false}, // the context is of what is left
		{[]string{"(0 1)X0 = X0"}, solution(t, "a0#X1,a1#X1", "X1"), true},
		{[]string{"(0 1)X0 = X0"}, solution(t, "-", "[a0]f2(a0,a2)"), true},
		{[]string{"[a0]X0 = [a1]X1"}, solution(t, "a0#X1", "(0 1)X1"), true},
		{[]string{"[a0]X0 = [a1]X1"}, solution(t, "-", "(0 1)X1"), false},
		{[]string{"[a0]X0 = [a1]X1"}, solution(t, "a1#X0", "", "(0 1)X0"), true},
		{[]string{"[a0]X0 = [a1]X1"}, solution(t, "a0#X0", "", "(0 1)X0"), false},
		{[]string{"[a0]X0 = [a1]X1"}, solution(t, "-", "f1(a0)", "f1(a1)"), true},
	} {
		if got := impl.HoldsFor(problem(t, c.l...), c.x); got != c.want {
			t.Errorf("%s for %v: %v", impl.FormatSolution(c.x), c.l, got)
		}
	}
}

func TestHoldsForAtTheLimit(t *testing.T) {
	two := node(2, hole(0), hole(0))
	for _, c := range []struct {
		why  string
		l    []impl.Equation
		u    impl.Term
		want bool
	}{
		{"59 nodes", equation(two, two), under(28, atom(0)), true},
		{"61 nodes", equation(two, two), under(29, atom(0)), false},
		{"61 nodes in the last one", slices.Concat(equation(hole(0), hole(0)), equation(two, two)), under(29, atom(0)), false},
		{"61 nodes in what is not there", equation(hole(0), hole(0)), under(29, atom(0)), true},
		{"40 moved", equation(hole(0, rotation(0, 38)...), hole(0, rotation(0, 38)...)), hole(0, impl.SwapOf(38, 39)...), true},
		{"42 moved", equation(hole(0, rotation(0, 40)...), hole(0, rotation(0, 40)...)), hole(0, impl.SwapOf(40, 41)...), false},
		{"8 equations", slices.Repeat(equation(hole(0), atom(0)), 8), atom(0), true},
	} {
		if got := impl.HoldsFor(c.l, impl.Solution{Subst: binding(0, c.u)}); got != c.want {
			t.Errorf("%s: %v", c.why, got)
		}
	}
	all := impl.Solution{Subst: allBound(atom(0)), Context: freshFrom(0, 40, 9)}
	if !impl.HoldsFor(problem(t, "f3(X0,X4,X9) = f3(X1,X5,a0)"), all) {
		t.Error("all holes are bound")
	}
}

func TestHoldsForInvalid(t *testing.T) {
	for why, l := range notProblems() {
		for _, x := range []impl.Solution{{}, {Subst: allBound(atom(0))}, {Subst: allBound(impl.Term{})}} {
			if impl.HoldsFor(l, x) {
				t.Errorf("%s: a solution holds", why)
			}
		}
	}
	for why, x := range notSolutions() {
		// Also if nothing depends on it.
		for _, l := range [][]impl.Equation{nil, equation(atom(0), atom(0)), equation(hole(9), hole(9))} {
			if impl.HoldsFor(l, x) {
				t.Errorf("%s holds", why)
			}
		}
	}
}

func TestComesOf(t *testing.T) {
	for _, c := range []struct {
		x    impl.Solution
		l    []string
		want bool
	}{
		{solution(t, "-"), nil, true},
		{solution(t, "-"), []string{"a0"}, true},
		{solution(t, "-"), []string{"a0", "", "f2(a0,[a1]a1)"}, true},
		{solution(t, "-", "a0"), nil, true}, // only what l binds is looked at
		{solution(t, "-", "a0"), []string{"a0"}, true},
		{solution(t, "-", "a0"), []string{"a1"}, false},
		{solution(t, "-", "a0"), []string{"", "a5"}, true},
		{solution(t, "-", "a0"), []string{"a0", "a5"}, true},
		{solution(t, "-", "f1(X1)"), []string{"f1(a0)", "a0"}, true},
		{solution(t, "-", "f1(X1)"), []string{"f1(a0)", "a1"}, false},
		{solution(t, "-", "f1(X1)"), []string{"f1(a0)"}, false}, // X1 is left in what is made
		{solution(t, "-", "f1(X1)"), []string{"", "a0"}, true},
		{solution(t, "-", "(0 1 2)X1"), []string{"a2", "a1"}, true},
		{solution(t, "-", "(0 1 2)X1"), []string{"a1", "a2"}, false},
		{solution(t, "-", "[a0]f2(a0,X1)"), []string{"[a1]f2(a1,a2)", "a2"}, true}, // up to renaming
		{solution(t, "-", "[a0]f2(a0,X1)"), []string{"[a1]f2(a1,a1)", "a0"}, true},
		{solution(t, "-", "[a0]f2(a0,X1)"), []string{"[a1]f2(a1,a0)", "a0"}, false},
		{solution(t, "-", "X1"), []string{"[a1]a1", "[a0]a0"}, true},
		{solution(t, "a0#X0"), nil, false}, // the element is left
		{solution(t, "a0#X0"), []string{"a1"}, true},
		{solution(t, "a0#X0"), []string{"a0"}, false},
		{solution(t, "a0#X0"), []string{"[a0]a0"}, true},
		{solution(t, "a0#X0"), []string{"[a0]f2(a0,a1)", "a0"}, true},
		{solution(t, "a0#X0"), []string{"", "a1"}, false},
		{solution(t, "a0#X0,a1#X1"), []string{"a1", "a0"}, true},
		{solution(t, "a0#X0,a1#X1"), []string{"a1", "a1"}, false},
		{solution(t, "a0#X1", "(0 1)X1"), []string{"a0", "a1"}, true},
		{solution(t, "a0#X1", "(0 1)X1"), []string{"a1", "a0"}, false},
		{solution(t, "-"), []string{"X0"}, false}, // a term with holes is equal to none
		{solution(t, "-"), []string{"a0", "X1"}, false},
		{solution(t, "-"), []string{"X1", "a0"}, false},
		{solution(t, "-", "X1"), []string{"f1(X2)", "f1(X2)"}, false},
		{solution(t, "a0#X0"), []string{"f1(X1)"}, false}, // and a0 is to be fresh for X1 then
		{solution(t, "-", "X1", "X0"), []string{"a0", "a0"}, true},
		{solution(t, "-", "X1", "X0"), []string{"a0", "a1"}, false},
	} {
		if got := impl.ComesOf(c.x, bindings(t, c.l...)); got != c.want {
			t.Errorf("%v of %s: %v", c.l, impl.FormatSolution(c.x), got)
		}
	}
}

func TestComesOfAtTheLimit(t *testing.T) {
	most := impl.Solution{Subst: allBound(hole(9)), Context: freshFrom(0, 40, 9)}
	if !impl.ComesOf(most, allBound(under(59, atom(40)))) || impl.ComesOf(most, allBound(under(59, atom(39)))) {
		t.Error("all holes, 40 elements and 60 nodes")
	}
	// What is made of X0 has 59 nodes, and with one more in X1 it is no term.
	two := impl.Solution{Subst: binding(0, node(2, hole(1), hole(1)))}
	u := under(28, atom(0))
	if !impl.ComesOf(two, slices.Concat(binding(0, node(2, u, u)), binding(1, u))) {
		t.Error("59 nodes")
	}
	if impl.ComesOf(two, slices.Concat(binding(0, node(2, u, u)), binding(1, node(1, u)))) {
		t.Error("61 nodes")
	}
}

func TestComesOfInvalid(t *testing.T) {
	for why, x := range notSolutions() {
		// Also if nothing depends on it.
		for _, l := range [][]impl.Binding{nil, binding(9, atom(500)), allBound(atom(500))} {
			if impl.ComesOf(x, l) {
				t.Errorf("%v comes of %s", l, why)
			}
		}
	}
	for why, l := range notSubstitutions() {
		for _, x := range []impl.Solution{{}, {Subst: l}, {Context: freshes(5, 5)}} {
			if impl.ComesOf(x, l) {
				t.Errorf("%s comes of a solution", why)
			}
		}
	}
}

func TestFormatSolution(t *testing.T) {
	for want, x := range map[string]impl.Solution{
		"-":                                  {},
		"a0#X0":                              solution(t, "a0#X0"),
		"X0=a3 -":                            solution(t, "-", "a3"),
		"X1=f0 X2=a3 a0#X0":                  solution(t, "a0#X0", "", "f0", "a3"),
		"X0=(0 1)X1 a0#X1,a1#X1":             solution(t, "a0#X1,a1#X1", "(0 1)X1"),
		"X0=[a0]f2(a0,(0 1)(2 3)X9) X9=X9 -": solution(t, "-", "[a0]f2(a0,(0 1)(2 3)X9)", "", "", "", "", "", "", "", "", "X9"),
		"X0=f0 X1=f0 X2=f0 X3=f0 X4=f0 X5=f0 X6=f0 X7=f0 X8=f0 X9=f0 a5#X9": {Subst: allBound(node(0)), Context: freshes(5, 9)},
	} {
		if got := impl.FormatSolution(x); got != want {
			t.Errorf("%q instead of %q", got, want)
		}
	}
	for why, x := range notSolutions() {
		if got := impl.FormatSolution(x); got != "" {
			t.Errorf("%s: %q", why, got)
		}
	}
}
