package tests

import (
	"slices"
	"testing"

	"loop.example/g03112/impl"
)

func TestIsProblem(t *testing.T) {
	for _, l := range [][]impl.Equation{
		nil, {}, equation(atom(0), atom(1)), equation(hole(0), hole(0)), equation(under(59, hole(9)), wide(19, atom(999))),
		slices.Repeat(equation(atom(0), atom(1)), 8), problem(t, "X0 = f1(X0)", "X0 = a0"),
	} {
		if !impl.IsProblem(l) {
			t.Errorf("%s: a problem", problemText(l))
		}
	}
	for why, l := range notProblems() {
		if impl.IsProblem(l) {
			t.Errorf("%s: a problem", why)
		}
	}
}

func TestHolesIn(t *testing.T) {
	for _, c := range []struct {
		l    []string
		want []int
	}{
		{nil, nil},
		{[]string{"a0 = f0"}, nil},
		{[]string{"X3 = a0"}, []int{3}},
		{[]string{"a0 = X3"}, []int{3}},
		{[]string{"X3 = (0 1)X3"}, []int{3}},
		{[]string{"X9 = X0"}, []int{0, 9}},
		{[]string{"f3(X2,a1,[a0]X1) = X1", "a0 = a0", "f1(X0) = f2(X9,X2)"}, []int{0, 1, 2, 9}},
		{[]string{"f3(X9,X8,X7) = f2(X6,X5)", "f3(X4,X3,X2) = f2(X1,X0)"}, []int{0, 1, 2, 3, 4, 5, 6, 7, 8, 9}},
	} {
		if got := impl.HolesIn(problem(t, c.l...)); !slices.Equal(got, c.want) {
			t.Errorf("%v: %v", c.l, got)
		}
	}
	for why, l := range notProblems() {
		if got := impl.HolesIn(l); len(got) != 0 {
			t.Errorf("%s: %v", why, got)
		}
	}
	if got := impl.HolesIn(append(equation(hole(0), hole(1)), equation(impl.Term{}, atom(0))...)); len(got) != 0 {
		t.Error("holes before what is no term:", got)
	}
}

// checkSolved solves each list of equations, and compares the answers.
func checkSolved(t *testing.T, cases []solved) {
	t.Helper()
	for _, c := range cases {
		if got := answer(impl.SolveProblem(problem(t, c.l...))); got != c.want {
			t.Errorf("%v: %s instead of %s", c.l, got, c.want)
		}
	}
}

type solved struct {
	l    []string
	want string
}

func TestSolveWithoutBinders(t *testing.T) {
	checkSolved(t, []solved{
		{nil, "-"},
		{[]string{"a0 = a0"}, "-"},
		{[]string{"a0 = a1"}, "clash"},
		{[]string{"f0 = f0"}, "-"},
		{[]string{"f0 = f4"}, "clash"},
		{[]string{"f1(a0) = f5(a0)"}, "clash"},
		{[]string{"f1(a0) = f2(a0,a0)"}, "clash"},
		{[]string{"a0 = f0"}, "clash"},
		{[]string{"f0 = a0"}, "clash"},
		{[]string{"f1(a0) = [a0]a0"}, "clash"},
		{[]string{"[a0]a0 = f1(a0)"}, "clash"},
		{[]string{"[a0]a0 = a0"}, "clash"},
		{[]string{"a0 = [a0]a0"}, "clash"},
		{[]string{"f3(a0,a1,a2) = f3(a0,a1,a2)"}, "-"},
		{[]string{"f3(a0,a1,a2) = f3(a0,a1,a3)"}, "clash"},
		{[]string{"X0 = a0"}, "X0=a0 -"},
		{[]string{"a0 = X0"}, "X0=a0 -"},
		{[]string{"X9 = f2(a0,X3)"}, "X9=f2(a0,X3) -"},
		{[]string{"X0 = X1"}, "X0=X1 -"}, // the left one is bound
		{[]string{"X1 = X0"}, "X1=X0 -"},
		{[]string{"f2(X0,X1) = f2(X1,X0)"}, "X0=X1 -"},
		{[]string{"f2(X0,X0) = f2(X1,X2)"}, "X0=X2 X1=X2 -"}, // first X0=X1, then X1=X2
		{[]string{"f2(X1,X2) = f2(X0,X0)"}, "X1=X0 X2=X0 -"},
		{[]string{"f2(X0,X0) = f2(a0,a0)"}, "X0=a0 -"},
		{[]string{"f2(X0,X0) = f2(a0,a1)"}, "clash"},
		{[]string{"f2(X0,a1) = f2(f1(X1),X1)"}, "X0=f1(a1) X1=a1 -"}, // bound later
		{[]string{"f2(X1,X0) = f2(a1,f1(X1))"}, "X0=f1(a1) X1=a1 -"}, // bound before
		{[]string{"X0 = f2(X1,X2)", "X1 = f2(X2,X3)", "X2 = f1(X3)", "X3 = a7"}, "X0=f2(f2(f1(a7),a7),f1(a7)) X1=f2(f1(a7),a7) X2=f1(a7) X3=a7 -"},
		{[]string{"X0 = a0", "X0 = a0"}, "X0=a0 -"},
		{[]string{"X0 = a0", "X0 = a1"}, "clash"},
		{[]string{"X0 = f1(X1)", "X0 = f1(a1)"}, "X0=f1(a1) X1=a1 -"},
	})
}

func TestSolveOccurs(t *testing.T) {
	checkSolved(t, []solved{
		{[]string{"X0 = f1(X0)"}, "occurs"},
		{[]string{"f1(X0) = X0"}, "occurs"},
		{[]string{"X0 = [a0]X0"}, "occurs"},
		{[]string{"[a0]X0 = X0"}, "occurs"},
		{[]string{"X0 = f3(a0,f1([a1](0 1)X0),X1)"}, "occurs"},
		{[]string{"(0 1)X0 = f1((0 1)X0)"}, "occurs"},
		{[]string{"X0 = f1(X1)"}, "X0=f1(X1) -"},
		{[]string{"X0 = f1(X1)", "X1 = f1(X0)"}, "occurs"},
		{[]string{"X0 = X1", "X1 = f1(X0)"}, "occurs"},
		{[]string{"X0 = X0"}, "-"}, // within itself, but the same hole
		{[]string{"X0 = X1", "X1 = X0"}, "X0=X1 -"},
		{[]string{"f2(X0,a0) = f2(f1(X0),a1)"}, "occurs"}, // what fails first tells the code
		{[]string{"f2(a0,X0) = f2(a1,f1(X0))"}, "clash"},
		{[]string{"X0 = f1(X0)", "a0 = a1"}, "occurs"},
		{[]string{"a0 = a1", "X0 = f1(X0)"}, "clash"},
		{[]string{"f1(a0) = f1(a1)", "X0 = f1(X0)"}, "clash"}, // kids come in front of the others
		{[]string{"f1(X0) = f1(f1(X0))", "a0 = a1"}, "occurs"},
		{[]string{"[a0]a0 = [a0]a1", "X0 = f1(X0)"}, "clash"},
		{[]string{"[a0]a0 = [a1]a2", "X0 = f1(X0)"}, "clash"},
		{[]string{"f2(f1(X0),a0) = f2(f1(f1(X0)),a1)"}, "occurs"},
		{[]string{"f2(f1(a0),X0) = f2(f1(a1),f1(X0))"}, "clash"},
	})
}

func TestSolvePermutations(t *testing.T) {
	checkSolved(t, []solved{
		{[]string{"(0 1 2)X0 = a0"}, "X0=a2 -"}, // a2 becomes a0
		{[]string{"a0 = (0 1 2)X0"}, "X0=a2 -"},
		{[]string{"(0 1 2)X0 = f2(a1,[a2]a3)"}, "X0=f2(a0,[a1]a3) -"},
		{[]string{"(0 1 2)X0 = X1"}, "X0=(0 2 1)X1 -"},
		{[]string{"X0 = (0 1 2)X1"}, "X0=(0 1 2)X1 -"},
		{[]string{"(0 1 2)X0 = (1 2)X1"}, "X0=(0 2)X1 -"}, // first (1 2), then (0 2 1)
		{[]string{"(0 1 2)X0 = (0 1 2)X1"}, "X0=X1 -"},
		{[]string{"f2((0 1)X0,X0) = f2(a0,a1)"}, "X0=a1 -"},
		{[]string{"f2((0 1)X0,X0) = f2(a0,a0)"}, "clash"},
		{[]string{"f2(X0,(0 1 2)X0) = f2((0 1)X1,a0)"}, "X0=a2 X1=a2 -"},
		{[]string{"(0 1)X0 = X0"}, "a0#X0,a1#X0"},
		{[]string{"X0 = (0 1)X0"}, "a0#X0,a1#X0"},
		{[]string{"(0 1)X0 = (0 1)X0"}, "-"},
		{[]string{"(0 1 2)X0 = (0 1)X0"}, "a1#X0,a2#X0"}, // not those that Perm gives
		{[]string{"(0 1)X1 = X1", "(0 2)X0 = X0", "(1 2)X1 = X1"}, "a0#X0,a2#X0,a0#X1,a1#X1,a2#X1"},
		{[]string{"f2(X0,X0) = f2((0 1)X1,X1)"}, "X0=(0 1)X1 a0#X1,a1#X1"},
		{[]string{"f2(X0,(1 2)X1) = f2((0 1)X1,X0)"}, "X0=(0 1)X1 a0#X1,a1#X1,a2#X1"},
	})
}

func TestSolveBinders(t *testing.T) {
	checkSolved(t, []solved{
		{[]string{"[a0]a0 = [a0]a0"}, "-"},
		{[]string{"[a0]a0 = [a1]a1"}, "-"},
		{[]string{"[a0]a1 = [a1]a0"}, "fresh"},
		{[]string{"[a0]a1 = [a1]a1"}, "clash"},
		{[]string{"[a0]a1 = [a1]f1(a0)"}, "clash"}, // the asks come last
		{[]string{"[a0]X0 = [a0]a0"}, "X0=a0 -"},
		{[]string{"[a0]X0 = [a0]X1"}, "X0=X1 -"},
		{[]string{"[a0]X0 = [a1]a1"}, "X0=a0 -"},
		{[]string{"[a0]X0 = [a1]a0"}, "fresh"},
		{[]string{"[a0]X0 = [a1]a2"}, "X0=a2 -"},
		{[]string{"[a0]a0 = [a1]X0"}, "X0=a1 -"}, // what the swap of a1 and a0 makes a0
		{[]string{"[a0]a1 = [a1]X0"}, "fresh"},   // it is a0, which must not be free
		{[]string{"[a0]a2 = [a1]X0"}, "X0=a2 -"},
		{[]string{"[a0]f2(a0,a2) = [a1]X0"}, "X0=f2(a1,a2) -"},
		{[]string{"[a0]X0 = [a1]X1"}, "X0=(0 1)X1 a0#X1"},
		{[]string{"[a1]X0 = [a0]X1"}, "X0=(0 1)X1 a1#X1"}, // of the left atom, in the right body
		{[]string{"[a0]X0 = [a1](0 1 2)X1"}, "X0=(1 2)X1 a2#X1"},
		{[]string{"[a0](0 1 2)X0 = [a1]X1"}, "X0=(1 2)X1 a0#X1"},
		{[]string{"[a0]X0 = [a1]X0"}, "a0#X0,a1#X0"},
		{[]string{"[a0]X0 = [a1](0 1)X0"}, "a1#X0"},
		{[]string{"[a0][a1]X0 = [a1][a0]X1"}, "X0=(0 1)X1 -"}, // a0 is bound in the body
		{[]string{"[a0][a1]X0 = [a2][a3]X1"}, "X0=(0 2)(1 3)X1 a0#X1,a1#X1"},
		{[]string{"[a0][a1]f2(X0,a1) = [a1][a0]f2(a1,X1)"}, "X0=a0 X1=a0 -"},
		{[]string{"[a0][a1]f2(X0,a1) = [a1][a0]f2(a1,a0)"}, "X0=a0 -"},
		{[]string{"[a0]f2(X0,X1) = [a1]f2(a1,a2)"}, "X0=a0 X1=a2 -"},
		{[]string{"f2([a0]X0,X0) = f2([a1]a1,a0)"}, "X0=a0 -"}, // what is put for a hole may be bound
		{[]string{"f2([a0]X0,X0) = f2([a1]a1,a1)"}, "clash"},
		{[]string{"[a0]X0 = [a0]f1(X0)"}, "occurs"},
		{[]string{"[a0]X0 = [a1]f1(X0)"}, "occurs"},
	})
}

// A hole that is bound is bound in the asks that are waiting too, whether it is
// bound by the equation of the bodies or by a later one.
func TestSolveWithAsksWaiting(t *testing.T) {
	checkSolved(t, []solved{
		{[]string{"[a0]X0 = [a1]X1", "X1 = a2"}, "X0=a2 X1=a2 -"},
		{[]string{"[a0]X0 = [a1]X1", "X1 = a1"}, "X0=a0 X1=a1 -"},
		{[]string{"[a0]X0 = [a1]X1", "X1 = a0"}, "fresh"},
		{[]string{"[a0]X0 = [a1]X1", "X0 = a0"}, "X0=a0 X1=a1 -"},
		{[]string{"[a0]X0 = [a1]X1", "X0 = a1"}, "fresh"},
		{[]string{"[a0]X0 = [a1]X1", "X1 = f1(X2)"}, "X0=f1((0 1)X2) X1=f1(X2) a0#X2"},
		{[]string{"[a0]X0 = [a1]X1", "X1 = (0 2)X2"}, "X0=(0 2 1)X2 X1=(0 2)X2 a2#X2"},
		{[]string{"[a0]X0 = [a1]X1", "X1 = [a0]X2"}, "X0=[a1](0 1)X2 X1=[a0]X2 -"},
		{[]string{"[a0]X0 = [a1]X1", "X1 = f1(X2)", "X2 = a0"}, "fresh"},
		{[]string{"[a0]X0 = [a1]X1", "X1 = f1(X2)", "X2 = f2(X3,[a0]X4)"}, "X0=f1(f2((0 1)X3,[a1](0 1)X4)) X1=f1(f2(X3,[a0]X4)) X2=f2(X3,[a0]X4) a0#X3"},
		{[]string{"(0 1)X0 = X0", "X0 = a2"}, "X0=a2 -"},
		{[]string{"(0 1)X0 = X0", "X0 = a1"}, "fresh"},
		{[]string{"(0 1)X0 = X0", "X0 = X1"}, "X0=X1 a0#X1,a1#X1"},
		{[]string{"(0 1)X0 = X0", "X0 = (1 2)X1"}, "X0=(1 2)X1 a0#X1,a2#X1"},
		{[]string{"(0 1)X0 = X0", "(1 2)X0 = X1"}, "X0=(1 2)X1 a0#X1,a2#X1"},
		{[]string{"(0 1)X0 = X0", "X0 = [a0]X1"}, "X0=[a0]X1 a1#X1"},
		{[]string{"(0 1)X0 = X0", "X0 = X1", "X1 = f2([a0]a0,X2)"}, "X0=f2([a0]a0,X2) X1=f2([a0]a0,X2) a0#X2,a1#X2"},
		{[]string{"f2((0 1)X0,X0) = f2(X0,f1(a0))"}, "fresh"},
		{[]string{"[a0]X0 = [a1]X1", "X1 = a0", "a0 = a1"}, "clash"}, // the asks come last
		{[]string{"[a0]X0 = [a1]X1", "X1 = a0", "X2 = f1(X2)"}, "occurs"},
	})
}

func TestUnifyTerms(t *testing.T) {
	for _, c := range []struct{ s, t, want string }{
		{"a0", "a0", "-"},
		{"[a0]X0", "[a1]f1(a1)", "X0=f1(a0) -"},
		{"[a0]X0", "[a1]f1(a0)", "fresh"},
		{"[a0]X0", "[a1]X1", "X0=(0 1)X1 a0#X1"},
		{"[a1]X1", "[a0]X0", "X1=(0 1)X0 a1#X0"},
		{"X0", "f1(X0)", "occurs"},
		{"f1(X0)", "f5(a0)", "clash"},
	} {
		if got := answer(impl.UnifyTerms(term(t, c.s), term(t, c.t))); got != c.want {
			t.Errorf("%s and %s: %s instead of %s", c.s, c.t, got, c.want)
		}
	}
	for why, x := range notTerms() {
		for _, y := range []impl.Term{atom(0), hole(0), x} {
			if answer(impl.UnifyTerms(x, y)) != "bad" || answer(impl.UnifyTerms(y, x)) != "bad" {
				t.Errorf("%s: unified", why)
			}
		}
	}
}

func TestSolveInvalid(t *testing.T) {
	for why, l := range notProblems() {
		if got := answer(impl.SolveProblem(l)); got != "bad" {
			t.Errorf("%s: %s", why, got)
		}
	}
	// Also if it would end with another code before.
	for _, first := range []string{"a0 = a1", "X0 = f1(X0)"} {
		if got := answer(impl.SolveProblem(append(problem(t, first), equation(impl.Term{}, atom(0))...))); got != "bad" {
			t.Errorf("%s: %s", first, got)
		}
	}
}

func TestMatchTerms(t *testing.T) {
	for _, c := range []struct{ pattern, t, want string }{
		{"a0", "a0", "-"},
		{"a0", "a1", "clash"},
		{"X0", "a1", "X0=a1 -"},
		{"f2(X1,[a0]X0)", "f2(a2,[a1]f1(a2))", "X0=f1(a2) X1=a2 -"},
		{"f2(X0,X0)", "f2([a0]a0,[a1]a1)", "X0=[a0]a0 -"}, // the first one is taken
		{"f2(X0,X0)", "f2([a1]a1,[a0]a0)", "X0=[a1]a1 -"},
		{"f2(X0,X0)", "f2([a0]a0,[a1]a0)", "clash"},
		{"[a0](0 1)X0", "[a2]f2(a2,a3)", "X0=f2(a1,a3) -"},
		{"[a0]X0", "[a1]a0", "fresh"},
		{"(0 1)X0", "f2(a0,a2)", "X0=f2(a1,a2) -"},
		{"X0", "X1", "bad"},
		{"X0", "X0", "bad"},
		{"a0", "X1", "bad"},
		{"a0", "f3(a0,[a0]f1((0 1)X5),f0)", "bad"},
	} {
		if got := answer(impl.MatchTerms(term(t, c.pattern), term(t, c.t))); got != c.want {
			t.Errorf("%s and %s: %s instead of %s", c.pattern, c.t, got, c.want)
		}
	}
	if got := answer(impl.MatchTerms(hole(0), under(59, atom(0)))); got != "X0="+impl.FormatTerm(under(59, atom(0)))+" -" {
		t.Error("60 nodes:", got)
	}
	for why, x := range notTerms() {
		for _, y := range []impl.Term{atom(0), hole(0), x} {
			if answer(impl.MatchTerms(x, y)) != "bad" || answer(impl.MatchTerms(y, x)) != "bad" {
				t.Errorf("%s: matched", why)
			}
		}
	}
}
