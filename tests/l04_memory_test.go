package tests

import (
	"slices"
	"strings"
	"testing"

	"loop.example/g03112/impl"
)

var markEquation = impl.Equation{Left: markTerm, Right: markTerm}

// roomyProblem is the same value, with spare capacity in each slice.
func roomyProblem(l []impl.Equation) []impl.Equation {
	m := []impl.Equation{}
	for _, e := range l {
		m = append(m, impl.Equation{Left: roomyTerm(e.Left), Right: roomyTerm(e.Right)})
	}
	return roomy(m, markEquation)
}

// isRoomyProblem reports whether l is still what roomyProblem has made of m.
func isRoomyProblem(l, m []impl.Equation) bool {
	for _, e := range l[len(l):cap(l)][:50] {
		if !same(e.Left, markTerm) || !same(e.Right, markTerm) {
			return false
		}
	}
	return slices.EqualFunc(l, m, func(x, y impl.Equation) bool { return isRoomy(x.Left, y.Left) && isRoomy(x.Right, y.Right) })
}

func overwriteSolution(x impl.Solution, _ int) {
	overwriteBindings(x.Subst)
	overwrite(x.Context, spoiltFresh)
}

// useProblems calls every function of chapter 4, and writes over all that is
// returned.
func useProblems(l []impl.Equation, x impl.Solution, s []impl.Binding) {
	impl.IsProblem(l)
	overwrite(impl.HolesIn(l), 77)
	overwriteSolution(impl.SolveProblem(l))
	for _, e := range l {
		overwriteSolution(impl.UnifyTerms(e.Left, e.Right))
		overwriteSolution(impl.UnifyTerms(e.Left, e.Left))
		overwriteSolution(impl.MatchTerms(e.Left, e.Right))
	}
	impl.HoldsFor(l, x)
	impl.ComesOf(x, s)
	impl.FormatSolution(x)
}

func someProblems(t *testing.T) [][]impl.Equation {
	l := [][]impl.Equation{
		nil,
		problem(t, "f2(X0,(0 1)X1) = f2([a0]X2,X2)"),
		problem(t, "[a0]f2(X0,(1 2)X1) = [a1]f2(f1(X2),X0)", "X2 = f2(a2,a3)", "(0 1)X3 = X3"),
		problem(t, "f3(X0,X0,X1) = f3((0 1)X1,(0 1 2)X1,X2)"),
		problem(t, "X0 = f1(X1)", "X1 = f1(X0)"),
		problem(t, "X0 = a0", "X0 = a1"),
		problem(t, "[a0]X0 = [a1]a0"),
		equation(node(2, hole(0), hole(1)), node(2, wide(18, hole(1)), node(1, atom(0)))),
	}
	for why, bad := range notProblems() {
		if !strings.HasSuffix(why, "in itself") {
			l = append(l, bad)
		}
	}
	return l
}

func TestProblemArgumentsStay(t *testing.T) {
	m := context(t, "a0#X0,a3#X5")
	substitutions := [][]impl.Binding{nil, bindings(t, "a0", "(0 1 2)X0", "[a0]f2(a0,(0 1)X1)"), allBound(term(t, "f1([a0]a3)")), binding(10, atom(0))}
	for i, l := range someProblems(t) {
		for j, s := range substitutions {
			u := substitutions[(i+j)%len(substitutions)]
			l1, m1, s1, u1 := roomyProblem(l), roomy(m, markFresh), roomyBindings(s), roomyBindings(u)
			whole := slices.Clone(m1[:cap(m1)])
			useProblems(l1, impl.Solution{Subst: s1, Context: m1}, u1)
			if !isRoomyProblem(l1, l) || !slices.Equal(m1[:cap(m1)], whole) || !areRoomy(s1, s) || !areRoomy(u1, u) {
				t.Fatalf("%s, %v and %v: an argument is changed", problemText(l), s, u)
			}
		}
	}
}

// A solution shares no memory with the problem, and no two slices in it do: also
// if one term is bound to many holes.
func TestSolutionsStandAlone(t *testing.T) {
	for _, texts := range [][]string{
		{"f3(X0,X1,X2) = f3(X1,X2,f2((0 1)X3,a0))"},
		{"f2(X0,X0) = f2(f1((0 1)X1),f1((0 1)X1))"},
		{"[a0]X0 = [a1]f2((2 3)X1,X1)", "X2 = f2(X0,X1)"},
		{"(2 3)X0 = [a4]f3(a2,(0 1)X1,(0 1)X1)"},
		{"X0 = f2((0 1)X2,(2 3)X2)", "X1 = f2(X0,X0)"},
		{"(0 1)X0 = X0"},
	} {
		l := problem(t, texts...)
		found := map[any]bool{}
		for _, e := range l {
			places(e.Left, found)
			places(e.Right, found)
		}
		x, code := impl.SolveProblem(l)
		if code != impl.UnFine || !placesOfBindings(x.Subst, found) {
			t.Errorf("%v shares memory", texts)
		}
	}
}

// Nothing is kept from call to call, and the order in which a map is gone
// through is not seen.
func TestProblemCallsAreAlike(t *testing.T) {
	first := []string{}
	for range 50 {
		now := []string{}
		for _, l := range someProblems(t)[:8] {
			x, code := impl.SolveProblem(l)
			now = append(now, answer(x, code))
			overwriteSolution(x, code)
		}
		if len(first) > 0 && !slices.Equal(first, now) {
			t.Error(first, now)
		}
		first = now
	}
}
