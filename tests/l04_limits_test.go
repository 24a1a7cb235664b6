package tests

import (
	"slices"
	"testing"

	"loop.example/g03112/impl"
)

// checkCode solves the lists as one problem, and expects an answer, or "fine"
// for any solution.
func checkCode(t *testing.T, why, want string, l ...[]impl.Equation) {
	t.Helper()
	x, code := impl.SolveProblem(slices.Concat(l...))
	got := answer(x, code)
	if code == impl.UnFine && want == "fine" && got != "" {
		return
	}
	if got != want {
		t.Errorf("%s: %s instead of %s", why, got, want)
	}
}

// Each of these problems takes as many equations as its terms have nodes.
func TestSolveTakesNoMore(t *testing.T) {
	deep := equation(under(59, atom(0)), under(59, atom(0)))
	broad := equation(wide(19, atom(0)), wide(19, atom(0))) // 58
	three := slices.Concat(deep, deep, deep)
	twenty := equation(under(19, atom(0)), under(19, atom(0)))
	checkCode(t, "180", "-", three)
	checkCode(t, "200", "-", three, twenty)
	checkCode(t, "200, one of them alone", "-", three, equation(under(18, atom(0)), under(18, atom(0))), equation(atom(0), atom(0)))
	checkCode(t, "201", "over", three, equation(under(20, atom(0)), under(20, atom(0))))
	checkCode(t, "201, one of them alone", "over", three, twenty, equation(atom(0), atom(0)))
	checkCode(t, "480", "over", three, three, deep, deep)
	checkCode(t, "174 and 20, with kids", "-", broad, broad, broad, twenty)
	checkCode(t, "232, with kids", "over", broad, broad, broad, broad)
	checkCode(t, "the last one clashes", "clash", three, equation(under(19, atom(0)), under(19, atom(1))))
	checkCode(t, "the next one would clash", "over", three, twenty, equation(atom(0), atom(1)))
	checkCode(t, "the next one would not be solved", "over", three, twenty, equation(hole(0), node(1, hole(0))))
	checkCode(t, "the last one binds a hole", "X0=a0 -", three, equation(under(19, hole(0)), under(19, atom(0))))
	checkCode(t, "the last one asks", "a0#X0,a1#X0", three, equation(under(19, hole(0, impl.SwapOf(0, 1)...)), under(19, hole(0))))
	checkCode(t, "an ask that fails is not come to", "over", equation(bind(0, atom(1)), bind(1, atom(0))), three, twenty)
	binder := equation(binders(59, atom(0)), binders(59, atom(0)))
	checkCode(t, "200 with binders", "-", binder, binder, binder, twenty)
	checkCode(t, "201 with binders", "over", twenty, binder, binder, binder, equation(atom(0), atom(0)))
}

// After a hole has been bound, each term that is kept must be one.
func TestSolveKeepsTerms(t *testing.T) {
	large := under(29, atom(0)) // 30 nodes
	two := node(2, hole(1), hole(1))
	checkCode(t, "59 nodes in the substitution", "fine", equation(hole(0), two), equation(hole(1), under(28, atom(0))))
	checkCode(t, "61 nodes in the substitution", "over", equation(hole(0), two), equation(hole(1), large))
	checkCode(t, "61 nodes by the right side", "over", equation(two, hole(0)), equation(large, hole(1)))
	checkCode(t, "61 nodes on the left", "over", equation(hole(1), large), equation(two, atom(0)))
	checkCode(t, "61 nodes on the right", "over", equation(hole(1), large), equation(atom(0), two))
	checkCode(t, "61 nodes far behind", "over", equation(hole(1), large), equation(atom(0), atom(1)), equation(atom(0), two))
	checkCode(t, "59 nodes in an equation", "clash", equation(hole(1), under(28, atom(0))), equation(two, atom(0)))
	checkCode(t, "what has been taken is not kept", "fine", equation(two, node(2, atom(0), hole(2))), equation(hole(3), large))
	// The bodies are bound to two holes, so only what is asked is too large.
	asked := equation(bind(0, node(2, hole(2), hole(3))), bind(1, two))
	checkCode(t, "61 nodes in what is asked", "over", asked, equation(hole(1), large))
	checkCode(t, "59 nodes in what is asked", "fine", asked, equation(hole(1), under(28, atom(5))))
	checkCode(t, "59 nodes in what fails", "fresh", asked, equation(hole(1), under(28, atom(0))))
	checkCode(t, "very many nodes", "over", equation(hole(0), wide(19, hole(1))), equation(hole(1), wide(19, atom(0))))
	checkCode(t, "it occurs before it is too large", "occurs", equation(hole(0), wide(19, hole(0))))
	checkCode(t, "it clashes before it is too large", "clash", equation(hole(0), two), equation(atom(0), atom(1)), equation(hole(1), large))
	checkCode(t, "it is too large before it clashes", "over", equation(hole(0), two), equation(hole(1), large), equation(atom(0), atom(1)))
	checkCode(t, "it is too large before it is not fresh", "over", equation(bind(0, atom(1)), bind(1, atom(0))), equation(hole(0), two), equation(hole(1), large))
}

// No side of this equation is too large while it is solved, but both would be
// with the solution done on them: it is the solution, and holds for no problem
// of which the sides become no terms.
func TestSolutionThatDoesNotFit(t *testing.T) {
	l := equation(node(2, hole(0), hole(1)), node(2, hole(1), under(39, atom(0))))
	x, code := impl.SolveProblem(l)
	if code != impl.UnFine || len(x.Subst) != 2 || !same(x.Subst[0].Term, under(39, atom(0))) || impl.HoldsFor(l, x) {
		t.Error(answer(x, code))
	}
	if got := impl.ComesOf(x, x.Subst); !got {
		t.Error("a ground solution comes of itself")
	}
}

func TestSolveMovesNoMore(t *testing.T) {
	other := hole(1, rotation(2, 40)...)
	swap := impl.SwapOf(0, 1)
	checkCode(t, "40 moved in the substitution", "fine", equation(hole(0, rotation(0, 38)...), hole(1, impl.SwapOf(38, 39)...)))
	checkCode(t, "42 moved in the substitution", "over", equation(hole(0, swap...), other))
	checkCode(t, "42 moved by the right side", "over", equation(other, hole(0, swap...)))
	checkCode(t, "42 moved in the substitution, later", "over", equation(hole(0), hole(2, swap...)), equation(hole(2), other))
	checkCode(t, "42 moved on the left", "over", equation(hole(0), other), equation(node(1, hole(0, swap...)), atom(0)))
	checkCode(t, "42 moved on the right", "over", equation(hole(0), other), equation(atom(0), node(1, hole(0, swap...))))
	// Where the hole is bound, (0 1) comes before Perm only in what is asked.
	asked := equation(bind(44, hole(3, swapsOf(0, 1, 44, 45)...)), bind(45, hole(0, swap...)))
	checkCode(t, "42 moved in what is asked", "over", asked, equation(hole(0), other))
	checkCode(t, "40 moved in what is asked", "fine", asked, equation(hole(0), hole(1, rotation(2, 38)...)))
	checkCode(t, "42 moved in what has been taken", "fine", equation(hole(0, swap...), hole(0, swap...)), equation(hole(0), other))
}

// swapsOf swaps each two of the atoms, which are told in ascending order.
func swapsOf(atoms ...int) []impl.Pair {
	l := []impl.Pair{}
	for i := 0; i < len(atoms); i += 2 {
		l = append(l, impl.SwapOf(atoms[i], atoms[i+1])...)
	}
	return l
}

// The swap of the atoms of two binders may make a Perm move more than MaxMoved
// atoms. As long as no hole is bound, this changes nothing.
func TestSolveBeyondThePermutations(t *testing.T) {
	most := rotation(2, 40)
	inverse, _ := impl.InversePermutation(most)
	body := func(x, y impl.Term) []impl.Equation { return equation(bind(0, x), bind(1, y)) }
	checkCode(t, "the same hole", "a0#X0,a1#X0", body(hole(0, most...), hole(0, most...)))
	checkCode(t, "the same hole, 42 differences", "fresh", body(hole(0), hole(0, most...)))
	checkCode(t, "it clashes", "clash", body(node(2, hole(0), atom(2)), node(2, hole(0, most...), atom(3))))
	checkCode(t, "it occurs", "occurs", body(hole(0), node(1, hole(0, most...))))
	checkCode(t, "it is bound to what moves too many", "over", body(hole(0), hole(1, most...)))
	checkCode(t, "it is bound to what moves two", "X0=(0 1)X1 a0#X1", body(hole(0, most...), hole(1, most...)))
	checkCode(t, "it moves too many itself", "X0=f1(a7) -", body(node(1, atom(8)), hole(0, most...)))
	checkCode(t, "it moves too many itself, beside those", "X0=f1(a1) -", body(node(1, atom(0)), hole(0, most...)))
	checkCode(t, "it moves too many itself, and is asked", "fresh", body(node(1, atom(1)), hole(0, most...)))
	checkCode(t, "another is bound", "over", body(node(2, hole(1), hole(0)), node(2, atom(5), hole(0, most...))))
	checkCode(t, "another is bound before", "fresh", equation(hole(1), atom(5)), body(hole(0), hole(0, most...)))
	checkCode(t, "another is bound behind", "fresh", body(hole(0), hole(0, most...)), equation(hole(1), atom(5)))
	checkCode(t, "both together move few", "X0=X1 -", equation(hole(0, most...), hole(1, most...)))
	checkCode(t, "both together move more", "over", equation(hole(0, inverse...), hole(1, rotation(1, 40)...)))
	// What is asked of the inner binder is no term, so it is not fresh for it.
	inner := equation(bind(0, bind(50, hole(0, most...))), bind(1, bind(51, hole(0, most...))))
	checkCode(t, "asked of what is no term", "fresh", inner)
	checkCode(t, "asked of what is no term, then bound", "over", inner, equation(hole(1), atom(0)))
}

// No swap is done on a pattern, as it is on the left side.
func TestMatchBeyondThePermutations(t *testing.T) {
	pattern := bind(0, node(2, hole(1), hole(0, rotation(2, 40)...)))
	if got := answer(impl.MatchTerms(pattern, term(t, "[a1]f2(a5,a8)"))); got != "X0=a7 X1=a5 -" {
		t.Error(got)
	}
}

func TestSolveNeedsNoMore(t *testing.T) {
	forty := equation(hole(0, rotation(0, 40)...), hole(0))
	checkCode(t, "40 elements", impl.FormatContext(freshFrom(0, 40, 0)), forty)
	checkCode(t, "40 elements, twice", impl.FormatContext(freshFrom(0, 40, 0)), forty, forty)
	checkCode(t, "42 elements of two", "fresh", forty, equation(hole(1, impl.SwapOf(0, 1)...), hole(1)))
	checkCode(t, "42 elements of one", "fresh", forty, equation(hole(0, impl.SwapOf(40, 41)...), hole(0)))
	checkCode(t, "38 and 2", impl.FormatContext(append(freshFrom(0, 38, 0), freshFrom(0, 2, 1)...)), equation(hole(0, rotation(0, 38)...), hole(0)), equation(hole(1, impl.SwapOf(0, 1)...), hole(1)))
	checkCode(t, "40, then none", "X0=a40 -", forty, equation(hole(0), atom(40)))
	checkCode(t, "80, then none", "X0=a40 X1=f0 -", forty, equation(hole(1, rotation(0, 40)...), hole(1)), equation(hole(0), atom(40)), equation(hole(1), node(0)))
	checkCode(t, "80, then 40", "X0=X1 "+impl.FormatContext(freshFrom(0, 40, 1)), forty, equation(hole(1, rotation(0, 40)...), hole(1)), equation(hole(0), hole(1)))
	// Each ask of forty needs one element for each hole there.
	checkCode(t, "1600 elements", "fresh", forty, equation(hole(0), manyHolesBut(0)))
}

// manyHolesBut has many holes, but not this one.
func manyHolesBut(n int) impl.Term {
	return filled(manyHoles(), map[int]impl.Term{n: atom(500)})
}

func TestSolveAllHoles(t *testing.T) {
	l := problem(t, "f3(X0,X1,X2) = f3(X1,X2,X3)", "f3(X3,X4,X5) = f3(X4,X5,X6)", "f3(X6,X7,X8) = f3(X7,X8,X9)")
	checkCode(t, "all alike", "X0=X9 X1=X9 X2=X9 X3=X9 X4=X9 X5=X9 X6=X9 X7=X9 X8=X9 -", l)
	checkCode(t, "all bound", "X0=a0 X1=a0 X2=a0 X3=a0 X4=a0 X5=a0 X6=a0 X7=a0 X8=a0 X9=a0 -", l, equation(hole(4), atom(0)))
}
