package tests

import (
	"math"
	"slices"
	"testing"

	"loop.example/g03112/impl"
)

// told is the text of what is returned, and "-" for nothing.
func told(x impl.Term, ok bool) string {
	if ok {
		return impl.FormatTerm(x)
	}
	if isZero(x) {
		return "-"
	}
	return "- with " + impl.FormatTerm(x)
}

type givenCase struct{ r, x, want string }

func checkGiven(t *testing.T, cases []givenCase) {
	t.Helper()
	for _, c := range cases {
		r, x := rule(t, c.r), term(t, c.x)
		if got := told(impl.GivenBy(r, x)); got != c.want {
			t.Errorf("%s for %s: %s instead of %s", c.r, c.x, got, c.want)
		}
		if got := told(givenByHand(r, x)); got != c.want {
			t.Errorf("%s for %s: by hand %s instead of %s", c.r, c.x, got, c.want)
		}
	}
}

func TestGivenWithoutBinders(t *testing.T) {
	checkGiven(t, []givenCase{
		{"- | f0 > f4", "f0", "f4"},
		{"- | f0 > f4", "f4", "-"},
		{"- | f0 > f4", "f1(f0)", "-"}, // here only at the root
		{"- | f1(X0) > X0", "f1(a1)", "a1"},
		{"- | f1(X0) > X0", "f5(a1)", "-"},
		{"- | f1(X0) > X0", "a1", "-"},
		{"- | f1(X0) > X0", "[a1]a1", "-"},
		{"- | f2(X0,f0) > X0", "f2(f2(a0,f0),f0)", "f2(a0,f0)"},
		{"- | f2(X0,X1) > f3(X1,X0,X1)", "f2(a0,[a1]a0)", "f3([a1]a0,a0,[a1]a0)"},
		{"- | f2(X0,X0) > X0", "f2(a0,a0)", "a0"},
		{"- | f2(X0,X0) > X0", "f2(a0,a1)", "-"},
		{"- | f2(X0,X0) > X0", "f2([a0]a0,[a1]a1)", "[a0]a0"},
		{"- | f2(X0,X0) > X0", "f2([a1]a1,[a0]a0)", "[a1]a1"},
		{"- | f2(X0,X0) > X0", "f2([a1]a1,[a0]a1)", "-"},
		{"- | f2(X0,X1) > f0", "f2(a0,a1)", "f0"}, // the right side need not have all holes
	})
}

// What is free in a rule is renamed too, so it stands for no atom of a term.
func TestGivenWithFreeAtoms(t *testing.T) {
	checkGiven(t, []givenCase{
		{"- | f1(a0) > f0", "f1(a0)", "-"},
		{"- | f1(a0) > f0", "f1(a1)", "-"},
		{"- | a0 > a0", "a0", "-"},
		{"- | f2(X0,a0) > X0", "f2(a1,a0)", "-"},
		{"- | f1(X0) > f2(X0,a0)", "f1(a1)", "-"}, // out of nothing
		{"- | f1(X0) > f2(X0,a0)", "f1(a0)", "-"},
		{"- | f1(X0) > f2(X0,a2)", "f1(f2(a0,a2))", "-"},
		{"- | f1(X0) > a0", "f1(a0)", "-"},
		{"- | f1(X0) > [a0]f2(X0,a0)", "f1(a1)", "[a2]f2(a1,a2)"},
		{"- | f1(X0) > [a0]f2(X0,a0)", "f1(a0)", "[a1]f2(a0,a1)"}, // X0 is not bound
		{"- | f1(X0) > [a0]f2(X0,a0)", "f1(f0)", "[a1]f2(f0,a1)"},
		{"- | f1(X0) > [a0]f2(X0,a1)", "f1(a1)", "-"},
		{"- | f1(X0) > f2([a0]a0,a0)", "f1(a1)", "-"},
		{"a7#X0 | f1(X0) > X0", "f1(a7)", "a7"}, // a7 of the rule is another one
		{"a0#X0,a7#X0 | f1(X0) > X0", "f1(f2(a0,a7))", "f2(a0,a7)"},
	})
}

func TestGivenWithBinders(t *testing.T) {
	eta := "a0#X0 | f1([a0]f2(X0,a0)) > X0"
	checkGiven(t, []givenCase{
		{eta, "f1([a5]f2(a1,a5))", "a1"},
		{eta, "f1([a5]f2(a5,a5))", "-"},
		{eta, "f1([a0]f2(a1,a0))", "a1"},
		{eta, "f1([a0]f2(a0,a0))", "-"},
		{eta, "f1([a1]f2(a1,a0))", "-"},
		{eta, "f1([a5]f2([a5]a5,a5))", "[a1]a1"}, // acting renames what is bound, too
		{eta, "f1([a5]f2([a0]f2(a0,a1),a5))", "[a0]f2(a0,a1)"},
		{eta, "f1([a5]f2(f1([a5]f2(a1,a5)),a5))", "f1([a2]f2(a1,a2))"},
		{"- | [a0]X0 > X0", "[a3]a1", "a1"},
		{"- | [a0]X0 > X0", "[a3]a3", "-"}, // it would come out free
		{"- | [a0]X0 > X0", "[a0]a0", "-"},
		{"- | [a0]X0 > X0", "[a3]f2(a1,[a3]a3)", "f2(a1,[a2]a2)"},
		{"- | [a0]X0 > X0", "[a3][a1]f2(a1,a2)", "[a1]f2(a1,a2)"},
		{"- | [a0]X0 > X0", "[a3][a1]f2(a1,a3)", "-"},
		{"- | f2([a0]X0,X1) > f2(X0,X1)", "f2([a3]a3,a3)", "-"}, // the bound one is not the free one
		{"- | f2([a0]X0,X1) > f2(X0,X1)", "f2([a3]a4,a3)", "f2(a4,a3)"},
		{"- | [a0]f1(X0) > f1([a0]X0)", "[a3]f1(f2(a3,a2))", "f1([a1]f2(a1,a2))"},
		{"- | f1([a0]X0) > [a1]X0", "f1([a5]a3)", "[a4]a3"},
		{"- | f1([a0]X0) > [a1]X0", "f1([a5]a5)", "-"},
		{"- | f5([a0][a1]X0) > [a1][a0]X0", "f5([a2][a3]f2(a2,a3))", "[a5][a4]f2(a4,a5)"},
		{"- | f5([a0][a1]X0) > [a1][a0]X0", "f5([a0][a0]f2(a0,a1))", "[a3][a2]f2(a3,a1)"},
		{"- | f5([a0][a1]X0) > [a0]X0", "f5([a2][a3]a2)", "[a4]a4"},
		{"- | f5([a0][a1]X0) > [a0]X0", "f5([a2][a3]a3)", "-"},
		{"a0#X0 | f2(X0,[a0]X1) > [a0]f2(X0,X1)", "f2(a5,[a5]f1(a5))", "[a1]f2(a5,f1(a1))"},
		{"- | f2(X0,[a0]X1) > [a0]f2(X0,X1)", "f2(a0,[a0]f1(a0))", "[a1]f2(a0,f1(a1))"},
		{"- | f2([a0]X0,[a0]X1) > [a0]f2(X0,X1)", "f2([a1]a1,[a2]a2)", "[a3]f2(a3,a3)"},
		{"- | f2([a0]X0,[a0]X1) > [a0]f2(X0,X1)", "f2([a1]a2,[a2]a1)", "[a3]f2(a2,a1)"},
		{"- | f2([a0]X0,[a0]X0) > [a0]X0", "f2([a1]f2(a1,a7),[a2]f2(a2,a7))", "[a3]f2(a3,a7)"},
		{"- | f2([a0]X0,[a0]X0) > [a0]X0", "f2([a1]f2(a1,a7),[a7]f2(a7,a7))", "-"},
		{"- | f2([a0]X0,X0) > X0", "f2([a1]a2,a2)", "a2"},
		{"- | f2([a0]X0,X0) > X0", "f2([a1]a1,a1)", "-"},
		{"- | [a0]a0 > f0", "[a5]a5", "f0"},
		{"- | [a0]a0 > f0", "[a5]a0", "-"},
		{"- | [a0][a0]a0 > f0", "[a5][a6]a6", "f0"},
		{"- | [a0][a0]a0 > f0", "[a5][a6]a5", "-"},
		{"- | [a0]f1(X0) > [a0][a0]X0", "[a5]f1(a5)", "[a1][a1]a1"}, // the rule's own binder binds it
	})
}

func TestGivenWithContextsAndPermutations(t *testing.T) {
	checkGiven(t, []givenCase{
		{"a0#X0 | [a0]X0 > [a0]f1(X0)", "[a3]a3", "-"},
		{"a0#X0 | [a0]X0 > [a0]f1(X0)", "[a3]a2", "[a1]f1(a2)"},
		{"a1#X0 | [a0][a1]X0 > [a0]X0", "[a3][a4]a3", "[a2]a2"},
		{"a1#X0 | [a0][a1]X0 > [a0][a1]X0", "[a3][a4]a4", "-"},
		{"a0#X0,a1#X0 | [a0][a1]X0 > X0", "[a3][a4]a5", "a5"},
		{"a0#X0,a1#X0 | [a0][a1]X0 > f0", "[a3][a4]a4", "-"},
		{"a0#X0,a1#X0 | [a0][a1]X0 > f0", "[a3][a4]a3", "-"},
		{"a0#X0,a0#X1 | f2([a0]X0,[a0]X1) > f2(X1,X0)", "f2([a1]a2,[a2]a1)", "f2(a1,a2)"},
		{"a0#X0,a0#X1 | f2([a0]X0,[a0]X1) > f0", "f2([a1]a2,[a2]a2)", "-"},
		{"a0#X1 | f2([a0]X0,[a0]X1) > f0", "f2([a1]a1,[a2]a1)", "f0"},
		{"a0#X0 | [a0]f1([a0]X0) > f0", "[a1]f1([a2]a1)", "-"}, // X0 would have the inner one
		{"- | [a0][a1]f2(X0,(0 1)X0) > [a0][a1]X0", "[a2][a3]f2(f2(a2,a3),f2(a3,a2))", "[a4][a5]f2(a4,a5)"},
		{"- | [a0][a1]f2(X0,(0 1)X0) > [a0][a1]X0", "[a2][a3]f2(f2(a2,a3),f2(a2,a3))", "-"},
		{"- | [a0][a1]f2((0 1)X0,X0) > [a0][a1]X0", "[a2][a3]f2(f2(a2,a3),f2(a3,a2))", "[a4][a5]f2(a5,a4)"},
		{"- | f5([a0][a1]X0) > [a0][a1](0 1)X0", "f5([a2][a3]f2(a2,a3))", "[a4][a5]f2(a5,a4)"},
		{"- | f5([a0]X0) > [a1](0 1)X0", "f5([a2]f2(a2,a3))", "[a5]f2(a5,a3)"},
		{"- | f5([a0]X0) > [a0](0 1)X0", "f5([a2]f2(a2,a3))", "-"}, // a new one would be free
		{"- | f5([a0]X0) > [a0](0 1)X0", "f5([a2]a3)", "[a4]a3"},
		{"- | f1(X0) > (0 1)X0", "f1(f2(a0,a1))", "f2(a0,a1)"}, // no atom of the term is moved
		{"- | f1((0 1)X0) > X0", "f1(f2(a0,a1))", "f2(a0,a1)"},
		{"a0#X0 | f1((0 1 2)X0) > (0 2)X0", "f1(f3(a0,a1,a2))", "f3(a0,a1,a2)"},
	})
}

func TestGivenAtTheLimit(t *testing.T) {
	double := rule(t, "- | f1(X0) > f2(X0,X0)")
	if got, ok := impl.GivenBy(double, under(30, atom(0))); ok || !isZero(got) {
		t.Error("61 nodes:", got)
	}
	if got, ok := impl.GivenBy(double, under(29, atom(0))); !ok || !same(got, node(2, under(28, atom(0)), under(28, atom(0)))) {
		t.Error("59 nodes:", got)
	}
	if got, ok := impl.GivenBy(rule(t, "- | f1(X0) > f2(X0,f0)"), under(58, atom(7))); !ok || !same(got, node(2, under(57, atom(7)), node(0))) {
		t.Error("60 nodes:", got)
	}
	// A rule with more than 20 atoms cannot be freshened.
	for _, c := range []struct {
		count int
		want  string
	}{{20, "a7"}, {21, "-"}} {
		r := impl.Rule{Left: bindersFrom(100, c.count, hole(0)), Right: hole(0)}
		if got := told(impl.GivenBy(r, binders(c.count, atom(7)))); got != c.want {
			t.Errorf("%d atoms: %s", c.count, got)
		}
	}
	// The new atoms are none of the 59 of the term.
	all := bindersFrom(0, 59, atom(0))
	if got := told(impl.GivenBy(rule(t, "- | [a0][a1]X0 > f1([a0]X0)"), all)); got != "f1("+impl.FormatTerm(bind(59, bindersFrom(2, 57, atom(59))))+")" {
		t.Error("59 binders:", got)
	}
	if got := told(impl.GivenBy(impl.Rule{Context: freshFrom(0, 20, 0), Left: node(1, hole(0)), Right: hole(0)}, node(1, all.Kids[0]))); got != impl.FormatTerm(all.Kids[0]) {
		t.Error("20 elements:", got)
	}
}

func TestGivenInvalid(t *testing.T) {
	for why, r := range notRules(t) {
		for _, x := range []impl.Term{node(0), term(t, "f1(a0)"), {}, hole(0)} {
			if got := told(impl.GivenBy(r, x)); got != "-" {
				t.Errorf("%s: %s", why, got)
			}
		}
	}
	for _, r := range rules(t, "- | f0 > f0", "- | f1(X0) > X0", "- | [a0]X0 > f0", "- | f2(X0,X1) > X0") {
		for why, x := range notTerms() {
			if got := told(impl.GivenBy(r, x)); got != "-" {
				t.Errorf("%s: %s", why, got)
			}
		}
		for _, x := range notGround(t) {
			if got := told(impl.GivenBy(r, x)); got != "-" {
				t.Errorf("%s: %s", impl.FormatTerm(x), got)
			}
		}
	}
}

func TestRewriteAt(t *testing.T) {
	drop, lam, out := "- | f1(X0) > X0", "- | f1(X0) > f5([a0]f2(a0,X0))", "- | f1(X0) > f2(X0,a0)"
	for _, c := range []struct {
		r, x string
		path []int
		want string
	}{
		{drop, "f1(a0)", nil, "a0"},
		{drop, "f1(f1(a0))", path(), "f1(a0)"},
		{drop, "f1(f1(a0))", path(0), "f1(a0)"},
		{drop, "f1(f1(a0))", path(0, 0), "-"}, // it leads to a0
		{drop, "f1(f1(a0))", path(0, 0, 0), "-"},
		{drop, "f2(a3,f1(a0))", path(1), "f2(a3,a0)"},
		{drop, "f2(a3,f1(a0))", path(0), "-"},
		{drop, "f2(a3,f1(a0))", path(), "-"},
		{drop, "f3(f1(a0),f1(a1),f1(a2))", path(1), "f3(f1(a0),a1,f1(a2))"},
		{drop, "[a0]f1(a0)", path(0), "[a0]a0"},
		{drop, "[a0]f1(a1)", path(0), "[a0]a1"},
		{drop, "[a0][a1]f2(f1(f2(a0,a1)),a2)", path(0, 0, 0), "[a0][a1]f2(f2(a0,a1),a2)"},
		{"- | f2(X0,X1) > f2(X1,X0)", "[a0]f2(a0,a1)", path(0), "[a0]f2(a1,a0)"},
		{"- | f5([a0][a1]X0) > [a1][a0]X0", "f1(f5([a2][a3]f2(a2,a3)))", path(0), "f1([a5][a4]f2(a4,a5))"},
		// The rule is freshened for the term there alone.
		{"- | f1(X0) > [a0]X0", "f2(a1,f1(f0))", path(1), "f2(a1,[a1]f0)"},
		{"- | f1(X0) > [a0]X0", "[a1]f1(f0)", path(0), "[a1][a1]f0"},
		{lam, "[a1]f1(a1)", path(0), "[a1]f5([a2]f2(a2,a1))"},
		{lam, "[a0]f1(a0)", path(0), "[a0]f5([a1]f2(a1,a0))"},
		{lam, "f2(a1,f1(a0))", path(1), "f2(a1,f5([a1]f2(a1,a0)))"},
		// What would come out of nothing does not come, also where it would be
		// bound, or is free elsewhere.
		{out, "[a1]f1(f0)", path(0), "-"},
		{out, "[a0]f1(f0)", path(0), "-"},
		{out, "[a0]f1(a0)", path(0), "-"},
		{out, "f2(a1,f1(f0))", path(1), "-"},
		{out, "[a0][a1][a2]f1(f0)", path(0, 0, 0), "-"},
		{"- | [a0]X0 > X0", "[a5][a3]f1(a5)", path(0), "[a5]f1(a5)"},
		{"- | [a0]X0 > X0", "[a5][a3]f1(a3)", path(0), "-"},
		{"- | [a0]X0 > X0", "[a5][a5]f1(a5)", path(0), "-"},
		{"- | [a0]X0 > X0", "[a0][a1]a1", path(0), "-"},
		{"- | [a0]X0 > X0", "[a5][a5]f1(a5)", path(), "[a1]f1(a1)"},
		{"- | [a0]X0 > X0", "[a5][a3]f1(a5)", path(), "-"},
		{"a0#X0 | f1([a0]f2(X0,a0)) > X0", "[a5]f1([a3]f2(a5,a3))", path(0), "[a5]a5"},
		{"a0#X0 | f1([a0]f2(X0,a0)) > X0", "[a5]f1([a5]f2(a5,a5))", path(0), "-"},
	} {
		if got := told(impl.RewriteAt(rule(t, c.r), term(t, c.x), c.path)); got != c.want {
			t.Errorf("%s at %v of %s: %s instead of %s", c.r, c.path, c.x, got, c.want)
		}
	}
}

func TestRewriteAtTheLimit(t *testing.T) {
	double := rule(t, "- | f1(X0) > f2(X0,X0)")
	inner := under(10, atom(0)) // 11 nodes, and 21 then
	x := under(49, inner)
	deep := slices.Repeat(path(0), 49)
	if got, ok := impl.RewriteAt(double, x, deep); ok || !isZero(got) {
		t.Error("70 nodes:", got)
	}
	if got, ok := impl.RewriteAt(double, under(39, inner), deep[:39]); !ok || !same(got, under(39, node(2, inner.Kids[0], inner.Kids[0]))) {
		t.Error("60 nodes:", got)
	}
	// Though the rule gives a term for the term there.
	if _, ok := impl.GivenBy(double, inner); !ok {
		t.Error("21 nodes")
	}
}

func TestRewriteAtInvalid(t *testing.T) {
	for why, r := range notRules(t) {
		for _, p := range [][]int{nil, {0}, {7}} {
			if got := told(impl.RewriteAt(r, term(t, "f1(f0)"), p)); got != "-" {
				t.Errorf("%s: %s", why, got)
			}
		}
	}
	one := rule(t, "- | f0 > f4")
	for why, x := range notTerms() {
		for _, p := range [][]int{nil, {0}, {0, 0}, {1}} {
			if got := told(impl.RewriteAt(one, x, p)); got != "-" {
				t.Errorf("%s: %s", why, got)
			}
		}
	}
	for _, p := range nowhere() {
		if got := told(impl.RewriteAt(one, term(t, "f2([a0]f0,a1)"), p)); got != "-" {
			t.Errorf("%v: %s", p[:min(3, len(p))], got)
		}
	}
	// A hole is no matter of the path alone.
	for _, c := range []struct {
		x    string
		path []int
	}{{"f2(f0,X0)", path(0)}, {"f2(X0,f0)", path(1)}, {"[a0]f2((0 1)X0,f0)", path(0, 1)}} {
		if got := told(impl.RewriteAt(one, term(t, c.x), c.path)); got != "-" {
			t.Errorf("%s: %s", c.x, got)
		}
	}
}

func TestStepTerm(t *testing.T) {
	drop, turn := "- | f1(X0) > X0", "- | f2(X0,X1) > f2(X1,X0)"
	for _, c := range []struct {
		l    []string
		x    string
		want string
	}{
		{nil, "f1(a0)", "-"},
		{[]string{drop}, "a0", "-"},
		{[]string{drop}, "f1(a0)", "a0"},
		{[]string{drop}, "f2(a0,[a1]f5(f1(a1)))", "f2(a0,[a1]f5(a1))"},
		{[]string{drop}, "f2(f1(a0),f1(a1))", "f2(a0,f1(a1))"},                 // leftmost
		{[]string{"- | f1(X0) > f5(X0)"}, "f1(f1(a0))", "f5(f1(a0))"},          // outermost
		{[]string{drop}, "f2(f5(f5(f1(a0))),f1(a1))", "f2(f5(f5(a0)),f1(a1))"}, // also if it is deeper
		{[]string{drop}, "f3(a0,f5(f1(a0)),f1(a1))", "f3(a0,f5(a0),f1(a1))"},
		{[]string{drop, turn}, "f2(f1(a0),a1)", "f2(a1,f1(a0))"}, // the path comes before the rule
		{[]string{turn, drop}, "f1(f2(a0,a1))", "f2(a0,a1)"},
		{[]string{drop, "- | f1(X0) > f5(X0)"}, "f1(a0)", "a0"}, // the first rule
		{[]string{"- | f1(X0) > f5(X0)", drop}, "f1(a0)", "f5(a0)"},
		{[]string{"- | f1(X0) > f2(X0,a0)", drop}, "f1(a0)", "a0"}, // the first one that applies
		{[]string{"a0#X0 | f1([a0]X0) > X0", "- | f1([a0]X0) > [a0]X0"}, "f1([a1]a1)", "[a2]a2"},
		{[]string{"a0#X0 | f1([a0]X0) > X0", "- | f1([a0]X0) > [a0]X0"}, "f1([a1]a0)", "a0"},
		{[]string{"- | [a0]X0 > X0"}, "[a0][a1]a0", "[a0]a0"}, // it does not apply further out
		{[]string{"- | [a0]X0 > X0"}, "[a0][a1]a1", "[a1]a1"},
		{[]string{"- | [a0]X0 > X0"}, "[a0]a0", "-"},
		{[]string{"- | f0 > f0"}, "f1(f0)", "f1(f0)"},
		{[]string{"- | f0 > f4", "- | f4 > f8", "- | f8 > f1(f0)", drop, turn, "- | [a0]X0 > X0"}, "f2(f8,f4)", "f2(f4,f8)"},
	} {
		if got := told(impl.StepTerm(rules(t, c.l...), term(t, c.x))); got != c.want {
			t.Errorf("%v for %s: %s instead of %s", c.l, c.x, got, c.want)
		}
	}
}

// Where what a rule gives does not fit, the next one or another path is taken.
func TestStepTermAtTheLimit(t *testing.T) {
	double, grow, drop := "- | f1(X0) > f2(X0,X0)", "- | f1(X0) > f5(f5(X0))", "- | f1(X0) > X0"
	for _, c := range []struct {
		l    []string
		x    impl.Term
		want impl.Term
		ok   bool
	}{
		{[]string{grow}, under(58, atom(0)), node(5, node(5, under(57, atom(0)))), true},
		{[]string{grow}, under(59, atom(0)), impl.Term{}, false},
		{[]string{grow, drop}, under(59, atom(0)), under(58, atom(0)), true},
		{[]string{double}, under(40, atom(0)), under(21, node(2, under(18, atom(0)), under(18, atom(0)))), true},
		{[]string{double}, under(57, atom(0)), under(55, node(2, node(1, atom(0)), node(1, atom(0)))), true},
		{[]string{double}, under(59, atom(0)), impl.Term{}, false},
	} {
		if got, ok := impl.StepTerm(rules(t, c.l...), c.x); ok != c.ok || !same(got, c.want) {
			t.Errorf("%v for %s: %s, %v", c.l, impl.FormatTerm(c.x), impl.FormatTerm(got), ok)
		}
	}
}

func TestStepTermInvalid(t *testing.T) {
	for why, l := range notRuleLists(t) {
		for _, x := range terms(t, "f1(f0)", "X0") {
			if got := told(impl.StepTerm(l, x)); got != "-" {
				t.Errorf("%s: %s", why, got)
			}
		}
	}
	l := rules(t, "- | f0 > f4", "- | f1(X0) > X0")
	for why, x := range notTerms() {
		if got := told(impl.StepTerm(l, x)); got != "-" {
			t.Errorf("%s: %s", why, got)
		}
	}
	for _, x := range append(notGround(t), terms(t, "f2(f0,X0)")...) {
		if got := told(impl.StepTerm(l, x)); got != "-" {
			t.Errorf("%s: %s", impl.FormatTerm(x), got)
		}
	}
}

type normalCase struct {
	l     []string
	x     string
	want  string
	count int
}

// checkNormal does as many steps as are needed at most, then more, then less.
func checkNormal(t *testing.T, cases []normalCase) {
	t.Helper()
	for _, c := range cases {
		l, x := rules(t, c.l...), term(t, c.x)
		for _, most := range []int{c.count, c.count + 1, 40} {
			if most > 40 {
				continue
			}
			if got, count, ok := impl.NormalForm(l, x, most); told(got, ok) != c.want || count != c.count {
				t.Errorf("%v for %s, %d at most: %s, %d instead of %s, %d", c.l, c.x, most, told(got, ok), count, c.want, c.count)
			}
		}
		for most := -1; most < c.count; most++ {
			if got, count, ok := impl.NormalForm(l, x, most); told(got, ok) != "-" || count != 0 {
				t.Errorf("%v for %s, %d at most: %s, %d", c.l, c.x, most, told(got, ok), count)
			}
		}
	}
}

func TestNormalForm(t *testing.T) {
	checkNormal(t, []normalCase{
		{nil, "f1(a0)", "f1(a0)", 0},
		{[]string{"- | f1(X0) > X0"}, "[a3]f2(a3,a5)", "[a3]f2(a3,a5)", 0}, // not made canonical
		{[]string{"- | f1(X0) > X0"}, "f1(a0)", "a0", 1},
		{[]string{"- | f2(X0,f0) > X0"}, "f2(f2(a0,f0),f0)", "a0", 2},
		{[]string{"- | f1(X0) > X0"}, "f2(f1(f1(a0)),[a0]f1(a0))", "f2(a0,[a0]a0)", 3},
		{[]string{"- | f2(f1(X0),X1) > f2(X0,f1(X1))"}, "f2(f1(f1(f1(f0))),f1(f0))", "f2(f0,f1(f1(f1(f1(f0)))))", 3},
		{[]string{"- | f2(f0,X1) > X1", "- | f2(f1(X0),X1) > f1(f2(X0,X1))"}, "f2(f1(f1(f0)),f1(a7))", "f1(f1(f1(a7)))", 3},
		{[]string{"- | f2(f0,X1) > X1", "- | f2(f1(X0),X1) > f1(f2(X0,X1))"}, "f2(f1(f0),f2(f1(f0),f0))", "f1(f1(f0))", 4},
		{[]string{"a0#X0 | f1([a0]f2(X0,a0)) > X0"}, "f1([a5]f2(f1([a6]f2(a1,a6)),a5))", "a1", 2},
		{[]string{"a0#X0 | f1([a0]f2(X0,a0)) > X0"}, "f1([a5]f2(f1([a6]f2(a5,a6)),a5))", "f1([a5]f2(a5,a5))", 1},
		{[]string{"a0#X0 | [a0]X0 > X0"}, "[a1][a2][a3]f2(a2,a4)", "[a2]f2(a2,a4)", 2},
		{[]string{"a0#X0 | f2(X0,[a0]X1) > [a0]f2(X0,X1)", "a0#X1 | f2([a0]X0,X1) > [a0]f2(X0,X1)"}, "f2([a1]a1,[a1]a1)", "[a2][a3]f2(a3,a2)", 2},
	})
}

func TestNormalFormAtTheLimit(t *testing.T) {
	move := rules(t, "- | f2(f1(X0),X1) > f2(X0,f1(X1))")
	forty := node(2, under(40, node(0)), node(4))
	if got, count, ok := impl.NormalForm(move, forty, 40); !ok || count != 40 || !same(got, node(2, node(0), under(40, node(4)))) {
		t.Error("40 steps:", told(got, ok), count)
	}
	for _, c := range []struct {
		l    []impl.Rule
		x    impl.Term
		most int
	}{
		{move, forty, 39},
		{move, forty, 0},
		{move, node(2, under(41, node(0)), node(4)), 40},
		{move, forty, 41}, // though it would be done
		{move, forty, -1},
		{move, node(0), 41},
		{move, node(0), -1},
		{nil, node(0), 41},
		{nil, node(0), -1},
		{nil, node(0), math.MaxInt},
		{nil, node(0), math.MinInt},
		{rules(t, "- | f0 > f0"), node(0), 40}, // without end
		{rules(t, "- | f0 > f4", "- | f4 > f0"), under(3, node(0)), 40},
		{rules(t, "- | f2(X0,X1) > f2(X1,X0)"), node(2, atom(0), atom(0)), 40},
	} {
		if got, count, ok := impl.NormalForm(c.l, c.x, c.most); told(got, ok) != "-" || count != 0 {
			t.Errorf("%s for %s, %d at most: %s, %d", rulesText(c.l), impl.FormatTerm(c.x), c.most, told(got, ok), count)
		}
	}
	// It grows until nothing fits any more.
	grow := rules(t, "- | f0 > f1(f0)")
	if got, count, ok := impl.NormalForm(grow, under(29, node(0)), 30); !ok || count != 30 || !same(got, under(59, node(0))) {
		t.Error("60 nodes:", told(got, ok), count)
	}
	if got, count, ok := impl.NormalForm(grow, under(29, node(0)), 29); told(got, ok) != "-" || count != 0 {
		t.Error("less than 60 nodes:", told(got, ok), count)
	}
}

func TestNormalFormInvalid(t *testing.T) {
	for why, l := range notRuleLists(t) {
		for _, x := range terms(t, "a0", "f1(f0)", "X0") {
			if got, count, ok := impl.NormalForm(l, x, 40); told(got, ok) != "-" || count != 0 {
				t.Errorf("%s: %s, %d", why, told(got, ok), count)
			}
		}
	}
	for _, l := range [][]impl.Rule{nil, rules(t, "- | f0 > f4", "- | f1(X0) > X0")} {
		for why, x := range notTerms() {
			if got, count, ok := impl.NormalForm(l, x, 5); told(got, ok) != "-" || count != 0 {
				t.Errorf("%s: %s, %d", why, told(got, ok), count)
			}
		}
		for _, x := range notGround(t) {
			if got, count, ok := impl.NormalForm(l, x, 5); told(got, ok) != "-" || count != 0 {
				t.Errorf("%s: %s, %d", impl.FormatTerm(x), told(got, ok), count)
			}
		}
	}
}
