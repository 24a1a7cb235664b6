package tests

import (
	"slices"
	"testing"

	"loop.example/g03112/impl"
)

func TestIsRule(t *testing.T) {
	good := rules(t,
		"- | f0 > f0", "- | a0 > a1", "- | [a0]X0 > X0", "- | f1(X0) > a5", "- | f1((0 1)X0) > (0 2)X0", "- | f2(X0,X9) > X9", "- | f2(X0,X0) > f3(X0,X0,X0)",
		"a0#X0 | f1([a0]f2(X0,a0)) > X0", "a0#X0,a1#X0,a0#X9 | f2(X0,X9) > X9", "a7#X1 | f1(X1) > f0",
	)
	good = append(good,
		impl.Rule{Left: under(59, hole(9)), Right: wide(19, hole(9))},
		impl.Rule{Context: freshFrom(960, 40, 9), Left: allHoles(), Right: allHoles()},
		impl.Rule{Context: freshFrom(0, 40, 3), Left: allHoles(), Right: hole(3, rotation(0, 40)...)},
		impl.Rule{Left: manyHoles(), Right: manyHoles()},
	)
	for _, r := range good {
		if !impl.IsRule(r) {
			t.Errorf("%s: a rule", ruleText(r))
		}
	}
	for why, r := range notRules(t) {
		if impl.IsRule(r) {
			t.Errorf("%s: a rule", why)
		}
	}
}

func TestAreRules(t *testing.T) {
	one := rule(t, "- | f1(X0) > X0")
	for _, l := range [][]impl.Rule{nil, {}, {one}, rules(t, "- | f0 > f4", "a0#X0 | [a0]X0 > X0"), slices.Repeat([]impl.Rule{one}, 6)} {
		if !impl.AreRules(l) {
			t.Errorf("%s: rules", rulesText(l))
		}
	}
	for why, l := range notRuleLists(t) {
		if impl.AreRules(l) {
			t.Errorf("%s: rules", why)
		}
	}
}

func TestActOnRule(t *testing.T) {
	for _, c := range []struct{ p, r, want string }{
		{"()", "a0#X0 | f1([a0]f2(X0,a0)) > (0 1)X0", "a0#X0 | f1([a0]f2(X0,a0)) > (0 1)X0"},
		{"(0 1)", "a0#X0 | f1([a0]f2(X0,a0)) > X0", "a1#X0 | f1([a1]f2(X0,a1)) > X0"},
		{"(7 8)", "a0#X0 | f1([a0]f2(X0,a0)) > X0", "a0#X0 | f1([a0]f2(X0,a0)) > X0"},
		{"(0 1)", "- | a0 > a1", "- | a1 > a0"},
		{"(0 1 2)", "- | f1(X0) > f3(a0,a1,a2)", "- | f1(X0) > f3(a1,a2,a0)"},
		{"(0 1 2)", "- | f1((0 3)X0) > (1 4)X0", "- | f1((1 3)X0) > (2 4)X0"}, // the holes stay
		{"(0 1)", "- | f1(X0) > X0", "- | f1(X0) > X0"},
		{"(0 1)", "- | f1((0 1)X0) > X0", "- | f1((0 1)X0) > X0"},
		{"(0 2)", "- | f1(X0) > (0 1 2)X0", "- | f1(X0) > (0 2 1)X0"},
		{"(1 5)(2 3)", "- | f1((0 1)(2 4 3)X0) > [a3][a5]f2(a1,X0)", "- | f1((0 5)(2 3 4)X0) > [a2][a1]f2(a5,X0)"},
		{"(0 5)", "a0#X0,a1#X0,a0#X1,a9#X2 | f3(X0,X1,X2) > a0", "a1#X0,a5#X0,a5#X1,a9#X2 | f3(X0,X1,X2) > a5"},
		{"(0 9 1)", "a0#X0,a1#X0,a9#X0 | f1(X0) > a9", "a0#X0,a1#X0,a9#X0 | f1(X0) > a1"},
	} {
		r := rule(t, c.r)
		if got, ok := impl.ActOnRule(read(t, c.p), r); !ok || ruleText(got) != c.want {
			t.Errorf("%s on %s: %s instead of %s", c.p, c.r, ruleText(got), c.want)
		}
	}
}

func TestActOnRuleAtTheLimit(t *testing.T) {
	r := impl.Rule{Context: freshFrom(0, 40, 0), Left: under(59, hole(0, rotation(0, 40)...)), Right: wide(19, hole(0, rotation(20, 40)...))}
	// What is done behind one another here moves 80 atoms, and comes to the same.
	if got, ok := impl.ActOnRule(rotation(100, 40), r); !ok || ruleText(got) != ruleText(r) {
		t.Error("other atoms:", ruleText(got))
	}
	p := []impl.Pair{}
	for a := range 20 {
		p = append(p, impl.Pair{From: a, To: a + 980})
	}
	for a := range 20 {
		p = append(p, impl.Pair{From: a + 980, To: a})
	}
	got, ok := impl.ActOnRule(p, r)
	if !ok || !impl.IsRule(got) || got.Context[0].Atom != 20 || got.Context[39].Atom != 999 || !same(got.Right, renamedByTable(tableOf(p), r.Right)) {
		t.Error("20 of 40 atoms:", ruleText(got))
	}
}

func checkNoRule(t *testing.T, why string, r impl.Rule, ok bool) {
	t.Helper()
	if ok || ruleText(r) != "" {
		t.Errorf("%s: %v, %v", why, r, ok)
	}
}

func TestActOnRuleInvalid(t *testing.T) {
	good := rule(t, "a0#X0 | f1([a0]f2(X0,a0)) > X0")
	for why, p := range notPermutations() {
		got, ok := impl.ActOnRule(p, good)
		checkNoRule(t, why, got, ok)
		got, ok = impl.ActOnRule(p, rule(t, "- | f0 > f0"))
		checkNoRule(t, why, got, ok)
	}
	for why, r := range notRules(t) {
		for _, p := range [][]impl.Pair{nil, impl.SwapOf(0, 1), pairs(0, 1)} {
			got, ok := impl.ActOnRule(p, r)
			checkNoRule(t, why, got, ok)
		}
	}
}

func TestFreshenRule(t *testing.T) {
	eta, switched := "a0#X0 | f1([a0]f2(X0,a0)) > X0", "- | [a0][a1]X0 > [a1][a0]X0"
	for _, c := range []struct{ r, x, want string }{
		{eta, "f2(a1,a2)", "a3#X0 | f1([a3]f2(X0,a3)) > X0"},
		{eta, "f0", "a1#X0 | f1([a1]f2(X0,a1)) > X0"}, // no atom of the rule is new
		{eta, "a0", "a1#X0 | f1([a1]f2(X0,a1)) > X0"},
		{eta, "a1", "a2#X0 | f1([a2]f2(X0,a2)) > X0"},
		{eta, "[a1]f0", "a2#X0 | f1([a2]f2(X0,a2)) > X0"},
		{eta, "(1 3)X5", "a2#X0 | f1([a2]f2(X0,a2)) > X0"},
		{eta, "X0", "a1#X0 | f1([a1]f2(X0,a1)) > X0"},
		{switched, "f0", "- | [a2][a3]X0 > [a3][a2]X0"},
		{switched, "a3", "- | [a2][a4]X0 > [a4][a2]X0"},
		{switched, "f3(a2,a3,[a5]a0)", "- | [a4][a6]X0 > [a6][a4]X0"},
		{"- | [a5][a2]X0 > X0", "f0", "- | [a1][a0]X0 > X0"}, // in ascending order both
		{"- | [a5][a2]X0 > X0", "a1", "- | [a3][a0]X0 > X0"},
		{"- | [a0](1 2)X0 > X0", "f0", "- | [a3](4 5)X0 > X0"},
		{"- | f1((0 2 1)X0) > X0", "a4", "- | f1((3 6 5)X0) > X0"},
		{"- | f1(X0) > [a0](0 1)X0", "f0", "- | f1(X0) > [a2](2 3)X0"}, // on the right alone
		{"a0#X0 | f1(X0) > X0", "f0", "a1#X0 | f1(X0) > X0"},           // in the context alone
		{"a0#X0,a3#X0,a1#X1 | f2(X0,X1) > a2", "f0", "a4#X0,a7#X0,a5#X1 | f2(X0,X1) > a6"},
		{"- | a0 > a1", "f0", "- | a2 > a3"}, // free ones too
		{"- | f1(X0) > f2(X0,f0)", "f2(a0,a1)", "- | f1(X0) > f2(X0,f0)"},
		{"- | [a999][a998]X0 > X0", "a0", "- | [a2][a1]X0 > X0"},
	} {
		if got, ok := impl.FreshenRule(rule(t, c.r), term(t, c.x)); !ok || ruleText(got) != c.want {
			t.Errorf("%s for %s: %s instead of %s", c.r, c.x, ruleText(got), c.want)
		}
	}
}

// bindersFrom is x with binders of count atoms from first on around it, the
// first one outermost.
func bindersFrom(first, count int, x impl.Term) impl.Term {
	for i := range count {
		x = bind(first+count-1-i, x)
	}
	return x
}

// The permutation that swaps 21 atoms with new ones would move more than
// MaxMoved.
func TestFreshenRuleMovesNoMore(t *testing.T) {
	twenty := bindersFrom(0, 20, hole(0))
	got, ok := impl.FreshenRule(impl.Rule{Left: twenty, Right: twenty}, node(0))
	if !ok || !same(got.Left, bindersFrom(20, 20, hole(0))) || !same(got.Right, got.Left) {
		t.Error("20 atoms:", ruleText(got))
	}
	moved := impl.Rule{Context: freshFrom(0, 20, 0), Left: node(1, hole(0, rotation(0, 20)...)), Right: hole(0)}
	got, ok = impl.FreshenRule(moved, node(0))
	if !ok || !same(got.Left, node(1, hole(0, rotation(20, 20)...))) || !slices.Equal(got.Context, freshFrom(20, 20, 0)) {
		t.Error("20 atoms that are moved:", ruleText(got))
	}
	for why, r := range map[string]impl.Rule{
		"21 on the left":          {Left: bindersFrom(0, 21, hole(0)), Right: hole(0)},
		"21 on the right":         {Left: node(1, hole(0)), Right: bindersFrom(0, 21, hole(0))},
		"one more on the right":   {Left: twenty, Right: bind(20, hole(0))},
		"one more in the context": {Context: freshes(20, 0), Left: twenty, Right: hole(0)},
		"one more that is moved":  {Left: twenty, Right: hole(0, impl.SwapOf(0, 20)...)},
		"40 that are moved":       {Left: node(1, hole(0, rotation(0, 40)...)), Right: hole(0)},
		"as many as there can be": {Left: manyHoles(), Right: manyHoles()},
	} {
		if !impl.IsRule(r) {
			t.Fatal(why)
		}
		got, ok := impl.FreshenRule(r, node(0))
		checkNoRule(t, why, got, ok)
		if _, is := freshenedByHand(r, node(0)); is {
			t.Error(why, "is not seen by the tests")
		}
	}
}

// crowded has all atoms but some.
func crowded(but ...int) impl.Term {
	atoms := []int{}
	for a := range impl.MaxAtom + 1 {
		if !slices.Contains(but, a) {
			atoms = append(atoms, a)
		}
	}
	x := node(0)
	for part := range slices.Chunk(atoms, impl.MaxMoved) {
		p := []impl.Pair{}
		for i, a := range part {
			p = append(p, impl.Pair{From: a, To: part[(i+1)%len(part)]})
		}
		x = node(2, hole(0, p...), x)
	}
	return x
}

func TestFreshenRuleWithFewAtomsLeft(t *testing.T) {
	for _, c := range []struct {
		r    string
		x    impl.Term
		want string
	}{
		{"- | f1(X0) > X0", crowded(), "- | f1(X0) > X0"}, // none is needed
		{"- | [a0]X0 > X0", crowded(), ""},
		{"- | [a0]X0 > X0", crowded(0), ""}, // it is an atom of the rule
		{"- | [a0]X0 > X0", crowded(5), "- | [a5]X0 > X0"},
		{"- | [a0]X0 > X0", crowded(999), "- | [a999]X0 > X0"},
		{"a0#X0 | f1(X0) > X0", crowded(), ""},
		{"- | [a0][a1]X0 > X0", crowded(5), ""},
		{"- | [a0][a1]X0 > X0", crowded(0, 5), ""},
		{"- | [a0][a1]X0 > X0", crowded(5, 999), "- | [a5][a999]X0 > X0"},
	} {
		got, ok := impl.FreshenRule(rule(t, c.r), c.x)
		if ok != (c.want != "") || ruleText(got) != c.want {
			t.Errorf("%s: %s instead of %s", c.r, ruleText(got), c.want)
		}
	}
}

func TestFreshenRuleInvalid(t *testing.T) {
	for why, r := range notRules(t) {
		for _, x := range []impl.Term{node(0), atom(0), hole(0), {}} {
			got, ok := impl.FreshenRule(r, x)
			checkNoRule(t, why, got, ok)
		}
	}
	for why, x := range notTerms() {
		for _, r := range rules(t, "- | f0 > f0", "a0#X0 | f1([a0]f2(X0,a0)) > X0") {
			got, ok := impl.FreshenRule(r, x)
			checkNoRule(t, why, got, ok)
		}
	}
}
