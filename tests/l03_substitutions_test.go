package tests

import (
	"slices"
	"testing"

	"loop.example/g03112/impl"
)

func TestIsSubstitution(t *testing.T) {
	for _, l := range [][]impl.Binding{
		nil, {}, binding(0, atom(0)), binding(9, hole(9)), binding(3, under(59, hole(3, rotation(0, 40)...))), allBound(hole(0)),
		slices.Concat(binding(2, node(0)), binding(7, bind(0, atom(1)))),
	} {
		if !impl.IsSubstitution(l) {
			t.Errorf("%v is a substitution", l)
		}
	}
	for why, l := range notSubstitutions() {
		if impl.IsSubstitution(l) {
			t.Errorf("%s: a substitution", why)
		}
	}
}

// Each list of texts binds the holes from 0 on; an empty text binds none.
func TestApplySubstitution(t *testing.T) {
	for _, c := range []struct {
		l       []string
		x, want string
	}{
		{nil, "f2(X0,a1)", "f2(X0,a1)"},
		{[]string{"a5"}, "a0", "a0"},
		{[]string{"a5"}, "f0", "f0"},
		{[]string{"a5"}, "X0", "a5"},
		{[]string{"a5"}, "X1", "X1"}, // a hole that is not bound stays
		{[]string{"a5"}, "(0 1)X1", "(0 1)X1"},
		{[]string{"", "f1(a0)"}, "f3(X0,X1,X2)", "f3(X0,f1(a0),X2)"},
		{[]string{"f1(a0)"}, "[a0]f2((0 2)X0,X1)", "[a0]f2(f1(a2),X1)"},
		{[]string{"a0"}, "[a0]X0", "[a0]a0"}, // binders around it bind what comes
		{[]string{"a0"}, "[a0](0 1)X0", "[a0]a1"},
		{[]string{"a0"}, "(0 1 2)X0", "a1"}, // what Perm makes of it
		{[]string{"a1"}, "(0 1 2)X0", "a2"},
		{[]string{"[a0]f2(a0,a1)"}, "(0 1 2)X0", "[a1]f2(a1,a2)"},
		{[]string{"X0"}, "(0 1)X0", "(0 1)X0"},
		{[]string{"X1"}, "(0 1 2)X0", "(0 1 2)X1"},
		{[]string{"(0 1)X1"}, "(1 2)X0", "(0 2 1)X1"}, // first (0 1), then (1 2)
		{[]string{"(0 1)X1"}, "(0 1)X0", "X1"},
		{[]string{"X1", "X0"}, "f2(X0,X1)", "f2(X1,X0)"}, // at once, not again
		{[]string{"f1(X0)"}, "f2(X0,X0)", "f2(f1(X0),f1(X0))"},
		{[]string{"f1(X1)", "a3"}, "f2(X0,(3 4)X1)", "f2(f1(X1),a4)"},
		{[]string{"f2(a0,X5)", "", "[a1](0 2)X2"}, "f3((0 1)X0,X1,[a1](1 2)X2)", "f3(f2(a1,(0 1)X5),X1,[a1][a2](0 1 2)X2)"},
	} {
		got, ok := impl.ApplySubstitution(bindings(t, c.l...), term(t, c.x))
		if !ok || impl.FormatTerm(got) != c.want {
			t.Errorf("%v on %s: %s, %v", c.l, c.x, impl.FormatTerm(got), ok)
		}
	}
}

func TestApplyAtTheLimit(t *testing.T) {
	three := node(2, hole(0), hole(0))
	for _, c := range []struct {
		why  string
		u, x impl.Term
		ok   bool
	}{
		{"60 nodes", under(59, atom(0)), hole(0), true},
		{"60 nodes with some around", under(49, atom(0)), under(10, hole(0)), true},
		{"61 nodes", under(50, atom(0)), under(10, hole(0)), false},
		{"59 nodes by two holes", under(28, hole(0)), three, true},
		{"61 nodes by two holes", under(29, hole(0)), three, false},
		{"very many nodes", under(59, atom(0)), wide(19, hole(0)), false},
		{"many nodes in no place", under(59, atom(0)), under(59, hole(1)), true},
		{"40 moved", hole(0, rotation(0, 38)...), hole(0, impl.SwapOf(38, 39)...), true},
		{"41 moved", hole(0, rotation(0, 39)...), hole(0, rotation(38, 3)...), false},
		{"41 moved, deeper", node(2, atom(3), bind(0, hole(5, rotation(38, 3)...))), node(1, hole(0, rotation(0, 39)...)), false},
		{"41 moved in no place", hole(0, rotation(0, 39)...), hole(1, rotation(38, 3)...), true},
	} {
		got, ok := impl.ApplySubstitution(binding(0, c.u), c.x)
		if ok != c.ok || !ok && !isZero(got) || ok && !impl.IsTerm(got) {
			t.Errorf("%s: %v, %v", c.why, got, ok)
		}
	}
}

func TestApplyInvalid(t *testing.T) {
	for why, l := range notSubstitutions() {
		// Also if there is no place for what is bound.
		for _, x := range []impl.Term{atom(0), hole(0), {}} {
			if got, ok := impl.ApplySubstitution(l, x); ok || !isZero(got) {
				t.Errorf("%s: %v", why, got)
			}
		}
	}
	for why, x := range notTerms() {
		for _, l := range [][]impl.Binding{nil, binding(0, atom(0)), allBound(atom(0))} {
			if got, ok := impl.ApplySubstitution(l, x); ok || !isZero(got) {
				t.Errorf("%s: %v", why, got)
			}
		}
	}
}

func TestComposeSubstitutions(t *testing.T) {
	for _, c := range []struct{ l, m, want []string }{
		{nil, nil, nil},
		{[]string{"a0"}, nil, []string{"a0"}},
		{nil, []string{"a0"}, []string{"a0"}},
		{[]string{"a0"}, []string{"a1"}, []string{"a0"}}, // what l has of a hole comes first
		{[]string{"", "", "a2"}, []string{"a0", "", "", "a3"}, []string{"a0", "", "a2", "a3"}},
		{[]string{"f1(X1)"}, []string{"", "a5"}, []string{"f1(a5)", "a5"}},
		{[]string{"", "a5"}, []string{"f1(X1)"}, []string{"f1(X1)", "a5"}}, // l is not done on what m has
		{[]string{"X0"}, []string{"a1"}, []string{"a1"}},
		{[]string{"X1"}, []string{"", "X0"}, []string{"X0", "X0"}}, // also a hole for itself is kept
		{[]string{"(0 1)X1"}, []string{"", "f2(a0,(1 2)X3)"}, []string{"f2(a1,(0 1 2)X3)", "f2(a0,(1 2)X3)"}},
		{[]string{"X1", "X2"}, []string{"a0", "a1", "a2"}, []string{"a1", "a2", "a2"}},
		{[]string{"[a0]f2(X0,X5)"}, []string{"a0"}, []string{"[a0]f2(a0,X5)"}},
	} {
		got, ok := impl.ComposeSubstitutions(bindings(t, c.l...), bindings(t, c.m...))
		if !ok || !sameBindings(got, bindings(t, c.want...)) {
			t.Errorf("%v, then %v: %v, %v", c.l, c.m, got, ok)
		}
	}
}

func TestComposeSubstitutionsAtTheLimit(t *testing.T) {
	if got, ok := impl.ComposeSubstitutions(allBound(hole(3)), allBound(atom(7))); !ok || !sameBindings(got, allBound(atom(7))) {
		t.Error("all holes:", got, ok)
	}
	for _, c := range []struct {
		why  string
		x, u impl.Term
		ok   bool
	}{
		{"60 nodes", under(30, hole(0)), under(29, atom(0)), true},
		{"61 nodes", under(30, hole(0)), under(30, atom(0)), false},
		{"very many nodes", wide(19, hole(0)), wide(19, hole(0)), false},
		{"40 moved", hole(0, impl.SwapOf(38, 39)...), hole(0, rotation(0, 38)...), true},
		{"41 moved", hole(0, rotation(38, 3)...), hole(0, rotation(0, 39)...), false},
	} {
		l := slices.Concat(binding(3, atom(0)), binding(4, c.x))
		got, ok := impl.ComposeSubstitutions(l, binding(0, c.u))
		if ok != c.ok || !ok && len(got) != 0 || ok && !impl.IsSubstitution(got) {
			t.Errorf("%s: %v, %v", c.why, got, ok)
		}
	}
}

func TestComposeSubstitutionsInvalid(t *testing.T) {
	for why, l := range notSubstitutions() {
		for _, other := range [][]impl.Binding{nil, binding(0, atom(0)), l} {
			if got, ok := impl.ComposeSubstitutions(l, other); ok || len(got) != 0 {
				t.Errorf("%s: %v", why, got)
			}
			if got, ok := impl.ComposeSubstitutions(other, l); ok || len(got) != 0 {
				t.Errorf("%s: %v", why, got)
			}
		}
	}
}

func TestContextUnder(t *testing.T) {
	for _, c := range []struct {
		l       []string
		m, want string
	}{
		{nil, "-", "-"},
		{[]string{"a0"}, "-", "-"},
		{nil, "a0#X0,a2#X0,a1#X5", "a0#X0,a2#X0,a1#X5"}, // nothing is bound
		{[]string{"a1"}, "a0#X0", "-"},
		{[]string{"a0"}, "a0#X0", ""},
		{[]string{"a0"}, "a0#X1", "a0#X1"},
		{[]string{"f1(a0)"}, "a1#X0,a0#X1", "a0#X1"},
		{[]string{"f1(a0)"}, "a0#X0,a0#X1", ""},
		{[]string{"", "f1(a0)"}, "a0#X0,a0#X1", ""},
		{[]string{"X0"}, "a0#X0", "a0#X0"},
		{[]string{"X1"}, "a0#X0", "a0#X1"},
		{[]string{"(0 1 2)X1"}, "a0#X0", "a2#X1"},
		{[]string{"(0 1 2)X1"}, "a0#X0,a2#X0,a0#X1", "a0#X1,a1#X1,a2#X1"}, // X1 itself is not bound
		{[]string{"[a0]f2(a0,X1)"}, "a0#X0,a1#X0", "a1#X1"},
		{[]string{"f2(X3,X2)"}, "a0#X0,a5#X0", "a0#X2,a5#X2,a0#X3,a5#X3"},
		{[]string{"X1", "X0"}, "a0#X0,a1#X1", "a1#X0,a0#X1"},
		{[]string{"X2", "X2"}, "a0#X0,a0#X1,a0#X2", "a0#X2"},
	} {
		got, ok := impl.ContextUnder(bindings(t, c.l...), context(t, c.m))
		if ok != (c.want != "") || ok && impl.FormatContext(got) != c.want || !ok && len(got) != 0 {
			t.Errorf("%s under %v: %v, %v", c.m, c.l, got, ok)
		}
	}
}

func TestContextUnderAtTheLimit(t *testing.T) {
	two := node(2, hole(1), hole(2))
	for _, c := range []struct {
		why  string
		l    []impl.Binding
		m    []impl.Fresh
		want []impl.Fresh
	}{
		{"40 of one hole", nil, freshFrom(0, 40, 0), freshFrom(0, 40, 0)},
		{"40 of two holes", binding(0, two), freshFrom(0, 20, 0), slices.Concat(freshFrom(0, 20, 1), freshFrom(0, 20, 2))},
		{"42 of two holes", binding(0, two), freshFrom(0, 21, 0), nil},
		{"40 and one more", binding(0, two), append(freshFrom(0, 20, 0), freshes(0, 3)...), nil},
		{"40 and one again", binding(0, two), append(freshFrom(0, 20, 0), freshes(19, 2)...), slices.Concat(freshFrom(0, 20, 1), freshFrom(0, 20, 2))},
		{"many that are met", binding(0, atom(40)), freshFrom(0, 40, 0), freshes()},
		{"one of many that is not met", binding(0, atom(39)), freshFrom(0, 40, 0), nil},
		{"40 by one", binding(0, manyHoles()), freshes(0, 0), mustNeed(0, manyHoles())},
		{"80 by two", binding(0, manyHoles()), freshes(0, 0, 500, 0), nil},
	} {
		got, ok := impl.ContextUnder(c.l, c.m)
		if ok != (c.want != nil) || !slices.Equal(got, c.want) {
			t.Errorf("%s: %v, %v", c.why, got, ok)
		}
	}
}

func mustNeed(a int, x impl.Term) []impl.Fresh {
	l, _ := impl.FreshNeeds(a, x)
	return l
}

func TestContextUnderInvalid(t *testing.T) {
	for why, l := range notSubstitutions() {
		for _, m := range [][]impl.Fresh{nil, freshes(5, 5), freshes(0, 10)} {
			if got, ok := impl.ContextUnder(l, m); ok || len(got) != 0 {
				t.Errorf("%s: %v", why, got)
			}
		}
	}
	for why, m := range notContexts() {
		for _, l := range [][]impl.Binding{nil, binding(5, atom(0)), allBound(node(0))} {
			if got, ok := impl.ContextUnder(l, m); ok || len(got) != 0 {
				t.Errorf("%s: %v", why, got)
			}
		}
	}
}
