package tests

import (
	"slices"
	"strconv"
	"strings"
	"testing"

	"loop.example/g03112/impl"
)

func TestIsContext(t *testing.T) {
	for _, l := range [][]impl.Fresh{
		nil, {}, freshes(0, 0), freshes(999, 9), freshes(0, 0, 1, 0), freshes(0, 0, 0, 1), freshes(999, 0, 0, 1),
		freshes(0, 0, 999, 0, 0, 9, 999, 9), freshFrom(960, 40, 9), slices.Concat(freshFrom(0, 20, 0), freshFrom(0, 20, 1)),
	} {
		if !impl.IsContext(l) {
			t.Errorf("%v is a context", l)
		}
	}
	for why, l := range notContexts() {
		if impl.IsContext(l) {
			t.Errorf("%s: %v is no context", why, l)
		}
	}
}

func TestMergeContexts(t *testing.T) {
	for _, c := range []struct{ l, m, want string }{
		{"-", "-", "-"},
		{"a0#X1", "-", "a0#X1"},
		{"-", "a0#X1", "a0#X1"},
		{"a0#X1", "a0#X1", "a0#X1"},
		{"a0#X1", "a1#X0", "a1#X0,a0#X1"}, // holes first
		{"a2#X1", "a10#X1", "a2#X1,a10#X1"},
		{"a10#X1", "a2#X1", "a2#X1,a10#X1"}, // as numbers, not as texts
		{"a0#X0,a5#X0,a0#X3", "a3#X0,a5#X0,a9#X2", "a0#X0,a3#X0,a5#X0,a9#X2,a0#X3"},
	} {
		got, ok := impl.MergeContexts(context(t, c.l), context(t, c.m))
		if !ok || impl.FormatContext(got) != c.want {
			t.Errorf("%s and %s: %v, %v", c.l, c.m, got, ok)
		}
	}
	for _, c := range []struct {
		l, m []impl.Fresh
		want []impl.Fresh
	}{
		{freshFrom(0, 20, 1), freshFrom(20, 20, 1), freshFrom(0, 40, 1)},
		{freshFrom(0, 30, 1), freshFrom(10, 30, 1), freshFrom(0, 40, 1)},
		{freshFrom(0, 40, 1), freshFrom(0, 40, 1), freshFrom(0, 40, 1)},
		{freshFrom(0, 40, 1), nil, freshFrom(0, 40, 1)},
		{freshFrom(0, 20, 1), freshFrom(20, 21, 1), nil},
		{freshFrom(0, 40, 1), freshFrom(1, 40, 1), nil},
		{freshFrom(0, 40, 1), freshes(0, 0), nil},
		{freshFrom(0, 40, 1), freshFrom(0, 40, 2), nil},
	} {
		got, ok := impl.MergeContexts(c.l, c.m)
		if ok != (c.want != nil) || !slices.Equal(got, c.want) {
			t.Errorf("%v and %v: %v, %v", c.l, c.m, got, ok)
		}
	}
	for why, l := range notContexts() {
		for _, other := range [][]impl.Fresh{nil, freshes(0, 0), l} {
			if got, ok := impl.MergeContexts(l, other); ok || len(got) != 0 {
				t.Errorf("%s: %v", why, got)
			}
			if got, ok := impl.MergeContexts(other, l); ok || len(got) != 0 {
				t.Errorf("%s: %v", why, got)
			}
		}
	}
}

func TestIncludesContext(t *testing.T) {
	for _, c := range []struct {
		l, part string
		want    bool
	}{
		{"-", "-", true},
		{"a0#X0", "-", true},
		{"-", "a0#X0", false},
		{"a0#X0", "a0#X0", true},
		{"a0#X0", "a0#X1", false},
		{"a0#X0", "a1#X0", false},
		{"a0#X1", "a1#X0", false},
		{"a0#X0,a1#X0", "a1#X0", true},
		{"a0#X0,a1#X0,a0#X1,a7#X9", "a0#X0,a7#X9", true},
		{"a0#X0,a1#X0,a0#X1,a7#X9", "a0#X0,a1#X1", false},
		{"a0#X0,a1#X0", "a0#X0,a1#X0,a2#X0", false},
	} {
		if got := impl.IncludesContext(context(t, c.l), context(t, c.part)); got != c.want {
			t.Errorf("%s has %s: %v", c.l, c.part, got)
		}
	}
	if !impl.IncludesContext(freshFrom(0, 40, 1), freshFrom(0, 40, 1)) || impl.IncludesContext(freshFrom(0, 40, 1), freshFrom(1, 40, 1)) {
		t.Error("40 elements")
	}
	for why, l := range notContexts() {
		if impl.IncludesContext(l, nil) || impl.IncludesContext(l, l) || impl.IncludesContext(freshFrom(0, 40, 0), l) {
			t.Errorf("%s: included", why)
		}
	}
}

func TestFreshNeeds(t *testing.T) {
	for _, c := range []struct {
		a    int
		x    string
		want string
	}{
		{0, "a0", ""}, // not fresh with any context
		{0, "a1", "-"},
		{0, "f0", "-"},
		{0, "[a0]a0", "-"},
		{0, "[a1]a0", ""},
		{0, "X1", "a0#X1"},
		{999, "X9", "a999#X9"},
		{0, "[a0]X1", "-"}, // bound, whatever comes
		{0, "[a1]X1", "a0#X1"},
		{0, "[a1][a0]X1", "-"},
		{0, "(0 1)X2", "a1#X2"},
		{2, "(0 1)X2", "a2#X2"},
		{0, "(0 1 2)X1", "a2#X1"}, // the atom that becomes a0, not the one that a0 becomes
		{1, "(0 1 2)X1", "a0#X1"},
		{2, "(0 1 2)X1", "a1#X1"},
		{5, "(0 1 2)X1", "a5#X1"},
		{0, "(0 2 1)X1", "a1#X1"},
		{3, "(0 1)(2 5 3 4)X0", "a5#X0"},
		{2, "[a0](0 1 2)X1", "a1#X1"},
		{0, "[a0](0 1 2)X1", "-"},
		{0, "[a2](0 1 2)X1", "a2#X1"}, // the binder binds a2, and not what Perm makes of it
		{0, "f2([a0]X1,(0 1)X2)", "a1#X2"},
		{0, "f2(X2,X1)", "a0#X1,a0#X2"},
		{0, "f2(X1,X1)", "a0#X1"},
		{0, "f2(X1,(0 1)X1)", "a0#X1,a1#X1"},
		{0, "f3((0 10)X1,X0,(0 3)X1)", "a0#X0,a3#X1,a10#X1"},
		{0, "f2(X1,a0)", ""},
		{0, "f2(a0,X1)", ""},
		{0, "f2([a0]a0,a0)", ""},
		{0, "f1(f1(f2(X1,[a1]a0)))", ""},
		{0, "f1(f1(f2(X1,[a0]a0)))", "a0#X1"},
	} {
		l, ok := impl.FreshNeeds(c.a, term(t, c.x))
		if ok != (c.want != "") || ok && impl.FormatContext(l) != c.want || !ok && len(l) != 0 {
			t.Errorf("%d for %s: %v, %v", c.a, c.x, l, ok)
		}
	}
}

// manyHoles has 40 holes with other swaps each, and 60 nodes, so no term can
// need more elements for one atom.
func manyHoles() impl.Term {
	x := hole(0, impl.SwapOf(0, 1)...)
	for i := 1; i < 39; i += 2 {
		x = node(3, x, hole(i%10, impl.SwapOf(0, 1+i)...), hole((i+1)%10, impl.SwapOf(0, 2+i)...))
	}
	return node(2, hole(9, impl.SwapOf(0, 999)...), x)
}

func TestFreshNeedsAtTheLimit(t *testing.T) {
	x := manyHoles()
	got, ok := impl.FreshNeeds(0, x)
	if !ok || len(got) != 40 || got[0] != (impl.Fresh{Atom: 1, Hole: 0}) || got[39] != (impl.Fresh{Atom: 999, Hole: 9}) || !impl.IsContext(got) {
		t.Error("40 elements are needed:", got, ok)
	}
	if !impl.FreshIn(got, 0, x) || impl.FreshIn(got[1:], 0, x) || impl.FreshIn(got[:39], 0, x) {
		t.Error("all 40 elements are needed")
	}
	if got, ok := impl.FreshNeeds(30, hole(1, rotation(0, 40)...)); !ok || !slices.Equal(got, freshes(29, 1)) {
		t.Error("40 atoms moved:", got, ok)
	}
	if got, ok := impl.FreshNeeds(0, under(59, hole(1))); !ok || !slices.Equal(got, freshes(0, 1)) {
		t.Error("60 nodes:", got, ok)
	}
}

func TestFreshInvalid(t *testing.T) {
	all := freshFrom(0, 40, 0)
	for _, a := range notAtoms {
		for _, x := range []impl.Term{atom(0), atom(a), node(0), hole(0), bind(0, hole(0))} {
			if got, ok := impl.FreshNeeds(a, x); ok || len(got) != 0 || impl.FreshIn(all, a, x) || impl.FreshIn(nil, a, x) {
				t.Errorf("%d is no atom: %v", a, got)
			}
		}
	}
	for why, x := range notTerms() {
		if got, ok := impl.FreshNeeds(500, x); ok || len(got) != 0 || impl.FreshIn(all, 500, x) || impl.FreshIn(nil, 500, x) {
			t.Errorf("%s: %v", why, got)
		}
	}
	for why, l := range notContexts() {
		// Also if nothing is needed, or what is needed is among it.
		if impl.FreshIn(l, 0, atom(1)) || impl.FreshIn(l, 0, hole(0)) || impl.FreshIn(l, 3, hole(3)) {
			t.Errorf("%s: fresh", why)
		}
		if impl.EqualIn(l, atom(1), atom(1)) || impl.EqualIn(l, bind(0, hole(0)), bind(0, hole(0))) {
			t.Errorf("%s: equal", why)
		}
	}
}

func TestEqualNeeds(t *testing.T) {
	for _, c := range []struct{ x, y, want string }{
		{"a0", "a0", "-"},
		{"a0", "a1", ""},
		{"f0", "f0", "-"},
		{"f0", "f4", ""},
		{"f1(a0)", "f5(a0)", ""},
		{"f1(a0)", "a0", ""},
		{"f1(a0)", "[a0]a0", ""},
		{"[a0]a0", "[a1]a1", "-"},
		{"[a0]a1", "[a1]a1", ""},
		{"[a0]a1", "[a1]a0", ""}, // a0 is free in the other body
		{"X0", "X0", "-"},
		{"X0", "X1", ""},
		{"X0", "a0", ""}, // a hole and what is no hole
		{"X0", "f0", ""},
		{"X0", "[a0]X0", ""},
		{"X0", "f1(X0)", ""},
		{"(0 1)X0", "X1", ""},
		{"(0 1)X0", "a1", ""},
		{"(0 1)X0", "X0", "a0#X0,a1#X0"},
		{"(0 1)X0", "(0 1)X0", "-"},
		{"(0 1 2)X3", "X3", "a0#X3,a1#X3,a2#X3"},
		{"(0 1 2)X3", "(0 1 2)X3", "-"},
		{"(0 1 2)X3", "(0 2 1)X3", "a0#X3,a1#X3,a2#X3"},
		{"(0 1 2)X3", "(0 1)X3", "a1#X3,a2#X3"}, // both give a1 to a0, so a0 may be free
		{"(0 1 2)X3", "(1 2)X3", "a0#X3,a2#X3"},
		{"(0 1)(2 3)X3", "(0 1)X3", "a2#X3,a3#X3"},
		{"(0 1)X3", "(2 999)X3", "a0#X3,a1#X3,a2#X3,a999#X3"},
		{"f2(X0,X1)", "f2(X0,X1)", "-"},
		{"f2(X0,X1)", "f2(X1,X0)", ""},
		{"f2((0 1)X1,(2 10)X0)", "f2(X1,X0)", "a2#X0,a10#X0,a0#X1,a1#X1"},
		{"f2((0 1)X0,(1 2)X0)", "f2(X0,X0)", "a0#X0,a1#X0,a2#X0"},
		{"f2((0 1)X0,a0)", "f2(X0,a1)", ""},
		{"f2(a0,(0 1)X0)", "f2(a1,X0)", ""},
	} {
		checkEqualNeeds(t, c.x, c.y, c.want)
	}
}

func TestEqualNeedsOfBinders(t *testing.T) {
	for _, c := range []struct{ x, y, want string }{
		{"[a0]X0", "[a0]X0", "-"},
		{"[a0](0 1)X0", "[a0]X0", "a0#X0,a1#X0"}, // the binder changes nothing about the hole
		{"[a0]X0", "[a1](0 1)X0", "a1#X0"},
		{"[a0]X0", "[a1]X0", "a0#X0,a1#X0"},
		{"[a0]X0", "[a1](0 2 1)X0", "a0#X0,a1#X0,a2#X0"}, // a1 becomes a0; (0 2) is left
		{"[a0]X0", "[a1](0 1 2)X0", "a1#X0,a2#X0"},       // a2 becomes a0; (1 2) is left
		{"[a0](0 2)X0", "[a1](0 2 1)X0", "a1#X0"},        // a1 becomes a0; the same is left
		{"[a0](0 1 2)X0", "[a1](1 2)X0", "a0#X0"},        // the swap is done behind Perm
		{"[a0](0 1 2)X0", "[a1](0 2)X0", "a0#X0,a1#X0,a2#X0"},
		{"[a0][a1]X0", "[a1][a0](0 1)X0", "-"},
		{"[a0][a1]X0", "[a1][a0]X0", "a0#X0,a1#X0"},
		{"[a0][a1]X0", "[a2][a3]X0", "a0#X0,a1#X0,a2#X0,a3#X0"},
		{"[a0][a1]X0", "[a2][a3](0 2)(1 3)X0", "a2#X0,a3#X0"},
		{"[a0]f2(a0,X1)", "[a2]f2(a2,X1)", "a0#X1,a2#X1"},
		{"[a0]f2(a0,X1)", "[a2]f2(a2,(0 2)X1)", "a2#X1"},
		{"[a0]f2(a0,X1)", "[a2]f2(a0,(0 2)X1)", ""},
		{"[a0]f2(X1,a2)", "[a2]f2((0 2)X1,a2)", ""},
		{"[a0]f2(X1,X2)", "[a2]f2((0 2)X1,X2)", "a2#X1,a0#X2,a2#X2"},
		{"[a0]f2([a0]X1,X2)", "[a2]f2([a2](0 2)X1,(0 2)X2)", "a2#X1,a2#X2"},
	} {
		checkEqualNeeds(t, c.x, c.y, c.want)
	}
}

// checkEqualNeeds expects the same with the two terms exchanged; with an empty
// text no context.
func checkEqualNeeds(t *testing.T, x, y, want string) {
	t.Helper()
	for _, sides := range [][2]string{{x, y}, {y, x}} {
		l, ok := impl.EqualNeeds(term(t, sides[0]), term(t, sides[1]))
		if ok != (want != "") || ok && impl.FormatContext(l) != want || !ok && len(l) != 0 {
			t.Errorf("%s and %s: %v, %v", sides[0], sides[1], l, ok)
		}
	}
}

// swapsFrom swaps each two of count atoms from first on.
func swapsFrom(first, count int) []impl.Pair {
	l := []impl.Pair{}
	for a := first; a < first+count; a += 2 {
		l = append(l, impl.SwapOf(a, a+1)...)
	}
	return l
}

func TestEqualNeedsAtTheLimit(t *testing.T) {
	bound := func(first, count int, x impl.Term) impl.Term {
		for i := range count {
			x = bind(first+i, x)
		}
		return x
	}
	for _, c := range []struct {
		why  string
		x, y impl.Term
		want []impl.Fresh
	}{
		{"40 atoms differ", hole(1, rotation(0, 40)...), hole(1), freshFrom(0, 40, 1)},
		{"40 of 80 moved differ", hole(1, rotation(0, 20)...), hole(1, rotation(20, 20)...), freshFrom(0, 40, 1)},
		{"41 atoms differ", hole(1, rotation(0, 39)...), hole(1, impl.SwapOf(39, 40)...), nil},
		{"80 atoms differ", hole(1, rotation(0, 40)...), hole(1, rotation(40, 40)...), nil},
		{"none of 40 differs", hole(1, rotation(0, 40)...), hole(1, rotation(0, 40)...), freshes()},
		{"40 by binders", bound(0, 20, hole(1)), bound(20, 20, hole(1)), freshFrom(0, 40, 1)},
		{"42 by binders", bound(0, 21, hole(1)), bound(21, 21, hole(1)), nil},
		{"40 and one more", node(2, bound(0, 20, hole(1)), bind(0, hole(2))), node(2, bound(20, 20, hole(1)), bind(1, hole(2, impl.SwapOf(0, 1)...))), nil},
		{"40 and one again", node(2, bound(0, 20, hole(1)), bind(0, hole(1))), node(2, bound(20, 20, hole(1)), bind(1, hole(1, impl.SwapOf(0, 1)...))), freshFrom(0, 40, 1)},
		{"59 binders", bound(0, 59, atom(3)), bound(100, 59, atom(103)), freshes()},
		{"59 binders and a hole", bound(0, 59, hole(1)), bound(0, 59, hole(1)), freshes()},
	} {
		for _, sides := range [][2]impl.Term{{c.x, c.y}, {c.y, c.x}} {
			got, ok := impl.EqualNeeds(sides[0], sides[1])
			if ok != (c.want != nil) || !slices.Equal(got, c.want) {
				t.Errorf("%s: %v, %v", c.why, got, ok)
			}
			if impl.EqualIn(c.want, sides[0], sides[1]) != ok {
				t.Errorf("%s: not %v", c.why, ok)
			}
		}
	}
}

// A term can't have a Perm that moves more than MaxMoved atoms, but what comes of
// one on the way of comparing can: there is a least context all the same.
func TestEqualNeedsBeyondMaxMoved(t *testing.T) {
	x := bind(0, hole(1, swapsFrom(0, 40)...))
	y := bind(1, hole(1, swapsFrom(2, 40)...))
	want := freshes(0, 1, 40, 1, 41, 1)
	if got, ok := impl.EqualNeeds(x, y); !ok || !slices.Equal(got, want) {
		t.Error(got, ok)
	}
	if !impl.EqualIn(want, x, y) || impl.EqualIn(want[1:], x, y) || impl.EqualIn(want[:2], x, y) {
		t.Error("all three are needed")
	}
	for a := range 60 {
		left, _ := impl.ApplySubstitution(binding(1, atom(a)), x)
		right, _ := impl.ApplySubstitution(binding(1, atom(a)), y)
		met := a != 0 && a != 40 && a != 41
		if impl.AlphaEqual(left, right) != met {
			t.Errorf("a%d in the place of the hole: not %v", a, met)
		}
	}
	// Two binders more: freshness is asked behind such a Perm.
	x, y = bind(50, bind(51, x)), bind(52, bind(53, y))
	want = freshes(0, 1, 40, 1, 41, 1, 50, 1, 51, 1, 52, 1, 53, 1)
	if got, ok := impl.EqualNeeds(x, y); !ok || !slices.Equal(got, want) {
		t.Error(got, ok)
	}
}

func TestEqualInvalid(t *testing.T) {
	all := freshFrom(0, 40, 0)
	for why, x := range notTerms() {
		for _, y := range []impl.Term{x, atom(0), hole(0)} {
			if got, ok := impl.EqualNeeds(x, y); ok || len(got) != 0 || impl.EqualIn(all, x, y) || impl.EqualIn(nil, x, y) {
				t.Errorf("%s: %v", why, got)
			}
			if got, ok := impl.EqualNeeds(y, x); ok || len(got) != 0 || impl.EqualIn(all, y, x) || impl.EqualIn(nil, y, x) {
				t.Errorf("%s: %v", why, got)
			}
		}
	}
}

func TestFreshIn(t *testing.T) {
	for _, c := range []struct {
		l    string
		a    int
		x    string
		want bool
	}{
		{"-", 0, "a1", true},
		{"-", 0, "a0", false},
		{"a0#X0", 0, "a0", false}, // no context helps
		{"-", 0, "X0", false},
		{"a0#X0", 0, "X0", true},
		{"a0#X1", 0, "X0", false},
		{"a1#X0", 0, "X0", false},
		{"a0#X0,a1#X0,a5#X3", 0, "X0", true}, // with more than is needed
		{"a2#X1", 0, "(0 1 2)X1", true},
		{"a1#X1", 0, "(0 1 2)X1", false},
		{"a0#X1", 0, "(0 1 2)X1", false},
		{"-", 0, "[a0]X0", true},
		{"a0#X1", 0, "f2(X1,X2)", false},
		{"a0#X1,a0#X2", 0, "f2(X1,X2)", true},
	} {
		if got := impl.FreshIn(context(t, c.l), c.a, term(t, c.x)); got != c.want {
			t.Errorf("%s: %d for %s: %v", c.l, c.a, c.x, got)
		}
	}
}

func TestEqualIn(t *testing.T) {
	for _, c := range []struct {
		l, x, y string
		want    bool
	}{
		{"-", "a0", "a0", true},
		{"-", "a0", "a1", false},
		{"a0#X0,a1#X0", "a0", "a1", false}, // no context helps
		{"a0#X0,a0#X1", "X0", "X1", false},
		{"a0#X0", "X0", "a0", false},
		{"-", "X0", "X0", true},
		{"-", "(0 1)X0", "X0", false},
		{"a0#X0", "(0 1)X0", "X0", false},
		{"a1#X0", "(0 1)X0", "X0", false},
		{"a0#X0,a1#X0", "(0 1)X0", "X0", true},
		{"a0#X1,a1#X1", "(0 1)X0", "X0", false},
		{"a0#X0,a1#X0,a2#X0,a0#X1", "(0 1)X0", "X0", true}, // with more than is needed
		{"a1#X0", "[a0]X0", "[a1](0 1)X0", true},
		{"a0#X0", "[a0]X0", "[a1](0 1)X0", false},
		{"-", "[a0]a0", "[a1]a1", true},
	} {
		if got := impl.EqualIn(context(t, c.l), term(t, c.x), term(t, c.y)); got != c.want {
			t.Errorf("%s: %s and %s: %v", c.l, c.x, c.y, got)
		}
	}
}

func TestFormatContext(t *testing.T) {
	for _, c := range []struct {
		l    []impl.Fresh
		want string
	}{
		{nil, "-"},
		{freshes(), "-"},
		{freshes(0, 0), "a0#X0"},
		{freshes(999, 9), "a999#X9"},
		{freshes(0, 1, 2, 1), "a0#X1,a2#X1"},
		{freshes(7, 0, 2, 1, 10, 1, 0, 9), "a7#X0,a2#X1,a10#X1,a0#X9"},
	} {
		if got := impl.FormatContext(c.l); got != c.want {
			t.Errorf("%v: %q", c.l, got)
		}
	}
	for why, l := range notContexts() {
		if got := impl.FormatContext(l); got != "" {
			t.Errorf("%s: %q", why, got)
		}
	}
}

func TestParseContext(t *testing.T) {
	for text, want := range map[string][]impl.Fresh{
		"-":                        nil,
		"a0#X0":                    freshes(0, 0),
		"a999#X9":                  freshes(999, 9),
		"a0#X1,a2#X1":              freshes(0, 1, 2, 1),
		"a7#X0,a2#X1,a10#X1,a0#X9": freshes(7, 0, 2, 1, 10, 1, 0, 9),
	} {
		if got, ok := impl.ParseContext(text); !ok || !slices.Equal(got, want) {
			t.Errorf("%q: %v, %v", text, got, ok)
		}
	}
	for _, l := range [][]impl.Fresh{freshFrom(0, 40, 0), freshFrom(960, 40, 9)} {
		if got, ok := impl.ParseContext(impl.FormatContext(l)); !ok || !slices.Equal(got, l) {
			t.Errorf("%v: %v, %v", l, got, ok)
		}
	}
}

func TestParseNoContext(t *testing.T) {
	many := strings.Repeat("a0#X0,", 1000000)
	for _, text := range []string{
		"", " ", "--", "-,-", "-,a0#X0", "a0#X0,-", " -", "- ", "()", "0",
		"a0", "X0", "a#X0", "a0#X", "a0#", "#X0", "0#X0", "a0X0", "a0#0", "A0#X0", "a0#x0", "X0#a0", "a0##X0", "aa0#X0", "a0#XX0", "a0#X0#X0", "b0#X0",
		"a1000#X0", "a00#X0", "a01#X0", "a-1#X0", "a+1#X0", "a 1#X0", "a1_0#X0", "a\u0661#X0", "a18446744073709551617#X0",
		"a0#X10", "a0#X00", "a0#X01", "a0#X-1", "a0#X+1", "a0#X 1", "a0#X\u0661",
		" a0#X0", "a0#X0 ", "a0#X0\n", "a0 #X0", "a0# X0", "a0#X0, a1#X0", "a0#X0 ,a1#X0",
		",", "a0#X0,", ",a0#X0", "a0#X0,,a1#X0", "a0#X0a1#X0", "a0#X0;a1#X0", "a0,a1#X0", "a0#X0,X1", "a0#X0,X0",
		"a0#X0,a0#X0", "a1#X0,a0#X0", "a0#X1,a0#X0", "a1#X0,a0#X0,a2#X0", "a0#X0,a1#X1,a0#X1", "a10#X0,a9#X0", // not in order
		many, many + "a1#X0", "a" + strings.Repeat("1", 1000000) + "#X0", "a0#X" + strings.Repeat("1", 1000000), strings.Repeat("a", 1000000), strings.Repeat(",", 1000000),
	} {
		if got, ok := impl.ParseContext(text); ok || len(got) != 0 {
			t.Errorf("%.40q: %v, %v", text, got, ok)
		}
	}
	for why, l := range notContexts() {
		words := []string{}
		for _, x := range l {
			words = append(words, "a"+strconv.Itoa(x.Atom)+"#X"+strconv.Itoa(x.Hole))
		}
		if got, ok := impl.ParseContext(strings.Join(words, ",")); ok || len(got) != 0 {
			t.Errorf("%s: %v, %v", why, got, ok)
		}
	}
}
