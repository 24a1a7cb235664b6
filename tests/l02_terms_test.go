package tests

import (
	"math"
	"slices"
	"strings"
	"testing"

	"loop.example/g03112/impl"
)

// wide is a term of 3 * count + 1 nodes with the kid at 2 * count + 1 places.
func wide(count int, kid impl.Term) impl.Term {
	x := kid
	for range count {
		x = node(3, x, kid, kid)
	}
	return x
}

func TestIsTerm(t *testing.T) {
	for _, x := range []impl.Term{
		atom(0), atom(999), node(0), node(4), node(8), node(1, atom(0)), node(5, atom(0)), node(9, atom(0)),
		node(2, atom(0), atom(0)), node(6, node(0), hole(0)), node(10, atom(0), atom(1)),
		node(3, atom(0), atom(0), atom(0)), node(7, atom(0), atom(0), atom(0)), node(11, atom(0), atom(0), atom(0)),
		bind(0, atom(1)), bind(999, bind(999, hole(9))),
		hole(0), hole(9), hole(1, pairs(0, 1, 1, 0)...), hole(1, rotation(0, 40)...),
		{Op: impl.TmAtom, Perm: []impl.Pair{}, Kids: []impl.Term{}},
		under(59, atom(0)), under(59, hole(0)), wide(19, atom(0)),
	} {
		if !impl.IsTerm(x) {
			t.Errorf("%v is a term", x)
		}
	}
	for why, x := range notTerms() {
		if impl.IsTerm(x) {
			t.Errorf("%s: a term", why)
		}
	}
}

// A wide term has too many nodes no less than a deep one.
func TestWideTerms(t *testing.T) {
	for _, c := range []struct {
		x    impl.Term
		want int
	}{
		{wide(19, atom(0)), 58},
		{under(2, wide(19, atom(0))), 60},
		{under(3, wide(19, atom(0))), -1},
		{node(2, wide(19, atom(0)), atom(0)), 60},
		{node(3, wide(19, atom(0)), atom(0), atom(0)), -1},
		{wide(20, atom(0)), -1},
		{wide(9, bind(0, atom(0))), 47},
		{bind(0, under(1, wide(19, hole(1)))), 60},
		{bind(0, under(2, wide(19, hole(1)))), -1},
		{node(2, under(29, atom(0)), under(28, atom(0))), 60},
		{node(2, under(29, atom(0)), under(29, atom(0))), -1},
	} {
		if got := impl.SizeOfTerm(c.x); got != c.want {
			t.Errorf("%d nodes instead of %d", got, c.want)
		}
		if got := impl.IsTerm(c.x); got != (c.want > 0) {
			t.Errorf("%d nodes: %v", c.want, got)
		}
	}
}

func TestIsGround(t *testing.T) {
	for text, want := range map[string]bool{
		"a0": true, "f0": true, "[a0]a0": true, "f3(a0,[a1]f8,f2(a0,a1))": true,
		"X0": false, "(0 1)X9": false, "[a0]X1": false, "f3(a0,a1,[a2]f1(X3))": false,
	} {
		if got := impl.IsGround(term(t, text)); got != want {
			t.Errorf("%s: %v", text, got)
		}
	}
	if !impl.IsGround(under(59, atom(0))) {
		t.Error("60 nodes are ground")
	}
	for why, x := range notTerms() {
		if impl.IsGround(x) {
			t.Errorf("%s: ground", why)
		}
	}
}

func TestSizeOfTerm(t *testing.T) {
	for text, want := range map[string]int{
		"a0": 1, "f0": 1, "X3": 1, "(0 1 2)X3": 1, "[a0]a0": 2, "f1(f1(f1(X1)))": 4, "f2(a1,[a0]f1((0 1)X2))": 5, "f3(a0,[a1]f8,f2(a0,a1))": 7,
	} {
		if got := impl.SizeOfTerm(term(t, text)); got != want {
			t.Errorf("%s: %d nodes", text, got)
		}
	}
	for _, count := range []int{57, 58, 59} {
		if got := impl.SizeOfTerm(under(count, atom(0))); got != count+1 {
			t.Error(count+1, got)
		}
	}
	for why, x := range notTerms() {
		if got := impl.SizeOfTerm(x); got != -1 {
			t.Errorf("%s: %d", why, got)
		}
	}
}

// SameTerms accepts any values, also those that are no terms.
func TestSameTerms(t *testing.T) {
	deep := func(x impl.Term) impl.Term { return node(7, x, bind(3, x), atom(0), x) }
	values := []impl.Term{
		{}, {Op: 1}, {Op: 2}, {Op: 3}, {Op: 4}, {Op: -1}, {Op: math.MinInt},
		{Op: 1, N: 1}, {Op: 1, N: -1}, {Op: 1, N: math.MaxInt},
		{Op: 1, Perm: pairs(0, 1)}, {Op: 1, Perm: pairs(1, 0)}, {Op: 1, Perm: pairs(0, 1, 1, 0)}, {Op: 1, Perm: pairs(1, 0, 0, 1)},
		hole(2, pairs(0, 1, 1, 0)...), hole(2, pairs(0, 2, 2, 0)...), hole(2, rotation(0, 41)...), hole(2, rotation(0, 42)...),
		node(1, atom(0)), node(1, atom(1)), node(1, bind(0, atom(0))), node(1, bind(1, atom(1))),
		node(2, atom(0)), node(2, atom(0), atom(1)), node(2, atom(1), atom(0)), node(2, atom(0), atom(1), atom(1)),
		node(1, impl.Term{}), node(1, impl.Term{}, impl.Term{}), under(100, atom(0)), under(101, atom(0)), under(100, atom(1)),
	}
	for _, x := range values[:24] {
		values = append(values, deep(x))
	}
	for i, x := range values {
		for j := range values {
			if got := impl.SameTerms(x, copied(values[j])); got != (i == j) {
				t.Errorf("%v and %v: %v", x, values[j], got)
			}
		}
	}
	empty := impl.Term{Op: 1, Perm: []impl.Pair{}, Kids: []impl.Term{}}
	if !impl.SameTerms(empty, atom(0)) || !impl.SameTerms(atom(0), empty) || !impl.SameTerms(node(1, empty), node(1, atom(0))) {
		t.Error("an empty slice is as good as none")
	}
}

// copied is the same value in other memory.
func copied(x impl.Term) impl.Term {
	y := impl.Term{Op: x.Op, N: x.N, Perm: slices.Clone(x.Perm)}
	for _, kid := range x.Kids {
		y.Kids = append(y.Kids, copied(kid))
	}
	return y
}

// Values that are no terms may be very deep, or use the same memory again and
// again, or be without end.
func TestSameTermsAlwaysEnds(t *testing.T) {
	check := func(why string, x, y impl.Term, want bool) {
		if impl.SameTerms(x, y) != want || impl.SameTerms(y, x) != want {
			t.Errorf("%s: not %v", why, want)
		}
	}
	check("deep", under(300000, atom(0)), under(300000, atom(0)), true)
	check("deep and other", under(300000, atom(0)), under(300000, atom(1)), false)
	check("deep and deeper", under(300000, atom(0)), under(300001, atom(0)), false)
	check("shared", doubled(64, atom(0)), doubled(64, atom(0)), true)
	check("shared and other", doubled(64, atom(0)), doubled(64, atom(1)), false)
	check("in itself", inItself(3, 0, 1), inItself(3, 0, 1), true)
	check("in itself and other", inItself(3, 0, 1), inItself(3, 1, 1), false)
	check("in itself, more often", inItself(2, 0, 3), inItself(2, 0, 2), false)
	check("in itself and not", inItself(2, 1, 1), under(1000, atom(0)), false)
	check("in itself, thrice", inItself(2, 3, 3), inItself(2, 3, 3), true)
	two := make([]impl.Term, 1)
	two[0] = node(1, impl.Term{Op: 2, N: 1, Kids: two})
	check("one and two rounds", inItself(2, 1, 1), two[0], true)
	end := make([]impl.Term, 1)
	end[0] = node(1, impl.Term{Op: 2, N: 5, Kids: end})
	check("another one in the round", inItself(2, 1, 1), end[0], false)
	// The same first kid is in lists of two lengths.
	whole := []impl.Term{atom(0), atom(1)}
	other := []impl.Term{atom(0), atom(2)}
	check("parts of lists", node(2, node(1, whole[:1]...), node(2, whole...)), node(2, node(1, other[:1]...), node(2, other...)), false)
	check("parts of lists, the longer first", node(2, node(2, whole...), node(1, whole[:1]...)), node(2, node(2, other...), node(1, other[:1]...)), false)
}

// doubled has 2 to the power of count places for x, but little memory.
func doubled(count int, x impl.Term) impl.Term {
	for range count {
		x = node(2, x, x)
	}
	return x
}

func TestActOn(t *testing.T) {
	for _, c := range []struct{ p, x, want string }{
		{"()", "f2(a1,[a0]f1((0 1)X2))", "f2(a1,[a0]f1((0 1)X2))"},
		{"(0 1)", "a0", "a1"},
		{"(0 1)", "a2", "a2"},
		{"(0 1)", "f0", "f0"},
		{"(0 1)", "f1(a1)", "f1(a0)"}, // symbols are no atoms
		{"(0 1 2)", "f3(a0,a1,a2)", "f3(a1,a2,a0)"},
		{"(0 1)", "[a0]a0", "[a1]a1"}, // the atom of the binder is swapped
		{"(0 1)", "[a1]a0", "[a0]a1"},
		{"(0 1)", "[a0][a1]f2(a0,a1)", "[a1][a0]f2(a1,a0)"},
		{"(0 1)", "[a2]f2(a0,a1)", "[a2]f2(a1,a0)"},
		{"(0 1)", "X1", "(0 1)X1"}, // holes are numbers, no atoms
		{"(0 1)", "(0 1)X1", "X1"},
		{"(0 1)", "(1 2)X3", "(0 1 2)X3"}, // first (1 2), then (0 1)
		{"(1 2)", "(0 1)X3", "(0 2 1)X3"},
		{"(0 1)", "[a0]X1", "[a1](0 1)X1"}, // a hole below the binder of a swapped atom
		{"(0 1)", "[a0](0 1)X1", "[a1]X1"},
		{"(0 1)", "[a0]f2(a1,(0 2)X1)", "[a1]f2(a0,(0 2 1)X1)"},
		{"(0 2)(1 999)", "[a999][a2]f3(a999,[a1]X2,(0 1)X3)", "[a1][a0]f3(a1,[a999](0 2)(1 999)X2,(0 999 1 2)X3)"},
	} {
		x, ok := impl.ActOn(read(t, c.p), term(t, c.x))
		if got := impl.FormatTerm(x); !ok || got != c.want {
			t.Errorf("%s on %s: %s instead of %s", c.p, c.x, got, c.want)
		}
	}
}

func TestActOnAtTheLimit(t *testing.T) {
	x := bind(0, node(2, atom(7), hole(1, rotation(0, 38)...)))
	if got, ok := impl.ActOn(impl.SwapOf(38, 39), x); !ok || len(got.Kids[0].Kids[1].Perm) != 40 {
		t.Error("40 atoms may be moved")
	}
	if got, ok := impl.ActOn(rotation(38, 3), x); ok || !isZero(got) {
		t.Error("41 atoms may not be moved:", got)
	}
	if got, ok := impl.ActOn(rotation(38, 3), node(2, hole(3), x)); ok || !isZero(got) {
		t.Error("41 atoms may not be moved by the second hole:", got)
	}
	back, _ := impl.InversePermutation(rotation(0, 40))
	if got, ok := impl.ActOn(back, hole(1, rotation(0, 40)...)); !ok || len(got.Perm) != 0 {
		t.Error("nothing is moved:", got)
	}
	if got, ok := impl.ActOn(rotation(0, 40), under(59, atom(39))); !ok || !same(got, under(59, atom(0))) {
		t.Error("60 nodes:", got)
	}
}

func TestActOnInvalid(t *testing.T) {
	for why, p := range notPermutations() {
		if got, ok := impl.ActOn(p, atom(500)); ok || !isZero(got) {
			t.Errorf("%s: %v, %v", why, got, ok)
		}
	}
	for why, x := range notTerms() {
		for _, p := range [][]impl.Pair{nil, pairs(0, 1, 1, 0), pairs(0, 1)} {
			if got, ok := impl.ActOn(p, x); ok || !isZero(got) {
				t.Errorf("%s: done", why)
			}
		}
	}
}

func TestFreeAtoms(t *testing.T) {
	for text, want := range map[string][]int{
		"a7":                            {7},
		"f0":                            nil,
		"[a0]a0":                        nil,
		"[a0]a1":                        {1},
		"[a0]f2(a0,a1)":                 {1},
		"f2(a0,[a0]a0)":                 {0}, // free at one place, bound at another one
		"f2([a0]a0,a0)":                 {0},
		"[a0][a1]f3(a2,a0,a1)":          {2},
		"[a0][a0]f2(a0,a3)":             {3},
		"[a0]f2([a1]a1,a1)":             {1},
		"f3(a10,a9,a10)":                {9, 10},
		"f3(a999,[a3]f2(a3,a4),a0)":     {0, 4, 999},
		"X1":                            nil,
		"(0 1)X1":                       nil, // holes aside
		"f2((0 1)X1,a1)":                {1},
		"[a0]f3(a0,(0 2)X3,[a2]a5)":     {5},
		"[a2]f2([a1]f2(a1,a2),(1 2)X0)": nil,
	} {
		if got := impl.FreeAtoms(term(t, text)); !slices.Equal(got, want) {
			t.Errorf("free in %s: %v", text, got)
		}
	}
	for why, x := range notTerms() {
		if got := impl.FreeAtoms(x); len(got) != 0 {
			t.Errorf("%s: %v", why, got)
		}
	}
}

func TestAtomsOf(t *testing.T) {
	for text, want := range map[string][]int{
		"a7":                        {7},
		"f5(f4)":                    nil,
		"[a0]a0":                    {0},
		"[a3]a1":                    {1, 3}, // the atom of a binder, also if it occurs nowhere
		"f3(a10,[a9]f0,a10)":        {9, 10},
		"X5":                        nil,
		"(0 4 2)X5":                 {0, 2, 4},
		"[a0]f3(a0,(0 2)X3,[a8]a5)": {0, 2, 5, 8},
		"f2((1 999)X3,(0 1)X3)":     {0, 1, 999},
	} {
		if got := impl.AtomsOf(term(t, text)); !slices.Equal(got, want) {
			t.Errorf("atoms of %s: %v", text, got)
		}
	}
	many := hole(0, rotation(0, 40)...)
	if got := impl.AtomsOf(node(3, many, hole(0, rotation(30, 40)...), many)); len(got) != 70 || got[0] != 0 || got[69] != 69 {
		t.Error("70 atoms:", got)
	}
	for why, x := range notTerms() {
		if got := impl.AtomsOf(x); len(got) != 0 {
			t.Errorf("%s: %v", why, got)
		}
	}
}

func TestHolesOf(t *testing.T) {
	for text, want := range map[string][]int{
		"a7":                              nil,
		"X7":                              {7},
		"(0 1)X0":                         {0},
		"f3(X9,[a1]f2((0 1)X4,a2),X9)":    {4, 9},
		"[a5]f3((2 3)X3,X0,f2(X3,X1))":    {0, 1, 3},
		"f2([a1]f8,f3(a0,[a2][a3]a3,a4))": nil,
	} {
		if got := impl.HolesOf(term(t, text)); !slices.Equal(got, want) {
			t.Errorf("holes of %s: %v", text, got)
		}
	}
	for why, x := range notTerms() {
		if got := impl.HolesOf(x); len(got) != 0 {
			t.Errorf("%s: %v", why, got)
		}
	}
}

func TestFormatTerm(t *testing.T) {
	for want, x := range map[string]impl.Term{
		"a0":                                  atom(0),
		"a999":                                atom(999),
		"f0":                                  node(0),
		"f8":                                  node(8),
		"f1(a0)":                              node(1, atom(0)),
		"f11(a0,f4,X9)":                       node(11, atom(0), node(4), hole(9)),
		"f10(f9(a10),a1)":                     node(10, node(9, atom(10)), atom(1)),
		"[a0]a1":                              bind(0, atom(1)),
		"[a12][a3]X0":                         bind(12, bind(3, hole(0))),
		"X1":                                  hole(1),
		"(0 1)X1":                             hole(1, pairs(0, 1, 1, 0)...),
		"(0 1)(2 4 3)X5":                      hole(5, pairs(0, 1, 1, 0, 2, 4, 3, 2, 4, 3)...),
		"f2(a1,[a0]f1((0 1)X2))":              node(2, atom(1), bind(0, node(1, hole(2, pairs(0, 1, 1, 0)...)))),
		strings.Repeat("[a999]", 59) + "a999": binders(59, atom(999)),
	} {
		if got := impl.FormatTerm(x); got != want {
			t.Errorf("%q instead of %q", got, want)
		}
	}
	for why, x := range notTerms() {
		if got := impl.FormatTerm(x); got != "" {
			t.Errorf("%s: %q", why, got)
		}
	}
}

// binders is x with count binders of the last atom around it.
func binders(count int, x impl.Term) impl.Term {
	for range count {
		x = bind(impl.MaxAtom, x)
	}
	return x
}

func TestParseTerm(t *testing.T) {
	long := impl.FormatPermutation(rotation(0, 40))
	for text, want := range map[string]impl.Term{
		"a0":                     atom(0),
		"a999":                   atom(999),
		"f4":                     node(4),
		"f11(a0,f4,X9)":          node(11, atom(0), node(4), hole(9)),
		"[a12][a3]X0":            bind(12, bind(3, hole(0))),
		"f2(a1,[a0]f1((0 1)X2))": node(2, atom(1), bind(0, node(1, hole(2, pairs(0, 1, 1, 0)...)))),
		"f2((0 1)X1,(2 3)X1)":    node(2, hole(1, pairs(0, 1, 1, 0)...), hole(1, pairs(2, 3, 3, 2)...)),
		long + "X3":              hole(3, rotation(0, 40)...),
		strings.Repeat("f1(", 59) + "a5" + strings.Repeat(")", 59): under(59, atom(5)),
		strings.Repeat("[a999]", 59) + "X0":                        binders(59, hole(0)),
	} {
		if got, ok := impl.ParseTerm(text); !ok || !same(got, want) {
			t.Errorf("%q: %v, %v", text, got, ok)
		}
	}
}

func TestParseNoTerm(t *testing.T) {
	for _, text := range []string{
		"", " ", "a", "f", "X", "[", "]", "(", ")", ",", "0", "x1", "A0", "F0", "b0", "[]", "()",
		"a1000", "a00", "a01", "a-1", "a+1", "a 1", " a1", "a1 ", "a1\n", "a1a1", "a1,a1", "(a1)", "a1)", "a\u0661", "a1_0", "a0x1", "a1.", "a18446744073709551617",
		"f12", "f13(a0)", "f-4", "f+0", "f00", "f04", "f", "f 0", "f0()", "f0( )", "f0(a0)", "f4(a0,a0,a0,a0)", "f16",
		"f1", "f1()", "f1(", "f1(a0", "f1(a0,", "f1(a0,)", "f1(,a0)", "f1(a0,a0)", "f1 (a0)", "f1( a0)", "f1(a0 )", "f1[a0]", "f1a0", "f1((a0))",
		"f2(a0)", "f2(a0,)", "f2(,a0)", "f2(a0 a0)", "f2(a0, a0)", "f2(a0;a0)", "f2(a0,a0,a0)", "f2(a0(a0)", "f2(a0,a0", "f2(a0,a0]", "f3(a0,a0)", "f3((a0,a0,a0)", "f2,a0,a0)", "f2(a0,a0))",
		"[a0]", "[a0", "[a0a0", "[0]a0", "[]a0", "[a]a0", "[a1000]a0", "[a00]a0", "[X0]a0", "[a0 ]a0", "[ a0]a0", "[a0] a0", "[a0](a0)", "[a0]a0]", "[a0,a1]a0", "[[a0]a0]a0", "(a0]a0",
		"X10", "X00", "X01", "X-1", "X+1", "X 1", "X1X1", "X\u0661",
		"()X1",                    // what moves nothing is not written
		"(0)X1",                   // nor is it read in any other way
		"(1 0)X1", "(2 3)(0 1)X1", // texts of no permutation
		"(0 1)", "(0 1)a0", "(0 1)f0", "(0 1)[a0]a0", "(0 1)(0 1)X1", "(0 1) X1", " (0 1)X1", "(0 1X1", "0 1)X1", "(0 1))X1", "((0 1)X1", "((0 1))X1", "((0 1)X1)", "(0 1000)X1", "(0 1)X", "(0 1)X10", "(0 1)X(2 3)X1", "X(0 1)", "X1(0 1)", "f1((0 1)X1", "f2((0 1),X1)", "f2((0 1)a0,X1)", "f2(a0,(0 1))X1",
	} {
		if got, ok := impl.ParseTerm(text); ok || !isZero(got) {
			t.Errorf("%q: %v, %v", text, got, ok)
		}
	}
}

func TestParseTermAtTheLimit(t *testing.T) {
	for why, text := range map[string]string{
		"61 nodes":        strings.Repeat("f1(", 60) + "a5" + strings.Repeat(")", 60),
		"61 with binders": strings.Repeat("[a0]", 60) + "a0",
		"many binders":    strings.Repeat("[a0]", 1000000) + "a0",
		"many nodes":      strings.Repeat("f1(", 1000000),
		"many kids":       strings.Repeat("f3(a0,a0,", 1000000),
		"many digits":     "a" + strings.Repeat("1", 1000000),
		"many swaps":      strings.Repeat("(0 1)", 1000000) + "X1",
		"many brackets":   strings.Repeat("(", 1000000) + "X1",
		"41 atoms moved":  impl.FormatPermutation(rotation(0, 40)) + "(40 41)X1",
		"61 wide":         "f3(" + strings.Repeat("f3(a0,a0,", 19) + "a0" + strings.Repeat(")", 19) + ",a0,a0)",
	} {
		if got, ok := impl.ParseTerm(text); ok || !isZero(got) {
			t.Errorf("%s: %v", why, ok)
		}
	}
	for why, text := range map[string]string{
		"60 nodes":      strings.Repeat("f1(", 59) + "a5" + strings.Repeat(")", 59),
		"60 with swaps": strings.Repeat("[a0]", 59) + "(0 1)(2 3)X9",
		"58 wide":       strings.Repeat("f3(a0,a0,", 19) + "a0" + strings.Repeat(")", 19),
	} {
		if got, ok := impl.ParseTerm(text); !ok || impl.FormatTerm(got) != text {
			t.Errorf("%s: %v", why, ok)
		}
	}
}
