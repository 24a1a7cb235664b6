package tests

import (
	"math"
	"slices"
	"strings"
	"testing"

	"loop.example/g03112/impl"
)

// notAtoms are numbers that are no atoms.
var notAtoms = []int{-1, 1000, math.MinInt, math.MaxInt}

func TestIsPermutation(t *testing.T) {
	good := [][]impl.Pair{nil, {}, pairs(0, 1, 1, 0), pairs(0, 999, 999, 0), pairs(0, 1, 1, 0, 2, 4, 3, 2, 4, 3), rotation(0, 40), rotation(960, 40)}
	for _, p := range good {
		if !impl.IsPermutation(p) {
			t.Errorf("%v is a permutation", p)
		}
	}
	for why, p := range notPermutations() {
		if impl.IsPermutation(p) {
			t.Errorf("%s: %v is no permutation", why, p)
		}
	}
}

// All short lists of pairs of few numbers are told as the document says it.
func TestShortLists(t *testing.T) {
	checkLists(t, nil, 3)
}

func checkLists(t *testing.T, l []impl.Pair, more int) {
	if got := impl.IsPermutation(l); got != saysPermutation(l) {
		t.Fatalf("%v: %v", l, got)
	}
	if more > 0 {
		for n := range 16 {
			checkLists(t, append(slices.Clone(l), impl.Pair{From: n/4 - 1, To: n%4 - 1}), more-1)
		}
	}
}

// saysPermutation counts how often each atom is a From and a To.
func saysPermutation(l []impl.Pair) bool {
	from, to := map[int]int{}, map[int]int{}
	for i, pair := range l {
		from[pair.From]++
		to[pair.To]++
		if pair.From < 0 || pair.To < 0 || pair.From == pair.To || i > 0 && l[i-1].From >= pair.From {
			return false
		}
	}
	for _, pair := range l {
		if from[pair.To] != 1 || to[pair.From] != 1 {
			return false
		}
	}
	return true
}

func TestImageOf(t *testing.T) {
	p := pairs(0, 1, 1, 0, 2, 4, 3, 2, 4, 3)
	for a, want := range []int{1, 0, 4, 2, 3, 5} {
		if got := impl.ImageOf(p, a); got != want {
			t.Errorf("%d is given %d, not %d", a, got, want)
		}
	}
	if got := impl.ImageOf(p, 999); got != 999 {
		t.Error("the last atom is not moved:", got)
	}
	if got := impl.ImageOf(nil, 0); got != 0 {
		t.Error("nothing is moved:", got)
	}
	for _, a := range notAtoms {
		if got := impl.ImageOf(p, a); got != -1 {
			t.Errorf("%d is no atom: %d", a, got)
		}
	}
	for why, bad := range notPermutations() {
		if got := impl.ImageOf(bad, 500); got != -1 {
			t.Errorf("%s: %d", why, got)
		}
	}
}

func TestSwapOf(t *testing.T) {
	for _, c := range []struct {
		a, b int
		want []impl.Pair
	}{
		{0, 1, pairs(0, 1, 1, 0)},
		{7, 3, pairs(3, 7, 7, 3)},
		{999, 0, pairs(0, 999, 999, 0)},
		{4, 4, nil},
		{0, 0, nil},
		{-1, -1, nil},
	} {
		if got := impl.SwapOf(c.a, c.b); !slices.Equal(got, c.want) {
			t.Errorf("swap of %d and %d: %v", c.a, c.b, got)
		}
	}
	for _, a := range notAtoms {
		if len(impl.SwapOf(a, 5)) != 0 || len(impl.SwapOf(5, a)) != 0 {
			t.Errorf("%d is no atom, and swapped", a)
		}
	}
}

func TestComposePermutations(t *testing.T) {
	for _, c := range []struct{ p, q, want string }{
		{"(0 1)", "(1 2)", "(0 1 2)"},
		{"(1 2)", "(0 1)", "(0 2 1)"},
		{"()", "(3 5)", "(3 5)"},
		{"(3 5)", "()", "(3 5)"},
		{"()", "()", "()"},
		{"(0 1)", "(2 3)", "(0 1)(2 3)"},
		{"(2 3)", "(0 1)", "(0 1)(2 3)"},
		{"(0 1)", "(0 1)", "()"},         // all atoms are given back
		{"(0 1 2)", "(0 1)", "(0 2)"},    // one of them is given back
		{"(0 1 2)", "(0 2 1)", "()"},     // the inverse
		{"(0 1)(5 6)", "(5 6)", "(0 1)"}, // two of them are given back
		{"(0 999)", "(1 999)", "(0 999 1)"},
	} {
		got, ok := impl.ComposePermutations(read(t, c.p), read(t, c.q))
		if !ok || !slices.Equal(got, read(t, c.want)) {
			t.Errorf("first %s, then %s: %v, %v", c.q, c.p, got, ok)
		}
	}
}

func TestComposeAtTheLimit(t *testing.T) {
	if got, ok := impl.ComposePermutations(rotation(0, 20), rotation(20, 20)); !ok || len(got) != 40 {
		t.Error("40 atoms may be moved:", got, ok)
	}
	if got, ok := impl.ComposePermutations(rotation(0, 20), rotation(20, 21)); ok || len(got) != 0 {
		t.Error("41 atoms may not be moved:", got, ok)
	}
	// 41 atoms are moved by one of both, and one of them is given back.
	if got, ok := impl.ComposePermutations(impl.SwapOf(0, 1), rotation(0, 40)); !ok || len(got) != 39 {
		t.Error("39 atoms are moved:", got, ok)
	}
	if got, ok := impl.ComposePermutations(pairs(39, 40, 40, 39), rotation(0, 40)); ok || len(got) != 0 {
		t.Error("41 atoms would be moved:", got, ok)
	}
	inverse, _ := impl.InversePermutation(rotation(0, 40))
	if got, ok := impl.ComposePermutations(inverse, rotation(0, 40)); !ok || len(got) != 0 {
		t.Error("all atoms are given back:", got, ok)
	}
}

func TestComposeInvalid(t *testing.T) {
	for why, bad := range notPermutations() {
		for _, good := range [][]impl.Pair{nil, pairs(0, 1, 1, 0), bad} {
			if got, ok := impl.ComposePermutations(bad, good); ok || len(got) != 0 {
				t.Errorf("%s: %v, %v", why, got, ok)
			}
			if got, ok := impl.ComposePermutations(good, bad); ok || len(got) != 0 {
				t.Errorf("%s, first: %v, %v", why, got, ok)
			}
		}
	}
}

func TestInversePermutation(t *testing.T) {
	for _, c := range []struct{ text, want string }{
		{"()", "()"},
		{"(0 1)", "(0 1)"},
		{"(0 1 2)", "(0 2 1)"},
		{"(0 5 3 9)(1 2 4)", "(0 9 3 5)(1 4 2)"},
	} {
		if got, ok := impl.InversePermutation(read(t, c.text)); !ok || !slices.Equal(got, read(t, c.want)) {
			t.Errorf("inverse of %s: %v, %v", c.text, got, ok)
		}
	}
	for why, bad := range notPermutations() {
		if got, ok := impl.InversePermutation(bad); ok || len(got) != 0 {
			t.Errorf("%s: %v, %v", why, got, ok)
		}
	}
}

func TestMovedBy(t *testing.T) {
	if got := impl.MovedBy(read(t, "(0 9)(2 4 3)")); !slices.Equal(got, []int{0, 2, 3, 4, 9}) {
		t.Error(got)
	}
	if got := impl.MovedBy(nil); len(got) != 0 {
		t.Error(got)
	}
	for why, bad := range notPermutations() {
		if got := impl.MovedBy(bad); len(got) != 0 {
			t.Errorf("%s: %v", why, got)
		}
	}
}

func TestDifferenceOf(t *testing.T) {
	for _, c := range []struct {
		p, q string
		want []int
	}{
		{"()", "()", nil},
		{"(0 1)", "(0 1)", nil},
		{"(4 7)", "()", []int{4, 7}},
		{"()", "(4 7)", []int{4, 7}},
		{"(0 1 2)", "(0 1)", []int{1, 2}},
		{"(0 1 2)", "(0 2 1)", []int{0, 1, 2}},
		{"(0 1)(8 9)", "(0 1)(5 6)", []int{5, 6, 8, 9}},
	} {
		if got := impl.DifferenceOf(read(t, c.p), read(t, c.q)); !slices.Equal(got, c.want) {
			t.Errorf("difference of %s and %s: %v", c.p, c.q, got)
		}
	}
	if got := impl.DifferenceOf(rotation(0, 40), rotation(40, 40)); len(got) != 80 || got[0] != 0 || got[79] != 79 {
		t.Error("more atoms than one permutation moves:", got)
	}
	for why, bad := range notPermutations() {
		for _, good := range [][]impl.Pair{nil, pairs(0, 1, 1, 0)} {
			if got := impl.DifferenceOf(bad, good); len(got) != 0 {
				t.Errorf("%s: %v", why, got)
			}
			if got := impl.DifferenceOf(good, bad); len(got) != 0 {
				t.Errorf("%s, second: %v", why, got)
			}
		}
	}
}

func TestCyclesOf(t *testing.T) {
	p := pairs(0, 7, 2, 4, 3, 2, 4, 3, 5, 6, 6, 5, 7, 8, 8, 0)
	want := [][]int{{0, 7, 8}, {2, 4, 3}, {5, 6}}
	if got := impl.CyclesOf(p); !sameLists(got, want) {
		t.Error(got)
	}
	if got := impl.CyclesOf(nil); len(got) != 0 {
		t.Error(got)
	}
	if got := impl.CyclesOf(rotation(0, 40)); len(got) != 1 || len(got[0]) != 40 || got[0][39] != 39 {
		t.Error(got)
	}
	for why, bad := range notPermutations() {
		if got := impl.CyclesOf(bad); len(got) != 0 {
			t.Errorf("%s: %v", why, got)
		}
	}
}

func TestOrderOf(t *testing.T) {
	for text, want := range map[string]int{
		"()":                      1,
		"(0 1)":                   2,
		"(0 1)(2 4 3)":            6,
		"(0 1)(2 3 4 5)":          4,
		"(0 1 2 3)(4 5 6 7 8 9)":  12,
		"(0 1)(2 3)(4 5)(7 9)":    2,
		"(0 1 2)(3 4)(5 6 7 8 9)": 30,
	} {
		if got := impl.OrderOf(read(t, text)); got != want {
			t.Errorf("order of %s: %d", text, got)
		}
	}
	if got := impl.OrderOf(rotation(0, 40)); got != 40 {
		t.Error(got)
	}
	for why, bad := range notPermutations() {
		if got := impl.OrderOf(bad); got != -1 {
			t.Errorf("%s: %d", why, got)
		}
	}
}

func TestSwapsOf(t *testing.T) {
	if got := impl.SwapsOf(read(t, "(0 1)(2 4 3)")); !slices.Equal(got, pairs(0, 1, 2, 4, 4, 3)) {
		t.Error(got)
	}
	if got := impl.SwapsOf(read(t, "(0 9 1 5)")); !slices.Equal(got, pairs(0, 9, 9, 1, 1, 5)) {
		t.Error(got)
	}
	if got := impl.SwapsOf(nil); len(got) != 0 {
		t.Error(got)
	}
	for why, bad := range notPermutations() {
		if got := impl.SwapsOf(bad); len(got) != 0 {
			t.Errorf("%s: %v", why, got)
		}
	}
}

func TestFormatPermutation(t *testing.T) {
	for want, p := range map[string][]impl.Pair{
		"()":           nil,
		"(0 1)":        pairs(0, 1, 1, 0),
		"(0 1)(2 4 3)": pairs(0, 1, 1, 0, 2, 4, 3, 2, 4, 3),
		"(0 2)(1 999)": pairs(0, 2, 1, 999, 2, 0, 999, 1),
		"(9 10 11)":    pairs(9, 10, 10, 11, 11, 9),
	} {
		if got := impl.FormatPermutation(p); got != want {
			t.Errorf("%q instead of %q", got, want)
		}
	}
	for why, bad := range notPermutations() {
		if got := impl.FormatPermutation(bad); got != "" {
			t.Errorf("%s: %q", why, got)
		}
	}
}

func TestParsePermutation(t *testing.T) {
	for text, want := range map[string][]impl.Pair{
		"()":                                    nil,
		"(0 1)":                                 pairs(0, 1, 1, 0),
		"(0 1)(2 4 3)":                          pairs(0, 1, 1, 0, 2, 4, 3, 2, 4, 3),
		"(0 999)":                               pairs(0, 999, 999, 0),
		"(0 10 9)(2 3)":                         pairs(0, 10, 2, 3, 3, 2, 9, 0, 10, 9),
		impl.FormatPermutation(rotation(7, 40)): rotation(7, 40),
	} {
		if got, ok := impl.ParsePermutation(text); !ok || !slices.Equal(got, want) {
			t.Errorf("%q: %v, %v", text, got, ok)
		}
	}
}

func TestParseNoPermutation(t *testing.T) {
	for _, text := range []string{
		"", " ", "(", ")", "0", "0 1", "(0)", "(5)", "( )", "(0 )", "( 0)", "(0 1", "0 1)", "(0 1))", "((0 1)",
		"(1 0)",        // the least atom does not stand first
		"(2 0 1)",      // the same
		"(1 2 0)",      // the same
		"(0 1)(3 2)",   // the same, in the second cycle
		"(2 3)(0 1)",   // the cycles are not in order
		"(0 1)()",      // the text of none beside a cycle
		"()(0 1)",      // the same
		"()()",         // the same
		"(0 1)(2)",     // an atom that is not moved
		"(0 0)",        // an atom twice
		"(0 1 0)",      // the same
		"(0 1 1)",      // the same
		"(0 1)(0 1)",   // the same, in two cycles
		"(0 1)(1 2)",   // the same
		"(0 1)(0 2)",   // the same
		"(0 1 2)(2 3)", // the same
		"(0  1)", "(0 1 )", "( 0 1)", " (0 1)", "(0 1) ", "(0 1) (2 3)", "(0,1)", "(0\t1)", "(0 1)\n", "(0 1\n)",
		"(00 1)", "(0 01)", "(+0 1)", "(0 +1)", "(-1 0)", "(0 -1)", "(-0 1)", "(0 1_0)", "(0 0x1)", "(0 1.)", "(a b)", "(0 \u0661)",
		"(0 1000)", "(999 1000)", "(0 18446744073709551617)", "(0 9223372036854775808)", "(0 1\x00)", "(0 \xff)",
		"(0 1)(2 4 3)x", "x(0 1)", "[0 1]", "(0 1]",
		strings.Repeat("(", 5000), strings.Repeat("()", 5000), "(0 " + strings.Repeat("1", 5000) + ")", "(" + strings.Repeat("0 ", 5000) + "1)",
	} {
		if got, ok := impl.ParsePermutation(text); ok || len(got) != 0 {
			t.Errorf("%.40q: %v, %v", text, got, ok)
		}
	}
}

func TestParseAtTheLimit(t *testing.T) {
	long := impl.FormatPermutation(rotation(0, 40))
	if got, ok := impl.ParsePermutation(strings.TrimSuffix(long, ")") + " 40)"); ok || len(got) != 0 {
		t.Error("a cycle of 41 atoms:", got)
	}
	if got, ok := impl.ParsePermutation(long + "(40 41)"); ok || len(got) != 0 {
		t.Error("two cycles of 42 atoms:", got)
	}
	short := impl.FormatPermutation(rotation(0, 38))
	if got, ok := impl.ParsePermutation(short + "(38 39)"); !ok || len(got) != 40 {
		t.Error("two cycles of 40 atoms:", got)
	}
}

func TestLeastFresh(t *testing.T) {
	all := make([]int, impl.MaxAtom+1)
	for i := range all {
		all[i] = impl.MaxAtom - i
	}
	for _, c := range []struct {
		l    []int
		want int
	}{
		{nil, 0},
		{[]int{1, 2}, 0},
		{[]int{0, 1, 3}, 2},
		{[]int{2, 0, 0, 1, 2}, 3},
		{[]int{-1, 0, math.MinInt, 1000, math.MaxInt}, 1},
		{all[1:], 999},
		{all[:999], 0},
		{all, -1},
		{append(slices.Clone(all), 1000, -1), -1},
	} {
		if got := impl.LeastFresh(c.l); got != c.want {
			t.Errorf("least fresh of %d numbers: %d instead of %d", len(c.l), got, c.want)
		}
	}
}
