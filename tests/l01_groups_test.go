package tests

import (
	"slices"
	"testing"

	"loop.example/g03112/impl"
)

func TestGroupOf(t *testing.T) {
	for _, c := range []struct{ generators, want []string }{
		{nil, []string{"()"}},
		{[]string{"()"}, []string{"()"}},
		{[]string{"()", "()"}, []string{"()"}},
		{[]string{"(3 5)"}, []string{"()", "(3 5)"}},
		{[]string{"(0 1 2)"}, []string{"()", "(0 1 2)", "(0 2 1)"}},
		{[]string{"(0 1)(2 3)", "(0 1)(2 3)"}, []string{"()", "(0 1)(2 3)"}},
		{[]string{"(0 1)", "(1 2)"}, []string{"()", "(0 1)", "(0 1 2)", "(0 2 1)", "(0 2)", "(1 2)"}},
		// (0 1) is a proper beginning of (0 1)(2 3).
		{[]string{"(2 3)", "(0 1)"}, []string{"()", "(0 1)", "(0 1)(2 3)", "(2 3)"}},
		// 2 is before 10 in order of numbers.
		{[]string{"(2 3)", "(10 11)"}, []string{"()", "(2 3)", "(2 3)(10 11)", "(10 11)"}},
	} {
		got, ok := impl.GroupOf(readAll(t, c.generators...))
		if !ok || !sameLists(got, readAll(t, c.want...)) {
			t.Errorf("group of %v: %v, %v", c.generators, got, ok)
		}
	}
}

// compareFlat compares the lists of From and To, written out.
func compareFlat(p, q []impl.Pair) int {
	return slices.Compare(flat(p), flat(q))
}

func flat(p []impl.Pair) []int {
	l := []int{}
	for _, pair := range p {
		l = append(l, pair.From, pair.To)
	}
	return l
}

func TestGroupInOrder(t *testing.T) {
	got, ok := impl.GroupOf(readAll(t, "(0 1 2)", "(1 2)"))
	want := [][]impl.Pair{
		{},
		pairs(0, 1, 1, 0),
		pairs(0, 1, 1, 2, 2, 0),
		pairs(0, 2, 1, 0, 2, 1),
		pairs(0, 2, 2, 0),
		pairs(1, 2, 2, 1),
	}
	if !ok || !sameLists(got, want) {
		t.Error(got, ok)
	}
}

func TestGroupAtTheLimits(t *testing.T) {
	all := readAll(t, "(0 1)", "(0 1 2 3 4)")
	got, ok := impl.GroupOf(all)
	if !ok || len(got) != impl.MaxGroup {
		t.Error("120 permutations of five atoms:", len(got), ok)
	}
	// All of them, each several times, are generators of no more.
	many := slices.Concat(got, got, got)
	if again, is := impl.GroupOf(many); !is || !sameLists(got, again) {
		t.Error("their own generators:", len(again), is)
	}
	for why, generators := range map[string][][]impl.Pair{
		"720 of six atoms":       readAll(t, "(0 1)", "(0 1 2 3 4 5)"),
		"121 generators":         append(slices.Clone(got), impl.SwapOf(7, 8)),
		"121 of two cycles":      {rotation(0, 11), rotation(11, 11)},
		"125 of order 5":         {rotation(0, 5), rotation(5, 5), rotation(10, 5)},
		"126 of one":             {slices.Concat(rotation(0, 2), rotation(2, 7), rotation(9, 9))},
		"one of 4 would move 42": {swaps(0, 20), impl.SwapOf(40, 41)},
		"one of 6 would move 41": {swaps(0, 10), threes(20, 7)},
	} {
		if l, is := impl.GroupOf(generators); is || len(l) != 0 {
			t.Errorf("%s: %d, %v", why, len(l), is)
		}
	}
	if l, is := impl.GroupOf([][]impl.Pair{swaps(0, 10), swaps(20, 10)}); !is || len(l) != 4 || len(l[2]) != 40 {
		t.Error("40 atoms moved by one of four:", len(l), is)
	}
	if l, is := impl.GroupOf([][]impl.Pair{swaps(0, 11), threes(22, 6)}); !is || len(l) != 6 {
		t.Error("40 atoms moved by some of six:", len(l), is)
	}
	if l, is := impl.GroupOf([][]impl.Pair{slices.Concat(rotation(0, 8), rotation(8, 3), rotation(11, 5))}); !is || len(l) != 120 {
		t.Error("a cyclic group of 120:", len(l), is)
	}
}

// swaps are count swaps of neighbours from first on.
func swaps(first, count int) []impl.Pair {
	p := []impl.Pair{}
	for i := range count {
		p = append(p, impl.SwapOf(first+2*i, first+2*i+1)...)
	}
	return p
}

// threes are count cycles of three neighbours from first on.
func threes(first, count int) []impl.Pair {
	p := []impl.Pair{}
	for i := range count {
		p = append(p, rotation(first+3*i, 3)...)
	}
	return p
}

func TestGroupInvalid(t *testing.T) {
	for why, bad := range notPermutations() {
		for _, generators := range [][][]impl.Pair{{bad}, {{}, bad}, {bad, pairs(0, 1, 1, 0)}, {bad, bad}} {
			if got, ok := impl.GroupOf(generators); ok || len(got) != 0 {
				t.Errorf("%s: %v, %v", why, got, ok)
			}
		}
	}
}

func TestOrbitOf(t *testing.T) {
	for _, c := range []struct {
		generators []string
		a          int
		want       []int
	}{
		{nil, 7, []int{7}},
		{[]string{"()"}, 999, []int{999}},
		{[]string{"(0 1)"}, 2, []int{2}},
		{[]string{"(0 1)"}, 1, []int{0, 1}},
		{[]string{"(0 1)", "(1 5)"}, 5, []int{0, 1, 5}},
		{[]string{"(0 1)", "(1 5)"}, 0, []int{0, 1, 5}},
		{[]string{"(1 5)", "(0 1)", "(8 9)"}, 0, []int{0, 1, 5}},
		{[]string{"(0 9 4)(2 3)", "(3 999)"}, 4, []int{0, 4, 9}},
		{[]string{"(0 9 4)(2 3)", "(3 999)"}, 2, []int{2, 3, 999}},
	} {
		if got := impl.OrbitOf(readAll(t, c.generators...), c.a); !slices.Equal(got, c.want) {
			t.Errorf("orbit of %d by %v: %v", c.a, c.generators, got)
		}
	}
	for _, a := range notAtoms {
		if got := impl.OrbitOf([][]impl.Pair{impl.SwapOf(0, 1)}, a); len(got) != 0 {
			t.Errorf("%d is no atom: %v", a, got)
		}
		if got := impl.OrbitOf(nil, a); len(got) != 0 {
			t.Errorf("%d is no atom: %v", a, got)
		}
	}
	for why, bad := range notPermutations() {
		for _, generators := range [][][]impl.Pair{{bad}, {{}, bad}, {bad, pairs(0, 1, 1, 0)}} {
			if got := impl.OrbitOf(generators, 500); len(got) != 0 {
				t.Errorf("%s: %v", why, got)
			}
		}
	}
}

func TestOrbitOfAllAtoms(t *testing.T) {
	generators := [][]impl.Pair{}
	for a := range impl.MaxAtom {
		generators = append(generators, impl.SwapOf(a, a+1))
	}
	// The group of these is far larger than MaxGroup.
	got := impl.OrbitOf(generators, 500)
	if len(got) != impl.MaxAtom+1 || got[0] != 0 || got[impl.MaxAtom] != impl.MaxAtom {
		t.Error(len(got))
	}
}
