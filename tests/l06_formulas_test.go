package tests

import (
	"math"
	"testing"

	"loop.example/g03112/impl"
)

func TestIsFormula(t *testing.T) {
	for _, c := range []struct {
		f     impl.Formula
		width int
	}{
		{foSame(0, 0), 1},
		{foSame(3, 0), 4},
		{foIs(0, 0), 1},
		{foIs(3, 999), 4},
		{foNot(foSame(0, 1)), 2},
		{foAnd(foSame(0, 1), foIs(1, 5)), 2},
		{foOr(foSame(0, 1), foIs(1, 5)), 2},
		{foSome(foSame(0, 1)), 1},
		{foAll(foSame(0, 1)), 1},
		{foSome(foSame(0, 0)), 0},
		{foAll(foIs(0, 5)), 0},
		{foSome(foAll(foSome(foAll(foSame(0, 3))))), 0},
		{foSome(foSame(3, 3)), 3},
		{foAnd(foSome(foSame(1, 2)), foAll(foSame(1, 2))), 2}, // each has a last variable of its own
		{notOf(5, foSame(0, 1)), 2},
		{foOr(notOf(4, foSame(0, 1)), foIs(0, 0)), 2},
		{foAnd(foOr(foIs(0, 0), foIs(0, 1)), foOr(foIs(0, 999), foIs(1, 1))), 2}, // one of three twice
		{foAnd(foAnd(anAtom(3), anAtom(1)), foAnd(anAtom(3), anAtom(2))), 0},
		{impl.Formula{Op: impl.FoSame, Kids: []impl.Formula{}}, 1},
	} {
		if !impl.IsFormula(c.f, c.width) {
			t.Errorf("%v is valid for the width %d", c.f, c.width)
		}
	}
	for why, f := range notFormulas() {
		if impl.IsFormula(f, 2) {
			t.Errorf("%s: valid", why)
		}
	}
}

func TestIsFormulaWidth(t *testing.T) {
	for _, width := range atoms(-1, 5, math.MinInt, math.MaxInt) {
		for _, f := range []impl.Formula{foSame(0, 0), foIs(0, 3), foNot(foSame(0, 0)), foSome(foSame(0, 0)), foAll(foIs(0, 3)), anAtom(3), {}} {
			if impl.IsFormula(f, width) {
				t.Errorf("%v is not valid for the width %d", f, width)
			}
		}
	}
	for _, c := range []struct {
		f     impl.Formula
		width int
	}{
		{foSame(0, 0), 0}, {foIs(0, 0), 0}, {foSame(1, 0), 1}, {foSame(0, 3), 3}, {foIs(3, 0), 3},
		{foSome(foSame(0, 0)), 4}, {foAll(foIs(0, 0)), 4}, {foSome(foSome(foSame(0, 0))), 3}, {foSome(foAll(foSome(foAll(foSome(foSame(0, 0)))))), 0},
	} {
		if impl.IsFormula(c.f, c.width) {
			t.Errorf("%v is not valid for the width %d", c.f, c.width)
		}
	}
}

// isTwo holds for the first variable alone, if it is the atom 2.
func isTwo() impl.Formula {
	return foAll(foOr(foSame(0, 1), foNot(foIs(1, 2))))
}

// areThree holds if three atoms are pairwise different.
func areThree() impl.Formula {
	return foAnd(foNot(foSame(0, 1)), foNot(foOr(foSame(0, 2), foSame(1, 2))))
}

func TestHoldsFormula(t *testing.T) {
	for _, c := range []struct {
		f       impl.Formula
		in, out [][]int
	}{
		{foSame(0, 1), [][]int{{3, 3}, {999, 999, 0}}, [][]int{{3, 4}, {0, 999, 999}}},
		{foSame(0, 0), [][]int{{3}, {999, 0, 1, 2}}, nil},
		{foIs(0, 5), [][]int{{5}, {5, 6}}, [][]int{{6}, {6, 5}}},
		{foNot(foIs(0, 5)), [][]int{{6}, {6, 5}}, [][]int{{5}, {5, 6}}},
		{foAnd(foIs(0, 5), foIs(1, 6)), [][]int{{5, 6}}, [][]int{{5, 5}, {6, 6}, {6, 5}, {0, 1}}},
		{foOr(foIs(0, 5), foIs(1, 6)), [][]int{{5, 6}, {5, 5}, {6, 6}}, [][]int{{6, 5}, {0, 1}}},
		{isTwo(), [][]int{{2}}, [][]int{{3}, {0}, {999}}},
		{areThree(), [][]int{{0, 1, 2}, {999, 5, 998}}, [][]int{{0, 0, 1}, {0, 1, 0}, {1, 0, 0}, {7, 7, 7}}},
		// There are always others: not all atoms, but also more than any tuple has.
		{foSome(foNot(foSame(0, 0))), nil, [][]int{nil, {0}, {0, 1, 2}}},
		{foSome(foSame(0, 0)), [][]int{nil, {}, {0}, {0, 1, 2}}, nil},
		{foSome(foIs(0, 5)), [][]int{nil}, nil},
		{foAll(foIs(0, 5)), nil, [][]int{nil}},
		{foAll(foNot(foIs(0, 5))), nil, [][]int{nil}},
		{foSome(foNot(foIs(0, 5))), [][]int{nil}, nil},
		{foAll(foSome(foNot(foSame(0, 1)))), [][]int{nil}, nil},
		{foSome(foAll(foSame(0, 1))), nil, [][]int{nil}},
		{foAll(foSome(foSame(0, 1))), [][]int{nil}, nil},
		{foSome(foSome(areThree())), [][]int{{0}, {999}}, nil},
		{foSome(foAnd(foNot(foSame(0, 3)), foAnd(foNot(foSame(1, 3)), foNot(foSame(2, 3))))), [][]int{{0, 1, 2}, {5, 6, 7}, {0, 0, 0}}, nil},
		{foSome(foAnd(foNot(foSame(0, 1)), foNot(foOr(foIs(1, 0), foOr(foIs(1, 1), foIs(1, 2)))))), [][]int{{3}, {0}, {999}}, nil},
		{foAll(foOr(foIs(1, 0), foOr(foIs(1, 1), foIs(1, 2)))), nil, [][]int{{0}, {3}}},
		// The new variable is the last one.
		{foSome(foAnd(foIs(1, 5), foIs(0, 6))), [][]int{{6}}, [][]int{{5}, {0}}},
		{foSome(foAnd(foIs(2, 5), foSame(1, 2))), [][]int{{6, 5}, {5, 5}}, [][]int{{5, 6}}},
	} {
		for _, tuple := range c.in {
			if !impl.HoldsFormula(c.f, tuple) {
				t.Errorf("%v holds for %v", c.f, tuple)
			}
		}
		for _, tuple := range c.out {
			if impl.HoldsFormula(c.f, tuple) {
				t.Errorf("%v does not hold for %v", c.f, tuple)
			}
		}
	}
}

func TestHoldsFormulaInvalid(t *testing.T) {
	for why, f := range notFormulas() {
		for _, tuple := range tuplesOf(2, atoms(0, 2)) {
			if impl.HoldsFormula(f, tuple) {
				t.Errorf("%s: %v", why, tuple)
			}
		}
	}
	for why, tuple := range notTuples() {
		for _, f := range []impl.Formula{foSame(0, 0), foIs(0, 7), foNot(foIs(0, 7)), foSome(foSame(0, 0)), foAll(foSame(0, 0)), anAtom(3)} {
			if impl.HoldsFormula(f, tuple) {
				t.Errorf("%s: %v", why, f)
			}
		}
	}
	for _, c := range []struct {
		f     impl.Formula
		tuple []int
	}{
		{foSame(0, 0), nil}, {foNot(foIs(0, 5)), nil}, {foSame(1, 1), atoms(3)}, {foIs(2, 5), atoms(5, 5)}, {foSome(foSame(4, 4)), atoms(0, 1, 2, 3)},
		{foNot(foSome(foIs(0, 5))), atoms(0, 1, 2, 3)},
	} {
		if impl.HoldsFormula(c.f, c.tuple) {
			t.Errorf("%v is not valid for %v", c.f, c.tuple)
		}
	}
}

func TestSetOfFormula(t *testing.T) {
	for _, c := range []struct {
		f     impl.Formula
		width int
		want  impl.OrbitSet
	}{
		{foSame(0, 0), 1, orbits(1, nil, "0")},
		{foNot(foSame(0, 0)), 1, orbits(1, nil)},
		{foSame(0, 1), 2, orbits(2, nil, "00")},
		{foSame(2, 0), 3, orbits(3, nil, "000", "010")},
		{foIs(0, 5), 1, orbits(1, atoms(5), "0")},
		{foIs(1, 5), 2, orbits(2, atoms(5), "00", "10")},
		{foNot(foIs(0, 5)), 1, orbits(1, atoms(5), "1")},
		{isTwo(), 1, orbits(1, atoms(2), "0")},
		{areThree(), 3, orbits(3, nil, "012")},
		{foOr(foIs(0, 7), foIs(0, 3)), 1, orbits(1, atoms(3, 7), "0", "1")}, // in ascending order
		{foOr(foIs(0, 7), foAnd(foIs(0, 3), foIs(1, 7))), 2, orbits(2, atoms(3, 7), "01", "10", "11", "12")},
		{foOr(foIs(0, 999), foOr(foIs(0, 0), foIs(0, 5))), 1, orbits(1, atoms(0, 5, 999), "0", "1", "2")},
		// Atoms that the set does not need are constants all the same.
		{foOr(foIs(0, 5), foNot(foIs(0, 5))), 1, orbits(1, atoms(5), "0", "1")},
		{foAnd(foIs(0, 5), foIs(0, 6)), 1, orbits(1, atoms(5, 6))},
		{foAnd(foSame(0, 1), foSome(foIs(2, 4))), 2, orbits(2, atoms(4), "00", "11")},
		{foSome(foAnd(foIs(1, 4), foNot(foSame(0, 1)))), 1, orbits(1, atoms(4), "1")},
		// Without variables there is one tuple, or none.
		{foSome(foSame(0, 0)), 0, orbits(0, nil, "")},
		{foAll(foNot(foSame(0, 0))), 0, orbits(0, nil)},
		{foSome(foIs(0, 5)), 0, orbits(0, atoms(5), "")},
		{foAll(foIs(0, 5)), 0, orbits(0, atoms(5))},
		{foAnd(anAtom(9), foAnd(anAtom(1), anAtom(4))), 0, orbits(0, atoms(1, 4, 9), "")},
		{foSome(foAll(foSome(foAll(foOr(foSame(0, 1), foSame(2, 3)))))), 0, orbits(0, nil)},
		{foAll(foSome(foAll(foSome(foAnd(foSame(0, 1), foSame(2, 3)))))), 0, orbits(0, nil, "")},
	} {
		got, ok := impl.SetOfFormula(c.f, c.width)
		checkSet(t, setText(c.want), got, ok, c.want)
	}
}

func TestSetOfFormulaInvalid(t *testing.T) {
	for why, f := range notFormulas() {
		got, ok := impl.SetOfFormula(f, 2)
		checkNoSet(t, why, got, ok)
	}
	for _, width := range atoms(-1, 5, math.MinInt, math.MaxInt) {
		for _, f := range []impl.Formula{foSame(0, 0), foIs(0, 3), foSome(foSame(0, 0)), anAtom(3)} {
			got, ok := impl.SetOfFormula(f, width)
			checkNoSet(t, "width", got, ok)
		}
	}
	got, ok := impl.SetOfFormula(foSame(0, 0), 0)
	checkNoSet(t, "a variable with width 0", got, ok)
	got, ok = impl.SetOfFormula(foSome(foSame(0, 0)), 4)
	checkNoSet(t, "a fifth variable", got, ok)
}
