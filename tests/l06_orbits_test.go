package tests

import (
	"math"
	"slices"
	"testing"

	"loop.example/g03112/impl"
)

func TestPatternOf(t *testing.T) {
	for _, c := range []struct {
		constants, tuple []int
		want             string
	}{
		{nil, nil, ""},
		{atoms(), atoms(), ""},
		{atoms(3, 5, 7), nil, ""},
		{nil, atoms(7), "0"},
		{nil, atoms(999, 999, 0, 999), "0010"},
		{nil, atoms(3, 2, 1, 0), "0123"},
		{nil, atoms(5, 6, 5, 7), "0102"},
		{atoms(7), atoms(7), "0"},
		{atoms(7), atoms(3), "1"},
		{atoms(7), atoms(7, 7, 7, 7), "0000"},
		{atoms(7), atoms(3, 7, 3, 4), "1012"},
		{atoms(7), atoms(3, 4, 7, 3), "1201"}, // not the number of a pattern elsewhere
		{atoms(3, 5), atoms(7, 5, 7, 1), "2123"},
		{atoms(3, 5), atoms(5, 3, 5, 3), "1010"},
		{atoms(0, 1, 999), atoms(2, 3, 4, 5), "3456"},
		{atoms(0, 1, 999), atoms(999, 1, 0, 2), "2103"},
		{atoms(0, 1, 999), atoms(998, 999, 998, 998), "3233"},
	} {
		if got, ok := impl.PatternOf(c.constants, c.tuple); !ok || !slices.Equal(got, digits(c.want)[0]) {
			t.Errorf("%v for %v: %v, %v instead of %s", c.tuple, c.constants, got, ok, c.want)
		}
	}
}

func TestPatternOfInvalid(t *testing.T) {
	for why, constants := range notConstants() {
		for _, tuple := range [][]int{nil, {0}, {0, 1, 2, 3}, {-1}} {
			if got, ok := impl.PatternOf(constants, tuple); ok || len(got) > 0 {
				t.Errorf("%s: %v", why, got)
			}
		}
	}
	for why, tuple := range notTuples() {
		for _, constants := range [][]int{nil, {0}, {0, 7, 999}} {
			if got, ok := impl.PatternOf(constants, tuple); ok || len(got) > 0 {
				t.Errorf("%s: %v", why, got)
			}
		}
	}
}

func TestPatternsOf(t *testing.T) {
	for _, c := range []struct {
		width, k int
		want     [][]int
	}{
		{0, 0, digits("")},
		{0, 3, digits("")},
		{1, 0, digits("0")},
		{1, 1, digits("0", "1")},
		{1, 3, digits("0", "1", "2", "3")},
		{2, 0, digits("00", "01")},
		{2, 1, digits("00", "01", "10", "11", "12")},
		{3, 0, digits("000", "001", "010", "011", "012")},
		{2, 3, digits("00", "01", "02", "03", "10", "11", "12", "13", "20", "21", "22", "23", "30", "31", "32", "33", "34")},
	} {
		if got := impl.PatternsOf(c.width, c.k); !sameLists(got, c.want) {
			t.Errorf("width %d, %d constants: %v", c.width, c.k, got)
		}
	}
	counts := [][]int{{1, 1, 2, 5, 15}, {1, 2, 5, 15, 52}, {1, 3, 10, 37, 151}, {1, 4, 17, 77, 372}}
	for k, row := range counts {
		for width, count := range row {
			if got := impl.PatternsOf(width, k); len(got) != count || !sameLists(got, patternsByHand(width, k)) {
				t.Errorf("width %d, %d constants: %v", width, k, got)
			}
		}
	}
}

func TestPatternsOfInvalid(t *testing.T) {
	for _, bad := range atoms(-1, 5, math.MinInt, math.MaxInt) {
		for k := range impl.MaxConstants + 1 {
			if got := impl.PatternsOf(bad, k); len(got) > 0 {
				t.Errorf("width %d: %v", bad, got)
			}
		}
	}
	for _, bad := range atoms(-1, 4, math.MinInt, math.MaxInt) {
		for width := range impl.MaxWidth + 1 {
			if got := impl.PatternsOf(width, bad); len(got) > 0 {
				t.Errorf("%d constants: %v", bad, got)
			}
		}
	}
}

func TestIsOrbitSet(t *testing.T) {
	good := []impl.OrbitSet{
		{}, orbits(0, nil, ""), orbits(0, atoms(0, 5, 999)), orbits(0, atoms(0, 5, 999), ""), orbits(4, nil), orbits(4, nil, "0000", "0123"),
		orbits(1, atoms(4), "0", "1"), orbits(2, atoms(4), "00", "01", "10", "11", "12"), orbits(2, atoms(4), "12"),
		orbits(4, atoms(0, 1, 2), "0012", "3333", "3456"), orbits(4, nil, "0102", "0112"), orbits(3, atoms(999), "001", "010", "121"),
	}
	for k, constants := range [][]int{{}, {7}, {7, 8}, {7, 8, 9}} {
		for width := range impl.MaxWidth + 1 {
			good = append(good, impl.OrbitSet{Width: width, Constants: constants, Patterns: patternsByHand(width, k)})
		}
	}
	for _, s := range good {
		if !impl.IsOrbitSet(s) {
			t.Errorf("%s: a valid set", setText(s))
		}
	}
	for why, s := range notSets() {
		if impl.IsOrbitSet(s) {
			t.Errorf("%s: no valid set", why)
		}
	}
}

func TestSetOf(t *testing.T) {
	for _, c := range []struct {
		constants []int
		width     int
		tuples    [][]int
		want      impl.OrbitSet
	}{
		{nil, 0, nil, impl.OrbitSet{}},
		{nil, 0, [][]int{{}}, orbits(0, nil, "")},
		{nil, 0, [][]int{nil, {}, nil}, orbits(0, nil, "")},
		{atoms(3), 0, [][]int{{}}, orbits(0, atoms(3), "")},
		{atoms(3), 4, nil, orbits(4, atoms(3))},
		{atoms(4), 2, [][]int{{4, 9}, {2, 2}}, orbits(2, atoms(4), "01", "11")},
		{atoms(4), 2, [][]int{{2, 2}, {4, 9}, {7, 7}, {4, 0}}, orbits(2, atoms(4), "01", "11")}, // each pattern once, in order
		{nil, 2, [][]int{{4, 9}, {2, 2}}, orbits(2, nil, "00", "01")},
		{atoms(8), 2, [][]int{{4, 9}, {2, 2}}, orbits(2, atoms(8), "11", "12")}, // not needed, and kept
		{atoms(0, 1, 999), 4, [][]int{{5, 6, 7, 8}, {999, 998, 997, 996}, {1, 1, 0, 0}}, orbits(4, atoms(0, 1, 999), "1100", "2345", "3456")},
	} {
		got, ok := impl.SetOf(c.constants, c.width, c.tuples)
		checkSet(t, setText(c.want), got, ok, c.want)
	}
	many := slices.Repeat(tuplesOf(3, atoms(0, 1, 2, 3, 4)), 1000)
	got, ok := impl.SetOf(atoms(1), 3, many)
	checkSet(t, "many tuples", got, ok, impl.OrbitSet{Width: 3, Constants: atoms(1), Patterns: patternsByHand(3, 1)})
}

func TestSetOfInvalid(t *testing.T) {
	for why, constants := range notConstants() {
		for width := range 3 {
			got, ok := impl.SetOf(constants, width, nil)
			checkNoSet(t, why, got, ok)
			got, ok = impl.SetOf(constants, width, tuplesOf(width, atoms(0, 1)))
			checkNoSet(t, why, got, ok)
		}
	}
	for _, width := range atoms(-1, 5, math.MinInt, math.MaxInt) {
		for _, tuples := range [][][]int{nil, {{}}, {{0, 0, 0, 0, 0}}} {
			got, ok := impl.SetOf(atoms(0), width, tuples)
			checkNoSet(t, "width", got, ok)
		}
	}
	for why, tuple := range notTuples() {
		width := min(len(tuple), 4)
		for _, tuples := range [][][]int{{tuple}, {tuple, make([]int, width)}, {make([]int, width), tuple}} {
			got, ok := impl.SetOf(atoms(7), width, tuples)
			checkNoSet(t, why, got, ok)
		}
	}
	for _, tuples := range [][][]int{{{}}, {{0}}, {{0, 0, 0}}, {{0, 1}, {0}}, {{0, 1}, {0, 1, 2}, {0, 1}}} {
		got, ok := impl.SetOf(nil, 2, tuples)
		checkNoSet(t, "another width", got, ok)
	}
}

func TestHasTuple(t *testing.T) {
	for _, c := range []struct {
		s       impl.OrbitSet
		in, out [][]int
	}{
		{impl.OrbitSet{}, nil, [][]int{nil, {}, {0}}},
		{orbits(0, nil, ""), [][]int{nil, {}}, [][]int{{0}}},
		{orbits(0, atoms(5), ""), [][]int{nil, {}}, [][]int{{5}}},
		{orbits(1, nil, "0"), [][]int{{0}, {999}}, [][]int{{}, {0, 0}}},
		{orbits(2, atoms(4), "01", "11"), [][]int{{4, 0}, {7, 7}, {0, 0}, {4, 999}}, [][]int{{4, 4}, {0, 4}, {7, 8}, {4}, {4, 0, 0}}},
		{orbits(2, nil, "00"), [][]int{{3, 3}}, [][]int{{3, 4}, {3}, {3, 3, 3}, {}}}, // 0, 00 and 000 are other patterns
		{orbits(3, atoms(1, 2), "021", "234"), [][]int{{1, 7, 2}, {4, 3, 5}, {999, 998, 0}}, [][]int{{2, 7, 1}, {1, 2, 7}, {4, 3, 4}, {4, 1, 5}}},
		{orbits(4, atoms(0, 1, 999), "3456"), [][]int{{2, 3, 4, 5}, {998, 4, 6, 2}}, [][]int{{2, 3, 4, 0}, {2, 3, 4, 4}, {2, 3, 4, 999}, {2, 3, 4}}},
	} {
		for _, tuple := range c.in {
			if !impl.HasTuple(c.s, tuple) {
				t.Errorf("%v is in %s", tuple, setText(c.s))
			}
		}
		for _, tuple := range c.out {
			if impl.HasTuple(c.s, tuple) {
				t.Errorf("%v is not in %s", tuple, setText(c.s))
			}
		}
	}
}

func TestHasTupleInvalid(t *testing.T) {
	for why, s := range notSets() {
		for width := range impl.MaxWidth + 1 {
			for _, tuple := range tuplesOf(width, atoms(0, 4)) {
				if impl.HasTuple(s, tuple) {
					t.Errorf("%s: %v", why, tuple)
				}
			}
		}
	}
	for why, tuple := range notTuples() {
		for k, constants := range [][]int{{}, {0}, {0, 7, 8}} {
			for width := range impl.MaxWidth + 1 {
				if impl.HasTuple(impl.OrbitSet{Width: width, Constants: constants, Patterns: patternsByHand(width, []int{0, 1, 3}[k])}, tuple) {
					t.Errorf("%s: in %v", why, constants)
				}
			}
		}
	}
}

func TestExamplesOf(t *testing.T) {
	for _, c := range []struct {
		s    impl.OrbitSet
		want [][]int
	}{
		{impl.OrbitSet{}, nil},
		{orbits(3, atoms(4)), nil},
		{orbits(0, atoms(4), ""), [][]int{{}}},
		{orbits(4, nil, "0000", "0101", "0123"), [][]int{{0, 0, 0, 0}, {0, 1, 0, 1}, {0, 1, 2, 3}}},
		{orbits(2, atoms(4), "01", "11"), [][]int{{4, 0}, {0, 0}}},
		{orbits(2, atoms(0), "00", "01", "10", "11", "12"), [][]int{{0, 0}, {0, 1}, {1, 0}, {1, 1}, {1, 2}}},
		{orbits(3, atoms(1), "012", "120", "122"), [][]int{{1, 0, 2}, {0, 2, 1}, {0, 2, 2}}},
		{orbits(4, atoms(0, 2, 3), "0123", "3456"), [][]int{{0, 2, 3, 1}, {1, 4, 5, 6}}},
		{orbits(4, atoms(0, 1, 2), "3333", "3456"), [][]int{{3, 3, 3, 3}, {3, 4, 5, 6}}},
		{orbits(4, atoms(997, 998, 999), "2103", "3456"), [][]int{{999, 998, 997, 0}, {0, 1, 2, 3}}},
	} {
		if got := impl.ExamplesOf(c.s); !sameLists(got, c.want) {
			t.Errorf("%s: %v", setText(c.s), got)
		}
	}
	for why, s := range notSets() {
		if got := impl.ExamplesOf(s); len(got) > 0 {
			t.Errorf("%s: %v", why, got)
		}
	}
}
