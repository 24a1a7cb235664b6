package tests

import (
	"math"
	"slices"
	"testing"

	"loop.example/g03112/impl"
)

func TestExtendSet(t *testing.T) {
	for _, c := range []struct {
		s         impl.OrbitSet
		constants []int
		want      impl.OrbitSet
	}{
		{impl.OrbitSet{}, nil, impl.OrbitSet{}},
		{impl.OrbitSet{}, atoms(2, 7), orbits(0, atoms(2, 7))},
		{orbits(0, nil, ""), atoms(2, 7, 9), orbits(0, atoms(2, 7, 9), "")},
		{orbits(1, nil, "0"), nil, orbits(1, nil, "0")},
		{orbits(1, nil, "0"), atoms(5), orbits(1, atoms(5), "0", "1")},
		{orbits(1, atoms(5), "0"), atoms(5), orbits(1, atoms(5), "0")},
		{orbits(1, atoms(5), "0"), atoms(4, 5), orbits(1, atoms(4, 5), "1")},
		{orbits(1, atoms(5), "0"), atoms(5, 6), orbits(1, atoms(5, 6), "0")},
		{orbits(1, atoms(5), "1"), atoms(4, 5, 6), orbits(1, atoms(4, 5, 6), "0", "2", "3")},
		{orbits(2, nil, "00"), atoms(5), orbits(2, atoms(5), "00", "11")},
		{orbits(2, nil, "01"), atoms(5), orbits(2, atoms(5), "01", "10", "12")},
		{orbits(2, atoms(5), "01"), atoms(3, 5), orbits(2, atoms(3, 5), "10", "12")},
		{orbits(4, atoms(998, 999), "2310"), atoms(0, 998, 999), orbits(4, atoms(0, 998, 999), "0321", "3021", "3421")},
		{orbits(3, nil), atoms(1, 2, 3), orbits(3, atoms(1, 2, 3))},
	} {
		got, ok := impl.ExtendSet(c.s, c.constants)
		checkSet(t, setText(c.s), got, ok, c.want)
	}
}

func TestExtendSetInvalid(t *testing.T) {
	for why, s := range notSets() {
		for _, constants := range [][]int{nil, {4}, {0, 4, 5}, {0, 1, 2}} {
			got, ok := impl.ExtendSet(s, constants)
			checkNoSet(t, why, got, ok)
		}
		got, ok := impl.ExtendSet(s, s.Constants)
		checkNoSet(t, why, got, ok)
	}
	for why, constants := range notConstants() {
		for _, s := range []impl.OrbitSet{{}, orbits(1, atoms(1), "0"), orbits(1, atoms(4), "0"), orbits(1, nil, "0")} {
			got, ok := impl.ExtendSet(s, constants)
			checkNoSet(t, why, got, ok)
		}
	}
	for _, constants := range [][]int{nil, {4}, {5}, {3, 5}, {4, 6}, {3, 6, 7}} {
		got, ok := impl.ExtendSet(orbits(1, atoms(4, 5), "0"), constants)
		checkNoSet(t, "one of the set is not among them", got, ok)
	}
	got, ok := impl.ExtendSet(orbits(1, atoms(4), "0", "1"), nil)
	checkNoSet(t, "also one that is not needed", got, ok)
}

// joinCase tells what comes of uniting two sets, and of their meeting.
type joinCase struct {
	a, b       impl.OrbitSet
	both, meet impl.OrbitSet
}

func joinCases() []joinCase {
	all := orbits(1, atoms(1, 2, 3), "0", "1", "2", "3")
	return []joinCase{
		{impl.OrbitSet{}, impl.OrbitSet{}, impl.OrbitSet{}, impl.OrbitSet{}},
		{orbits(0, nil, ""), impl.OrbitSet{}, orbits(0, nil, ""), impl.OrbitSet{}},
		{orbits(0, atoms(3), ""), orbits(0, atoms(2), ""), orbits(0, atoms(2, 3), ""), orbits(0, atoms(2, 3), "")},
		{orbits(1, nil, "0"), orbits(1, nil), orbits(1, nil, "0"), orbits(1, nil)},
		{orbits(1, atoms(5), "0"), orbits(1, atoms(5), "1"), orbits(1, atoms(5), "0", "1"), orbits(1, atoms(5))},
		{orbits(1, atoms(5), "0"), orbits(1, atoms(4), "0"), orbits(1, atoms(4, 5), "0", "1"), orbits(1, atoms(4, 5))},
		{orbits(1, atoms(5), "1"), orbits(1, atoms(4), "1"), orbits(1, atoms(4, 5), "0", "1", "2"), orbits(1, atoms(4, 5), "2")},
		{orbits(2, nil, "00"), orbits(2, atoms(7), "00", "01"), orbits(2, atoms(7), "00", "01", "11"), orbits(2, atoms(7), "00")},
		{orbits(2, nil, "01"), orbits(2, atoms(7), "11", "12"), orbits(2, atoms(7), "01", "10", "11", "12"), orbits(2, atoms(7), "12")},
		{orbits(1, atoms(1, 2, 3), "0", "3"), orbits(1, atoms(1, 2, 3), "0", "1"), orbits(1, atoms(1, 2, 3), "0", "1", "3"), orbits(1, atoms(1, 2, 3), "0")},
		{orbits(1, atoms(1, 3), "0", "2"), orbits(1, atoms(2), "0"), orbits(1, atoms(1, 2, 3), "0", "1", "3"), orbits(1, atoms(1, 2, 3), "1")},
		{orbits(1, atoms(1, 2, 3)), orbits(1, nil, "0"), all, orbits(1, atoms(1, 2, 3))}, // not needed, and kept
		{all, orbits(1, nil, "0"), all, all},
		{
			orbits(2, atoms(0, 999), "23"), orbits(2, atoms(500), "12"),
			orbits(2, atoms(0, 500, 999), "02", "03", "13", "20", "23", "30", "31", "32", "34"), orbits(2, atoms(0, 500, 999), "34"),
		},
	}
}

func TestUniteAndMeetSets(t *testing.T) {
	for _, c := range joinCases() {
		for _, both := range [][2]impl.OrbitSet{{c.a, c.b}, {c.b, c.a}} {
			got, ok := impl.UniteSets(both[0], both[1])
			checkSet(t, "united "+setText(both[0])+" and "+setText(both[1]), got, ok, c.both)
			got, ok = impl.MeetSets(both[0], both[1])
			checkSet(t, "met "+setText(both[0])+" and "+setText(both[1]), got, ok, c.meet)
		}
	}
}

func TestUniteAndMeetSetsInvalid(t *testing.T) {
	check := func(why string, a, b impl.OrbitSet) {
		t.Helper()
		for _, both := range [][2]impl.OrbitSet{{a, b}, {b, a}} {
			got, ok := impl.UniteSets(both[0], both[1])
			checkNoSet(t, why, got, ok)
			got, ok = impl.MeetSets(both[0], both[1])
			checkNoSet(t, why, got, ok)
		}
	}
	for why, s := range notSets() {
		check(why, s, s)
		check(why, s, orbits(s.Width, nil))
		check(why, s, orbits(1, atoms(4), "0"))
	}
	for width := range impl.MaxWidth {
		check("other widths", orbits(width, nil), orbits(width+1, nil))
		check("other widths", impl.OrbitSet{Width: width, Patterns: patternsByHand(width, 0)}, impl.OrbitSet{Width: width + 1, Patterns: patternsByHand(width+1, 0)})
	}
	check("four constants", orbits(1, atoms(1, 2), "0"), orbits(1, atoms(3, 4), "0"))
	check("four with some twice", orbits(1, atoms(1, 2, 3), "0"), orbits(1, atoms(2, 3, 4), "0"))
	check("four, not needed", orbits(1, atoms(1, 2, 3)), orbits(1, atoms(4), "0", "1"))
	check("four with width 0", orbits(0, atoms(1, 2, 3), ""), orbits(0, atoms(4), ""))
	check("six", orbits(2, atoms(1, 2, 3), "00"), orbits(2, atoms(4, 5, 6), "00"))
}

func TestComplementSet(t *testing.T) {
	for _, c := range []struct{ s, want impl.OrbitSet }{
		{impl.OrbitSet{}, orbits(0, nil, "")},
		{orbits(0, nil, ""), impl.OrbitSet{}},
		{orbits(0, atoms(5), ""), orbits(0, atoms(5))},
		{orbits(1, nil, "0"), orbits(1, nil)},
		{orbits(1, atoms(5), "0"), orbits(1, atoms(5), "1")},
		{orbits(2, nil, "00"), orbits(2, nil, "01")},
		{orbits(2, atoms(4), "01", "11"), orbits(2, atoms(4), "00", "10", "12")},
		{orbits(3, nil, "001", "010", "011", "012"), orbits(3, nil, "000")},
		{orbits(4, atoms(0, 1, 999)), impl.OrbitSet{Width: 4, Constants: atoms(0, 1, 999), Patterns: patternsByHand(4, 3)}},
		{impl.OrbitSet{Width: 4, Constants: atoms(0, 1, 999), Patterns: patternsByHand(4, 3)[1:]}, orbits(4, atoms(0, 1, 999), "0000")},
	} {
		checkSet(t, setText(c.s), impl.ComplementSet(c.s), true, c.want)
	}
	for why, s := range notSets() {
		checkNoSet(t, why, impl.ComplementSet(s), false)
	}
}

func TestPlacesOfSet(t *testing.T) {
	for _, c := range []struct {
		s      impl.OrbitSet
		places []int
		want   impl.OrbitSet
	}{
		{impl.OrbitSet{}, nil, impl.OrbitSet{}},
		{orbits(0, atoms(3), ""), nil, orbits(0, atoms(3), "")},
		{orbits(3, atoms(3), "012", "123"), nil, orbits(0, atoms(3), "")},
		{orbits(3, atoms(3)), nil, orbits(0, atoms(3))}, // there is none of which nothing could be taken
		{orbits(3, atoms(3)), atoms(0, 1, 2, 2), orbits(4, atoms(3))},
		{orbits(2, atoms(4), "01", "11"), atoms(0), orbits(1, atoms(4), "0", "1")},
		{orbits(2, atoms(4), "01", "11"), atoms(1), orbits(1, atoms(4), "1")},
		{orbits(2, atoms(4), "01", "11"), atoms(1, 0), orbits(2, atoms(4), "10", "11")},
		{orbits(2, atoms(4), "01", "11"), atoms(0, 1), orbits(2, atoms(4), "01", "11")},
		{orbits(2, atoms(4), "01", "11"), atoms(1, 1, 1, 1), orbits(4, atoms(4), "1111")},
		{orbits(2, nil, "01"), atoms(1, 0), orbits(2, nil, "01")},
		{orbits(2, nil, "01"), atoms(1, 0, 0, 1), orbits(4, nil, "0110")},
		{orbits(3, nil, "012"), atoms(2, 1), orbits(2, nil, "01")},
		{orbits(4, nil, "0012", "0123"), atoms(3, 2, 1, 0), orbits(4, nil, "0122", "0123")},
		{orbits(4, atoms(5, 6, 7), "0341", "3456"), atoms(2, 1, 0), orbits(3, atoms(5, 6, 7), "340", "345")},
		{orbits(1, atoms(5), "0"), atoms(0, 0), orbits(2, atoms(5), "00")},
	} {
		got, ok := impl.PlacesOfSet(c.s, c.places)
		checkSet(t, setText(c.s), got, ok, c.want)
	}
}

func TestPlacesOfSetInvalid(t *testing.T) {
	for why, s := range notSets() {
		for _, places := range [][]int{nil, {0}, {0, 1}} {
			got, ok := impl.PlacesOfSet(s, places)
			checkNoSet(t, why, got, ok)
		}
	}
	s := orbits(2, atoms(4), "01", "11")
	for _, places := range [][]int{{-1}, {2}, {0, 2}, {1, -1, 0}, {math.MinInt}, {0, 1, 0, math.MaxInt}, {0, 1, 0, 1, 0}, slices.Repeat(atoms(0), 100000)} {
		got, ok := impl.PlacesOfSet(s, places)
		checkNoSet(t, "places", got, ok)
		got, ok = impl.PlacesOfSet(orbits(2, nil), places)
		checkNoSet(t, "places of nothing", got, ok)
	}
	got, ok := impl.PlacesOfSet(orbits(0, nil, ""), atoms(0))
	checkNoSet(t, "a place of none", got, ok)
}

func TestWidenSet(t *testing.T) {
	for _, c := range []struct{ s, want impl.OrbitSet }{
		{impl.OrbitSet{}, orbits(1, nil)},
		{orbits(0, nil, ""), orbits(1, nil, "0")},
		{orbits(0, atoms(2, 5), ""), orbits(1, atoms(2, 5), "0", "1", "2")},
		{orbits(1, nil, "0"), orbits(2, nil, "00", "01")},
		{orbits(1, atoms(5), "0"), orbits(2, atoms(5), "00", "01")},
		{orbits(1, atoms(5), "1"), orbits(2, atoms(5), "10", "11", "12")},
		{orbits(2, nil, "00"), orbits(3, nil, "000", "001")},
		{orbits(3, nil, "012"), orbits(4, nil, "0120", "0121", "0122", "0123")},
		{orbits(3, atoms(1, 2, 3), "000", "345"), orbits(4, atoms(1, 2, 3), "0000", "0001", "0002", "0003", "3450", "3451", "3452", "3453", "3454", "3455", "3456")},
		{orbits(3, atoms(1, 2, 3)), orbits(4, atoms(1, 2, 3))},
	} {
		got, ok := impl.WidenSet(c.s)
		checkSet(t, setText(c.s), got, ok, c.want)
	}
	for why, s := range notSets() {
		got, ok := impl.WidenSet(s)
		checkNoSet(t, why, got, ok)
	}
	for _, s := range []impl.OrbitSet{orbits(4, nil), orbits(4, nil, "0000"), orbits(4, atoms(1, 2, 3), "3456")} {
		got, ok := impl.WidenSet(s)
		checkNoSet(t, "width 4", got, ok)
	}
}

func TestActOnSet(t *testing.T) {
	for _, c := range []struct {
		p       string
		s, want impl.OrbitSet
	}{
		{"()", impl.OrbitSet{}, impl.OrbitSet{}},
		{"(0 1)", orbits(0, nil, ""), orbits(0, nil, "")},
		{"(0 1)", orbits(0, atoms(0, 2), ""), orbits(0, atoms(1, 2), "")},
		{"(0 1)", orbits(4, nil, "0011", "0123"), orbits(4, nil, "0011", "0123")},
		{"(4 6)", orbits(1, atoms(4), "0"), orbits(1, atoms(6), "0")},
		{"(4 6)", orbits(1, atoms(4), "1"), orbits(1, atoms(6), "1")},
		{"(7 8)", orbits(2, atoms(4), "01", "11"), orbits(2, atoms(4), "01", "11")}, // atoms that are no constants
		{"(4 6)", orbits(1, atoms(4, 5), "0", "2"), orbits(1, atoms(5, 6), "1", "2")},
		{"(4 5)", orbits(2, atoms(4, 5), "01"), orbits(2, atoms(4, 5), "10")},
		{"(4 5)", orbits(2, atoms(4, 5), "00", "12", "23"), orbits(2, atoms(4, 5), "02", "11", "23")}, // in order again
		{"(1 2 3)", orbits(4, atoms(1, 2, 3), "0123", "3401"), orbits(4, atoms(1, 2, 3), "1203", "3412")},
		{"(1 3 2)", orbits(4, atoms(1, 2, 3), "0123", "3401"), orbits(4, atoms(1, 2, 3), "2013", "3420")},
		{"(0 999)(1 998)", orbits(3, atoms(0, 1, 5), "012", "333"), orbits(3, atoms(5, 998, 999), "210", "333")},
		{"(4 6)", orbits(1, atoms(4)), orbits(1, atoms(6))},
	} {
		got, ok := impl.ActOnSet(read(t, c.p), c.s)
		checkSet(t, c.p+" on "+setText(c.s), got, ok, c.want)
	}
	got, ok := impl.ActOnSet(rotation(0, impl.MaxMoved), orbits(1, atoms(0, 39), "0"))
	checkSet(t, "40 atoms", got, ok, orbits(1, atoms(0, 1), "1"))
}

func TestActOnSetInvalid(t *testing.T) {
	for why, p := range notPermutations() {
		for _, s := range []impl.OrbitSet{{}, orbits(2, atoms(4), "01", "11"), orbits(1, nil, "0")} {
			got, ok := impl.ActOnSet(p, s)
			checkNoSet(t, why, got, ok)
		}
	}
	for why, s := range notSets() {
		for _, p := range [][]impl.Pair{nil, impl.SwapOf(0, 1), pairs(0, 1)} {
			got, ok := impl.ActOnSet(p, s)
			checkNoSet(t, why, got, ok)
		}
	}
}

func TestReducedSet(t *testing.T) {
	for _, c := range []struct{ s, want impl.OrbitSet }{
		{impl.OrbitSet{}, impl.OrbitSet{}},
		{orbits(0, atoms(1, 2, 3)), impl.OrbitSet{}},
		{orbits(0, atoms(1, 2, 3), ""), orbits(0, nil, "")},
		{orbits(3, atoms(1, 2, 3)), orbits(3, nil)},
		{impl.OrbitSet{Width: 4, Constants: atoms(1, 2, 3), Patterns: patternsByHand(4, 3)}, impl.OrbitSet{Width: 4, Patterns: patternsByHand(4, 0)}},
		{orbits(1, atoms(5), "0"), orbits(1, atoms(5), "0")},
		{orbits(1, atoms(5), "1"), orbits(1, atoms(5), "1")},
		{orbits(1, atoms(5), "0", "1"), orbits(1, nil, "0")},
		{orbits(1, atoms(4, 5), "0"), orbits(1, atoms(4), "0")},
		{orbits(1, atoms(4, 5), "1"), orbits(1, atoms(5), "0")},
		{orbits(1, atoms(4, 5), "2"), orbits(1, atoms(4, 5), "2")},
		{orbits(1, atoms(4, 5), "0", "1"), orbits(1, atoms(4, 5), "0", "1")}, // exchanging both with one another is not enough
		{orbits(1, atoms(4, 5), "0", "2"), orbits(1, atoms(5), "1")},
		{orbits(1, atoms(1, 2, 3), "0", "2", "3"), orbits(1, atoms(2), "1")},
		{orbits(2, atoms(4), "00", "11"), orbits(2, nil, "00")},
		{orbits(2, atoms(4), "01", "10", "12"), orbits(2, nil, "01")},
		{orbits(2, atoms(4), "00", "11", "12"), orbits(2, atoms(4), "00", "11", "12")},
		{orbits(2, atoms(4), "00", "01", "10", "12"), orbits(2, atoms(4), "00", "01", "10", "12")},
		{orbits(2, atoms(1, 2, 3), "00", "11", "22", "33"), orbits(2, nil, "00")},
		{orbits(2, atoms(1, 2, 3), "02", "12", "22", "32"), orbits(2, atoms(3), "00", "10")},
		{orbits(2, atoms(1, 2, 3), "01", "02", "03"), orbits(2, atoms(1), "01")},
		{orbits(2, atoms(1, 2), "01", "10"), orbits(2, atoms(1, 2), "01", "10")},
	} {
		checkSet(t, setText(c.s), impl.ReducedSet(c.s), true, c.want)
	}
	for why, s := range notSets() {
		checkNoSet(t, why, impl.ReducedSet(s), false)
	}
}

func TestSameSet(t *testing.T) {
	for _, c := range []struct {
		a, b impl.OrbitSet
		want bool
	}{
		{impl.OrbitSet{}, impl.OrbitSet{}, true},
		{impl.OrbitSet{}, orbits(0, nil, ""), false},
		{impl.OrbitSet{}, orbits(1, nil), false}, // of another width
		{orbits(1, nil), orbits(2, nil), false},
		{orbits(1, nil, "0"), orbits(2, nil, "00"), false},
		{orbits(0, atoms(1, 2, 3), ""), orbits(0, atoms(4, 5, 6), ""), true},
		{orbits(2, atoms(1, 2, 3)), orbits(2, atoms(4, 5, 6)), true}, // six constants
		{orbits(1, atoms(1, 2, 3), "0", "1", "2", "3"), orbits(1, atoms(4, 5, 6), "0", "1", "2", "3"), true},
		{orbits(2, atoms(1, 2, 3), "00", "11", "22", "33"), orbits(2, atoms(4, 5, 6), "00", "11", "22", "33"), true},
		{orbits(2, atoms(1, 2, 3), "00", "11", "22"), orbits(2, atoms(4, 5, 6), "00", "11", "22"), false},
		{orbits(1, atoms(1, 2, 3), "1"), orbits(1, atoms(0, 2, 9), "1"), true},
		{orbits(1, atoms(1, 2, 3), "1"), orbits(1, atoms(0, 2, 9), "0"), false},
		{orbits(1, atoms(5), "0"), orbits(1, atoms(6), "0"), false},
		{orbits(1, atoms(5), "0"), orbits(1, atoms(5), "1"), false},
		{orbits(1, atoms(5), "0"), orbits(1, atoms(5, 6), "0"), true},
		{orbits(1, atoms(5), "0"), orbits(1, atoms(4, 5), "0"), false},
		{orbits(1, atoms(5), "0"), orbits(1, atoms(4, 5), "1"), true},
		{orbits(1, atoms(5), "0", "1"), orbits(1, nil, "0"), true},
		{orbits(2, atoms(4), "01", "10", "12"), orbits(2, nil, "01"), true},
		{orbits(2, atoms(4), "01", "12"), orbits(2, nil, "01"), false},
	} {
		if impl.SameSet(c.a, c.b) != c.want || impl.SameSet(c.b, c.a) != c.want {
			t.Errorf("%s and %s: not %v", setText(c.a), setText(c.b), c.want)
		}
	}
	for why, s := range notSets() {
		for _, other := range []impl.OrbitSet{s, {}, orbits(s.Width, s.Constants), orbits(1, atoms(4), "0")} {
			if impl.SameSet(s, other) || impl.SameSet(other, s) {
				t.Error(why)
			}
		}
	}
}

func TestCountTuples(t *testing.T) {
	for _, c := range []struct {
		s       impl.OrbitSet
		n, want int
	}{
		{impl.OrbitSet{}, 0, 0},
		{impl.OrbitSet{}, 1000, 0},
		{orbits(0, nil, ""), 0, 1},
		{orbits(0, nil, ""), 1000, 1},
		{orbits(0, atoms(1, 2), ""), 2, 1},
		{orbits(0, atoms(1, 2), ""), 1, -1},
		{orbits(1, nil, "0"), 0, 0},
		{orbits(1, nil, "0"), 1, 1},
		{orbits(1, nil, "0"), 1000, 1000},
		{orbits(1, nil, "0"), 1001, -1},
		{orbits(1, nil, "0"), -1, -1},
		{orbits(1, nil), -1, -1},
		{orbits(1, nil, "0"), math.MinInt, -1},
		{orbits(1, nil, "0"), math.MaxInt, -1},
		{orbits(1, atoms(5), "0"), 1, 1},
		{orbits(1, atoms(5), "1"), 1, 0},
		{orbits(1, atoms(5), "1"), 2, 1},
		{orbits(1, atoms(5), "1"), 0, -1},
		{orbits(1, atoms(5), "0", "1"), 0, -1}, // also if it is not needed
		{orbits(1, atoms(5, 6, 7), "1"), 2, -1},
		{orbits(1, atoms(5, 6, 7), "1"), 3, 1},
		{orbits(1, atoms(5, 6, 7)), 2, -1},
		{orbits(2, atoms(4), "01", "11"), 5, 8},
		{orbits(2, atoms(4), "01", "12"), 5, 16},
		{orbits(2, nil, "00", "01"), 7, 49},
		{orbits(4, nil, "0123"), 3, 0},
		{orbits(4, nil, "0123"), 4, 24},
		{orbits(4, nil, "0123"), 1000, 1000 * 999 * 998 * 997},
		{orbits(4, atoms(1, 2, 3), "3456"), 3, 0},
		{orbits(4, atoms(1, 2, 3), "3456"), 6, 0},
		{orbits(4, atoms(1, 2, 3), "3456"), 7, 24},
		{orbits(4, atoms(1, 2, 3), "0303", "3456"), 8, 5 + 120},
		{impl.OrbitSet{Width: 4, Constants: atoms(1, 2, 3), Patterns: patternsByHand(4, 3)}, 1000, 1000 * 1000 * 1000 * 1000},
		{impl.OrbitSet{Width: 4, Constants: atoms(1, 2, 3), Patterns: patternsByHand(4, 3)}, 3, 81},
	} {
		if got := impl.CountTuples(c.s, c.n); got != c.want {
			t.Errorf("%s, of %d: %d instead of %d", setText(c.s), c.n, got, c.want)
		}
	}
	for why, s := range notSets() {
		for n := range 8 {
			if got := impl.CountTuples(s, n); got != -1 {
				t.Errorf("%s: %d", why, got)
			}
		}
	}
}
