package tests

import (
	"fmt"
	"math/rand"
	"slices"
	"testing"

	"loop.example/g03112/impl"
)

// checkHas checks that a set has just the tuples for which has holds, also those
// of other atoms than setByHand asks for.
func checkHas(t *testing.T, random *rand.Rand, why string, s impl.OrbitSet, has func([]int) bool) {
	t.Helper()
	for range 30 {
		tuple := someTuple(random, s.Width)
		if impl.HasTuple(s, tuple) != has(tuple) {
			t.Fatalf("%s: %s, %v", why, setText(s), tuple)
		}
	}
}

// A tuple has the pattern by which it is told, whatever other atoms it has.
func TestPatternsTogether(t *testing.T) {
	random := rand.New(rand.NewSource(30))
	for range 20000 {
		constants, tuple := someConstants(random, random.Intn(4)), someTuple(random, random.Intn(5))
		p, ok := impl.PatternOf(constants, tuple)
		if !ok || !slices.Equal(p, patternByHand(constants, tuple)) {
			t.Fatalf("%v for %v: %v, %v", tuple, constants, p, ok)
		}
		s, ok := impl.SetOf(constants, len(tuple), [][]int{tuple})
		if !ok || !impl.IsOrbitSet(s) || len(s.Patterns) != 1 || !slices.Equal(s.Patterns[0], p) || !impl.HasTuple(s, tuple) {
			t.Fatalf("%v for %v: %s", tuple, constants, setText(s))
		}
		other := someTuple(random, len(tuple))
		if impl.HasTuple(s, other) != slices.Equal(p, patternByHand(constants, other)) {
			t.Fatalf("%v for %v: %v", tuple, constants, other)
		}
	}
}

// A list of few numbers is a pattern exactly if a tuple has it.
func TestPatternsAreThoseOfTuples(t *testing.T) {
	for k, constants := range [][]int{{}, {3}, {3, 4}, {3, 4, 5}} {
		for width := range impl.MaxWidth + 1 {
			all := map[string]bool{}
			for _, p := range patternsByHand(width, k) {
				all[fmt.Sprint(p)] = true
			}
			for _, p := range tuplesOf(width, atoms(-1, 0, 1, 2, 3, 4, 5, 6, 7, 8)) {
				if impl.IsOrbitSet(impl.OrbitSet{Width: width, Constants: constants, Patterns: [][]int{p}}) != all[fmt.Sprint(p)] {
					t.Fatalf("%v for %d constants", p, k)
				}
			}
		}
	}
}

func TestExamplesTogether(t *testing.T) {
	random := rand.New(rand.NewSource(31))
	for _, s := range someSets(random, 2000) {
		l := impl.ExamplesOf(s)
		if len(l) != len(s.Patterns) {
			t.Fatalf("%s: %v", setText(s), l)
		}
		numbered := withOthers(s.Constants, impl.MaxWidth)
		for i, p := range s.Patterns {
			want := []int{}
			for _, n := range p {
				want = append(want, numbered[n])
			}
			if !slices.Equal(l[i], want) || !slices.Equal(patternByHand(s.Constants, l[i]), p) {
				t.Fatalf("%s: %v instead of %v", setText(s), l[i], want)
			}
		}
		random.Shuffle(len(l), func(i, j int) { l[i], l[j] = l[j], l[i] })
		got, ok := impl.SetOf(s.Constants, s.Width, append(l, l...))
		checkSet(t, "the set of its examples", got, ok, s)
	}
}

func TestSetsWithMoreConstants(t *testing.T) {
	random := rand.New(rand.NewSource(32))
	for _, s := range someSets(random, 1500) {
		has := func(tuple []int) bool { return hasByHand(s, tuple) }
		more := joinedAtoms(s.Constants, someConstants(random, random.Intn(3)))
		got, ok := impl.ExtendSet(s, more)
		if len(more) > impl.MaxConstants {
			checkNoSet(t, setText(s), got, ok)
			continue
		}
		checkSet(t, setText(s), got, ok, setByHand(more, s.Width, has))
		checkHas(t, random, "extended", got, has)
		if setText(impl.ReducedSet(got)) != setText(impl.ReducedSet(s)) || !impl.SameSet(got, s) {
			t.Fatalf("%s is %s, with more constants", setText(s), setText(got))
		}
	}
}

func TestSetsJoined(t *testing.T) {
	random := rand.New(rand.NewSource(33))
	count := 0
	for _, a := range someSets(random, 2500) {
		b := someSet(random, a.Width)
		constants := joinedAtoms(a.Constants, b.Constants)
		both, ok := impl.UniteSets(a, b)
		meet, too := impl.MeetSets(a, b)
		if len(constants) > impl.MaxConstants {
			checkNoSet(t, "united", both, ok)
			checkNoSet(t, "met", meet, too)
			continue
		}
		count++
		inEither := func(tuple []int) bool { return hasByHand(a, tuple) || hasByHand(b, tuple) }
		inBoth := func(tuple []int) bool { return hasByHand(a, tuple) && hasByHand(b, tuple) }
		checkSet(t, setText(a)+" united with "+setText(b), both, ok, setByHand(constants, a.Width, inEither))
		checkSet(t, setText(a)+" met by "+setText(b), meet, too, setByHand(constants, a.Width, inBoth))
		checkHas(t, random, "united", both, inEither)
		checkHas(t, random, "met", meet, inBoth)
		// What is in neither is in both complements.
		neither, ok := impl.MeetSets(impl.ComplementSet(a), impl.ComplementSet(b))
		checkSet(t, "in neither", neither, ok, impl.ComplementSet(both))
	}
	if count < 1000 {
		t.Error("too few with three constants at most:", count)
	}
}

func TestComplementsTogether(t *testing.T) {
	random := rand.New(rand.NewSource(34))
	for _, s := range someSets(random, 1500) {
		out := func(tuple []int) bool { return !hasByHand(s, tuple) }
		got := impl.ComplementSet(s)
		checkSet(t, setText(s), got, true, setByHand(s.Constants, s.Width, out))
		checkHas(t, random, "the complement", got, out)
		checkSet(t, "and back", impl.ComplementSet(got), true, s)
		if impl.SameSet(s, got) {
			t.Errorf("%s is its complement", setText(s))
		}
	}
}

// placesByHand takes the atoms at the places of all tuples of few atoms.
func placesByHand(s impl.OrbitSet, places []int) impl.OrbitSet {
	found := map[string]bool{}
	for _, tuple := range tuplesOf(s.Width, withOthers(s.Constants, len(places)+s.Width)) {
		if !hasByHand(s, tuple) {
			continue
		}
		taken := []int{}
		for _, place := range places {
			taken = append(taken, tuple[place])
		}
		found[fmt.Sprint(taken)] = true
	}
	return setByHand(s.Constants, len(places), func(tuple []int) bool { return found[fmt.Sprint(tuple)] })
}

func TestPlacesTogether(t *testing.T) {
	random := rand.New(rand.NewSource(35))
	for _, s := range someSets(random, 300) {
		places := []int{}
		for s.Width > 0 && random.Intn(4) > 0 && len(places) < impl.MaxWidth {
			places = append(places, random.Intn(s.Width))
		}
		got, ok := impl.PlacesOfSet(s, places)
		checkSet(t, fmt.Sprint(setText(s), " at ", places), got, ok, placesByHand(s, places))
		all, ok := impl.PlacesOfSet(s, atoms(0, 1, 2, 3)[:s.Width])
		checkSet(t, "at all places", all, ok, s)
	}
}

func TestSetsWidened(t *testing.T) {
	random := rand.New(rand.NewSource(36))
	for _, s := range someSets(random, 1500) {
		got, ok := impl.WidenSet(s)
		if s.Width == impl.MaxWidth {
			checkNoSet(t, setText(s), got, ok)
			continue
		}
		has := func(tuple []int) bool { return hasByHand(s, tuple[:s.Width]) }
		checkSet(t, setText(s), got, ok, setByHand(s.Constants, s.Width+1, has))
		checkHas(t, random, "widened", got, has)
		back, ok := impl.PlacesOfSet(got, atoms(0, 1, 2, 3)[:s.Width])
		checkSet(t, "and back", back, ok, s)
	}
}

// someMoves is a random permutation of atoms that sets have as constants, and
// others.
func someMoves(random *rand.Rand) []impl.Pair {
	table := tableOf(nil)
	for range random.Intn(6) {
		both := someTuple(random, 2)
		table[both[0]], table[both[1]] = table[both[1]], table[both[0]]
	}
	return pairsOf(table)
}

func TestSetsActedOn(t *testing.T) {
	random := rand.New(rand.NewSource(37))
	for _, s := range someSets(random, 1500) {
		p := someMoves(random)
		table, back := tableOf(p), backOf(tableOf(p))
		has := func(tuple []int) bool {
			before := []int{}
			for _, a := range tuple {
				before = append(before, back[a])
			}
			return hasByHand(s, before)
		}
		constants := []int{}
		for _, a := range s.Constants {
			constants = append(constants, table[a])
		}
		slices.Sort(constants)
		got, ok := impl.ActOnSet(p, s)
		checkSet(t, fmt.Sprint(p, " on ", setText(s)), got, ok, setByHand(constants, s.Width, has))
		checkHas(t, random, "acted on", got, has)
		inverse, _ := impl.InversePermutation(p)
		again, ok := impl.ActOnSet(inverse, got)
		checkSet(t, "and back", again, ok, s)
		// It moves the least support as it moves the set.
		moved, _ := impl.ActOnSet(p, impl.ReducedSet(s))
		checkSet(t, "the least support", impl.ReducedSet(got), true, moved)
	}
}

// telling tells which tuples of the atoms 0 to 5 are in a set of width up to 2
// with constants among 0, 1 and 2. That is enough to tell such sets apart.
func telling(s impl.OrbitSet) string {
	bits := fmt.Sprint(s.Width, " ")
	for _, tuple := range tuplesOf(s.Width, atoms(0, 1, 2, 3, 4, 5)) {
		if hasByHand(s, tuple) {
			bits += "1"
		} else {
			bits += "0"
		}
	}
	return bits
}

// All small sets that have the same tuples come to one, with the constants that
// each of them needs, and no others do.
func TestSmallSetsReduced(t *testing.T) {
	least, tellings := map[string]string{}, map[string]string{}
	first := map[string]impl.OrbitSet{}
	merged := 0
	for _, s := range smallSets() {
		bits, r := telling(s), impl.ReducedSet(s)
		if !impl.IsOrbitSet(r) || telling(r) != bits || !slices.Equal(r.Constants, leastByHand(s)) {
			t.Fatalf("%s: %s", setText(s), setText(r))
		}
		if before, found := least[bits]; found && before != setText(r) {
			t.Fatalf("%s: %s, and %s elsewhere", setText(s), setText(r), before)
		}
		if before, found := tellings[setText(r)]; found && before != bits {
			t.Fatalf("%s: %s for other tuples", setText(s), setText(r))
		}
		if before, found := first[bits]; !found {
			first[bits] = s
		} else if merged++; !impl.SameSet(before, s) {
			t.Fatalf("%s and %s are the same", setText(before), setText(s))
		}
		least[bits], tellings[setText(r)] = setText(r), bits
	}
	if merged < 200 {
		t.Error("too few with constants that are not needed:", merged)
	}
}

func TestSmallSetsCompared(t *testing.T) {
	random := rand.New(rand.NewSource(38))
	l := smallSets()
	for i, a := range l {
		for _, b := range []impl.OrbitSet{l[random.Intn(len(l))], l[max(i-1, 0)]} {
			if want := telling(a) == telling(b); impl.SameSet(a, b) != want || impl.SameSet(b, a) != want {
				t.Fatalf("%s and %s: not %v", setText(a), setText(b), want)
			}
		}
	}
}

func TestSetsReduced(t *testing.T) {
	random := rand.New(rand.NewSource(39))
	fewer := 0
	for _, s := range someSets(random, 1000) {
		has := func(tuple []int) bool { return hasByHand(s, tuple) }
		r := impl.ReducedSet(s)
		checkSet(t, setText(s), r, true, setByHand(leastByHand(s), s.Width, has))
		checkHas(t, random, "reduced", r, has)
		checkSet(t, "reduced again", impl.ReducedSet(r), true, r)
		if len(r.Constants) < len(s.Constants) {
			fewer++
		}
		// The same set with other constants that it does not need.
		more := joinedAtoms(r.Constants, atoms(3, 5, 998)[:random.Intn(impl.MaxConstants+1-len(r.Constants))])
		if other, ok := impl.ExtendSet(r, more); !ok || !impl.SameSet(s, other) || !impl.SameSet(other, s) {
			t.Fatalf("%s and %s are the same", setText(s), setText(other))
		}
	}
	if fewer < 300 {
		t.Error("too few with constants that are not needed:", fewer)
	}
}

// Sets with up to six constants together are compared by all their tuples.
func TestSetsCompared(t *testing.T) {
	random := rand.New(rand.NewSource(40))
	same := 0
	for _, a := range someSets(random, 1500) {
		b := someSet(random, a.Width)
		all := tuplesOf(a.Width, withOthers(joinedAtoms(a.Constants, b.Constants), a.Width))
		want := !slices.ContainsFunc(all, func(tuple []int) bool { return hasByHand(a, tuple) != hasByHand(b, tuple) })
		if impl.SameSet(a, b) != want {
			t.Fatalf("%s and %s: not %v", setText(a), setText(b), want)
		}
		if want {
			same++
		}
	}
	if same < 100 {
		t.Error("too few that are the same:", same)
	}
}

func TestTuplesCounted(t *testing.T) {
	random := rand.New(rand.NewSource(41))
	for _, s := range someSets(random, 700) {
		for n := range 9 {
			want := -1
			if n >= len(s.Constants) {
				want = 0
				for _, tuple := range tuplesOf(s.Width, withOthers(s.Constants, n-len(s.Constants))) {
					if hasByHand(s, tuple) {
						want++
					}
				}
			}
			if got := impl.CountTuples(s, n); got != want {
				t.Fatalf("%s, of %d: %d instead of %d", setText(s), n, got, want)
			}
		}
		if n := impl.MaxCount; impl.CountTuples(s, n)+impl.CountTuples(impl.ComplementSet(s), n) != []int{1, n, n * n, n * n * n, n * n * n * n}[s.Width] {
			t.Fatalf("%s and its complement are not all tuples", setText(s))
		}
	}
}

// A formula holds for what it holds for among a few atoms, of which there are
// enough; and its set has these tuples.
func TestFormulasTogether(t *testing.T) {
	random := rand.New(rand.NewSource(42))
	counts := [2]int{}
	for range 3000 {
		width, of := random.Intn(impl.MaxWidth+1), someConstants(random, random.Intn(4))
		f := someFormula(random, width, 2+random.Intn(5), of)
		if !impl.IsFormula(f, width) {
			t.Fatalf("%v is valid", f)
		}
		s, ok := impl.SetOfFormula(f, width)
		if !ok || !impl.IsOrbitSet(s) || s.Width != width || !slices.Equal(s.Constants, atomsOfFormula(f)) {
			t.Fatalf("%v: %s, %v", f, setText(s), ok)
		}
		for range 12 {
			tuple := someTuple(random, width)
			want := holdsByHand(f, tuple, enoughFor(f, tuple))
			if impl.HoldsFormula(f, tuple) != want || impl.HasTuple(s, tuple) != want {
				t.Fatalf("%v for %v: not %v", f, tuple, want)
			}
			if want {
				counts[1]++
			} else {
				counts[0]++
			}
		}
	}
	if counts[0] < 5000 || counts[1] < 5000 {
		t.Error("too few that hold, or do not:", counts)
	}
}

// The parts of a formula are the operations on sets.
func TestFormulasAreSets(t *testing.T) {
	random := rand.New(rand.NewSource(43))
	for range 1500 {
		width, of := 1+random.Intn(3), someConstants(random, random.Intn(4))
		f, g := someFormula(random, width, 3, of), someFormula(random, width, 3, of)
		setOf := func(f impl.Formula, width int) impl.OrbitSet {
			s, ok := impl.SetOfFormula(f, width)
			if !ok {
				t.Fatalf("%v: no set", f)
			}
			return s
		}
		a, b := setOf(f, width), setOf(g, width)
		both, ok := impl.UniteSets(a, b)
		checkSet(t, "or", both, ok, setOf(foOr(f, g), width))
		meet, ok := impl.MeetSets(a, b)
		checkSet(t, "and", meet, ok, setOf(foAnd(f, g), width))
		checkSet(t, "not", impl.ComplementSet(a), true, setOf(foNot(f), width))
		behind := someFormula(random, width+1, 3, of)
		s := setOf(behind, width+1)
		front, ok := impl.PlacesOfSet(s, atoms(0, 1, 2)[:width])
		checkSet(t, "some", front, ok, setOf(foSome(behind), width))
		without, _ := impl.PlacesOfSet(impl.ComplementSet(s), atoms(0, 1, 2)[:width])
		checkSet(t, "all", impl.ComplementSet(without), true, setOf(foAll(behind), width))
	}
}
