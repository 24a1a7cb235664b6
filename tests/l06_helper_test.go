package tests

import (
	"fmt"
	"maps"
	"math"
	"math/rand"
	"slices"
	"strconv"
	"testing"

	"loop.example/g03112/impl"
)

func atoms(l ...int) []int {
	return l
}

// orbits is the set with the patterns, each told by its digits.
func orbits(width int, constants []int, patterns ...string) impl.OrbitSet {
	return impl.OrbitSet{Width: width, Constants: constants, Patterns: digits(patterns...)}
}

// digits are lists of numbers, each told by its digits.
func digits(texts ...string) [][]int {
	l := [][]int{}
	for _, text := range texts {
		numbers := []int{}
		for _, c := range text {
			numbers = append(numbers, int(c-'0'))
		}
		l = append(l, numbers)
	}
	return l
}

func setText(s impl.OrbitSet) string {
	return fmt.Sprint(s.Width, s.Constants, s.Patterns)
}

var noSet = setText(impl.OrbitSet{})

func checkSet(t *testing.T, why string, got impl.OrbitSet, ok bool, want impl.OrbitSet) {
	t.Helper()
	if !ok || setText(got) != setText(want) {
		t.Errorf("%s: %s, %v instead of %s", why, setText(got), ok, setText(want))
	}
}

func checkNoSet(t *testing.T, why string, got impl.OrbitSet, ok bool) {
	t.Helper()
	if ok || setText(got) != noSet {
		t.Errorf("%s: %s, %v", why, setText(got), ok)
	}
}

// notConstants tells, for each way in which a list can fail to be constants, one
// that fails in this way alone.
func notConstants() map[string][]int {
	l := map[string][]int{
		"four atoms":       atoms(0, 1, 2, 3),
		"one twice":        atoms(4, 4),
		"twice of three":   atoms(1, 4, 4),
		"descending":       atoms(5, 4),
		"descending later": atoms(1, 5, 4),
		"many":             slices.Repeat(atoms(0), 100000),
	}
	for _, a := range notAtoms {
		l["the number "+strconv.Itoa(a)] = atoms(a)
	}
	l["-1 in front"], l["1000 behind"] = atoms(-1, 0), atoms(0, 1, 1000)
	return l
}

// notTuples tells, for each way in which a list can fail to be a tuple, one that
// fails in this way alone.
func notTuples() map[string][]int {
	l := map[string][]int{"five atoms": atoms(0, 1, 0, 1, 0), "many": slices.Repeat(atoms(7), 100000)}
	for _, a := range notAtoms {
		l["the number "+strconv.Itoa(a)] = atoms(a)
		l["in front the number "+strconv.Itoa(a)] = atoms(a, 0, 0, 0)
		l["behind the number "+strconv.Itoa(a)] = atoms(0, 0, 0, a)
	}
	return l
}

// notSets tells, for each way in which a value can fail to be a valid orbit set,
// one that fails in this way alone where that is possible.
func notSets() map[string]impl.OrbitSet {
	l := map[string]impl.OrbitSet{
		"width -1":                     orbits(-1, nil),
		"width 5":                      orbits(5, nil),
		"width 5 with a pattern":       orbits(5, nil, "00000"),
		"the least width":              orbits(math.MinInt, nil),
		"the greatest width":           orbits(math.MaxInt, nil),
		"a number too few":             orbits(2, atoms(4), "0"),
		"a number too many":            orbits(2, atoms(4), "000"),
		"no number":                    orbits(1, nil, ""),
		"numbers with width 0":         orbits(0, nil, "0"),
		"one of another width behind":  orbits(2, nil, "00", "1"),
		"the number -1":                {Width: 1, Patterns: [][]int{{-1}}},
		"the least number":             {Width: 2, Patterns: [][]int{{0, math.MinInt}}},
		"the greatest number":          {Width: 2, Patterns: [][]int{{math.MaxInt, 0}}},
		"a first atom with number 1":   orbits(1, nil, "1"),
		"one number left out":          orbits(3, nil, "002"),
		"one left out with a constant": orbits(2, atoms(4), "02"),
		"left out with three":          orbits(2, atoms(1, 2, 4), "05"),
		"left out at first":            orbits(2, atoms(4), "21"),
		"left out at last":             orbits(4, nil, "0113"),
		"eight in base eight":          {Width: 2, Patterns: [][]int{{0, 8}}},
		"one pattern twice":            orbits(2, nil, "00", "00"),
		"the empty one twice":          orbits(0, nil, "", ""),
		"descending":                   orbits(2, nil, "01", "00"),
		"descending in front":          orbits(2, atoms(4), "10", "01"),
		"descending at last":           orbits(2, atoms(4), "00", "11", "10"),
		"a bad one behind":             orbits(2, nil, "00", "02"),
	}
	for why, constants := range notConstants() {
		l["constants: "+why] = orbits(1, constants)
		l["with a pattern, constants: "+why] = orbits(1, constants, "0")
	}
	return l
}

// patternByHand goes by the words of the document.
func patternByHand(constants, tuple []int) []int {
	p := []int{}
	for _, a := range tuple {
		n := slices.Index(constants, a)
		if n < 0 {
			before := map[int]bool{}
			for _, b := range tuple[:slices.Index(tuple, a)] {
				if !slices.Contains(constants, b) {
					before[b] = true
				}
			}
			n = len(constants) + len(before)
		}
		p = append(p, n)
	}
	return p
}

func hasByHand(s impl.OrbitSet, tuple []int) bool {
	p := patternByHand(s.Constants, tuple)
	return slices.ContainsFunc(s.Patterns, func(q []int) bool { return slices.Equal(p, q) })
}

// tuplesOf are all tuples of a width with the given atoms.
func tuplesOf(width int, of []int) [][]int {
	tuples := [][]int{{}}
	for range width {
		longer := [][]int{}
		for _, tuple := range tuples {
			for _, a := range of {
				longer = append(longer, append(slices.Clone(tuple), a))
			}
		}
		tuples = longer
	}
	return tuples
}

// withOthers are the atoms, each once, and count others.
func withOthers(l []int, count int) []int {
	all := []int{}
	for _, a := range l {
		if !slices.Contains(all, a) {
			all = append(all, a)
		}
	}
	for a := 0; count > 0; a++ {
		if !slices.Contains(all, a) {
			all = append(all, a)
			count--
		}
	}
	return all
}

// setByHand is the set, told by the constants, of the tuples for which has
// holds. As it is asked for tuples of few atoms alone, it must not depend on
// which the other ones are.
func setByHand(constants []int, width int, has func([]int) bool) impl.OrbitSet {
	patterns := map[string][]int{}
	for _, tuple := range tuplesOf(width, withOthers(constants, width)) {
		if has(tuple) {
			p := patternByHand(constants, tuple)
			patterns[fmt.Sprint(p)] = p
		}
	}
	return impl.OrbitSet{Width: width, Constants: constants, Patterns: slices.SortedFunc(maps.Values(patterns), slices.Compare)}
}

// patternsByHand are all patterns with width numbers for k constants.
func patternsByHand(width, k int) [][]int {
	constants := atoms(0, 1, 2)[:k]
	return setByHand(constants, width, func([]int) bool { return true }).Patterns
}

// joinedAtoms are the atoms of both, in order.
func joinedAtoms(l, m []int) []int {
	all := append(slices.Clone(l), m...)
	slices.Sort(all)
	return slices.Compact(all)
}

// likelyAtoms are those that random sets have as constants.
var likelyAtoms = []int{0, 1, 2, 4, 7, 999}

// someConstants are count random ones, in order.
func someConstants(random *rand.Rand, count int) []int {
	l := []int{}
	for _, i := range random.Perm(len(likelyAtoms))[:count] {
		l = append(l, likelyAtoms[i])
	}
	slices.Sort(l)
	return l
}

// someSet is a random one. Now and then it has constants that it does not need.
func someSet(random *rand.Rand, width int) impl.OrbitSet {
	constants := someConstants(random, random.Intn(impl.MaxConstants+1))
	s := impl.OrbitSet{Width: width, Constants: slices.Clone(constants[:random.Intn(len(constants)+1)])}
	share := random.Intn(9)
	for _, p := range patternsByHand(width, len(s.Constants)) {
		if random.Intn(8) < share {
			s.Patterns = append(s.Patterns, p)
		}
	}
	return setByHand(constants, width, func(tuple []int) bool { return hasByHand(s, tuple) })
}

func someSets(random *rand.Rand, count int) []impl.OrbitSet {
	l := []impl.OrbitSet{{}}
	for len(l) < count {
		l = append(l, someSet(random, random.Intn(impl.MaxWidth+1)))
	}
	return l
}

// smallSets are all sets of width up to 2 with constants among 0, 1 and 2, up to
// two of them.
func smallSets() []impl.OrbitSet {
	l := []impl.OrbitSet{}
	for width := range 3 {
		for _, constants := range [][]int{nil, {0}, {1}, {2}, {0, 1}, {0, 2}, {1, 2}} {
			patterns := patternsByHand(width, len(constants))
			for chosen := range 1 << len(patterns) {
				s := impl.OrbitSet{Width: width, Constants: slices.Clone(constants)}
				for i, p := range patterns {
					if chosen>>i&1 == 1 {
						s.Patterns = append(s.Patterns, slices.Clone(p))
					}
				}
				l = append(l, s)
			}
		}
	}
	return l
}

// someTuple is a random one of atoms that sets have as constants, and others.
func someTuple(random *rand.Rand, width int) []int {
	l := []int{}
	for range width {
		a := likelyAtoms[random.Intn(len(likelyAtoms))]
		if random.Intn(2) == 0 {
			a = atoms(3, 5, 998, 500)[random.Intn(4)]
		}
		l = append(l, a)
	}
	return l
}

// changedBy reports whether exchanging two atoms makes another set of it.
func changedBy(s impl.OrbitSet, a, b int) bool {
	for _, tuple := range tuplesOf(s.Width, withOthers(append(slices.Clone(s.Constants), a, b), s.Width)) {
		other := []int{}
		for _, c := range tuple {
			other = append(other, swappedAtom(c, a, b))
		}
		if hasByHand(s, tuple) != hasByHand(s, other) {
			return true
		}
	}
	return false
}

// leastByHand are the constants that a set needs: those that cannot be exchanged
// with an atom that is none.
func leastByHand(s impl.OrbitSet) []int {
	other := withOthers(s.Constants, 1)[len(s.Constants)]
	return slices.DeleteFunc(slices.Clone(s.Constants), func(a int) bool { return !changedBy(s, a, other) })
}

func foSame(a, b int) impl.Formula {
	return impl.Formula{Op: impl.FoSame, A: a, B: b}
}

func foIs(a, b int) impl.Formula {
	return impl.Formula{Op: impl.FoIs, A: a, B: b}
}

func foNot(kids ...impl.Formula) impl.Formula {
	return impl.Formula{Op: impl.FoNot, Kids: kids}
}

func foAnd(kids ...impl.Formula) impl.Formula {
	return impl.Formula{Op: impl.FoAnd, Kids: kids}
}

func foOr(kids ...impl.Formula) impl.Formula {
	return impl.Formula{Op: impl.FoOr, Kids: kids}
}

func foSome(kids ...impl.Formula) impl.Formula {
	return impl.Formula{Op: impl.FoSome, Kids: kids}
}

func foAll(kids ...impl.Formula) impl.Formula {
	return impl.Formula{Op: impl.FoAll, Kids: kids}
}

// notOf puts count negations around a formula.
func notOf(count int, f impl.Formula) impl.Formula {
	for range count {
		f = foNot(f)
	}
	return f
}

// formulaInItself is one whose kids are kept in the list in which it lies
// itself.
func formulaInItself(op, count int) impl.Formula {
	kids := make([]impl.Formula, count)
	for i := range kids {
		kids[i] = impl.Formula{Op: op, Kids: kids}
	}
	return kids[0]
}

// anAtom is a formula without variables, of one atom.
func anAtom(b int) impl.Formula {
	return foSome(foIs(0, b))
}

// notFormulas tells, for each way in which a value can fail to be a valid
// formula, one that fails in this way alone for the width 2.
func notFormulas() map[string]impl.Formula {
	good := foSame(0, 1)
	l := map[string]impl.Formula{
		"the zero value":              {},
		"another Op":                  {Op: 8, Kids: []impl.Formula{good}},
		"an Op below all":             {Op: -1},
		"the least Op":                {Op: math.MinInt},
		"FoSame with kids":            {Op: impl.FoSame, Kids: []impl.Formula{good}},
		"FoIs with kids":              {Op: impl.FoIs, Kids: []impl.Formula{good}},
		"FoNot without a kid":         foNot(),
		"FoNot with two":              foNot(good, good),
		"FoAnd without a kid":         foAnd(),
		"FoAnd with one":              foAnd(good),
		"FoAnd with three":            foAnd(good, good, good),
		"FoOr without a kid":          foOr(),
		"FoOr with one":               foOr(good),
		"FoOr with three":             foOr(good, good, good),
		"FoSome without a kid":        foSome(),
		"FoSome with two":             foSome(good, good),
		"FoAll without a kid":         foAll(),
		"FoAll with two":              foAll(good, good),
		"a variable that is not new":  foSome(foSame(0, 3)),
		"a variable of another one":   foAnd(foSome(foSame(0, 2)), foSame(0, 2)),
		"a variable further in":       foAll(foSome(foIs(4, 0))),
		"a fifth variable":            foSome(foSome(foSome(good))),
		"a fifth variable for all":    foAll(foAll(foAll(good))),
		"a bad kid in front":          foAnd(foSame(0, 2), good),
		"a bad kid behind":            foOr(good, foSame(2, 0)),
		"a bad kid alone":             foNot(foIs(0, -1)),
		"depth 7":                     notOf(6, good),
		"depth 7 at one side":         foAnd(good, foOr(good, notOf(4, good))),
		"depth 7 with a new variable": foSome(notOf(5, good)),
		"four atoms":                  foOr(foOr(foIs(0, 0), foIs(0, 1)), foOr(foIs(0, 2), foIs(0, 3))),
		"four atoms further in":       foAnd(foIs(0, 0), foSome(foOr(foIs(2, 1), foAll(foOr(foIs(1, 2), foIs(1, 999)))))),
		"four atoms without variable": foAnd(foAnd(anAtom(3), anAtom(1)), foAnd(anAtom(0), anAtom(2))),
		"a negation in itself":        formulaInItself(impl.FoNot, 1),
		"a FoAnd in itself":           formulaInItself(impl.FoAnd, 2),
		"a FoSome in itself":          formulaInItself(impl.FoSome, 1),
		"a kid that is none":          foNot(impl.Formula{}),
	}
	for _, n := range atoms(-1, 2, math.MinInt, math.MaxInt) {
		l["FoSame with A "+strconv.Itoa(n)] = foSame(n, 0)
		l["FoSame with B "+strconv.Itoa(n)] = foSame(0, n)
		l["FoIs with A "+strconv.Itoa(n)] = foIs(n, 0)
	}
	for _, a := range notAtoms {
		l["FoIs with B "+strconv.Itoa(a)] = foIs(0, a)
	}
	for _, f := range []impl.Formula{foNot(good), foAnd(good, good), foOr(good, good), foSome(good), foAll(good)} {
		withA, withB := f, f
		withA.A, withB.B = 1, -1
		l["A of Op "+strconv.Itoa(f.Op)], l["B of Op "+strconv.Itoa(f.Op)] = withA, withB
	}
	return l
}

// holdsByHand goes through all the given atoms, which must be the constants of
// the formula, those of the tuple, and at least one more for each quantifier.
func holdsByHand(f impl.Formula, tuple []int, all []int) bool {
	kid := func(i int) bool { return holdsByHand(f.Kids[i], tuple, all) }
	count := 0
	if f.Op == impl.FoSome || f.Op == impl.FoAll {
		for _, a := range all {
			if holdsByHand(f.Kids[0], append(slices.Clone(tuple), a), all) {
				count++
			}
		}
	}
	switch f.Op {
	case impl.FoSame:
		return tuple[f.A] == tuple[f.B]
	case impl.FoIs:
		return tuple[f.A] == f.B
	case impl.FoNot:
		return !kid(0)
	case impl.FoAnd:
		return kid(0) && kid(1)
	case impl.FoOr:
		return kid(0) || kid(1)
	case impl.FoSome:
		return count > 0
	}
	return count == len(all)
}

// atomsOfFormula are the atoms of FoIs in it, in order.
func atomsOfFormula(f impl.Formula) []int {
	l := []int{}
	if f.Op == impl.FoIs {
		l = append(l, f.B)
	}
	for _, kid := range f.Kids {
		l = joinedAtoms(l, atomsOfFormula(kid))
	}
	return l
}

// enoughFor are atoms enough to tell by hand whether a formula holds.
func enoughFor(f impl.Formula, tuple []int) []int {
	return withOthers(append(atomsOfFormula(f), tuple...), impl.MaxWidth+1)
}

// someFormula is a random one for the width, with a depth of at most most and
// atoms among those given. Without variables none has the depth 1.
func someFormula(random *rand.Rand, width, most int, of []int) impl.Formula {
	kid := func(wider int) impl.Formula { return someFormula(random, width+wider, most-1, of) }
	op := 1 + random.Intn(7)
	switch {
	case width == 0 && most == 2:
		op = impl.FoSome + random.Intn(2)
	case width == 0:
		op = impl.FoNot + random.Intn(5)
	case most == 1:
		op = impl.FoSame + random.Intn(2)
	}
	if op >= impl.FoSome && width == impl.MaxWidth || op == impl.FoIs && len(of) == 0 {
		op = impl.FoSame
	}
	switch op {
	case impl.FoSame:
		return foSame(random.Intn(width), random.Intn(width))
	case impl.FoIs:
		return foIs(random.Intn(width), of[random.Intn(len(of))])
	case impl.FoNot:
		return foNot(kid(0))
	case impl.FoAnd, impl.FoOr:
		return impl.Formula{Op: op, Kids: []impl.Formula{kid(0), kid(0)}}
	}
	return impl.Formula{Op: op, Kids: []impl.Formula{kid(1)}}
}
