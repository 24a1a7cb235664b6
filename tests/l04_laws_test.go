package tests

import (
	"math/rand"
	"slices"
	"testing"

	"loop.example/g03112/impl"
)

// smallSides are all terms with at most 3 nodes, of few atoms and symbols, and
// of two holes.
func smallSides() []impl.Term {
	leaves := []impl.Term{atom(0), atom(1), hole(0), hole(0, impl.SwapOf(0, 1)...), hole(0, rotation(0, 3)...), hole(1)}
	return slices.Concat(leaves, smallFrom(leaves, 2), smallFrom(leaves, 3))
}

// smallInstances are ground substitutions for two holes.
func smallInstances() [][]impl.Binding {
	l := [][]impl.Binding{}
	grounds := slices.Concat(smallTerms(1), smallTerms(2))
	for _, u := range grounds {
		for _, v := range grounds {
			l = append(l, []impl.Binding{{Hole: 0, Term: u}, {Hole: 1, Term: v}})
		}
	}
	return l
}

// instancesOf numbers, for each term, what the substitutions make of it, told
// without names: what is equal up to renaming has the same number.
func instancesOf(l []impl.Term, all [][]impl.Binding) [][]int {
	numbers := map[string]int{}
	table := [][]int{}
	for _, x := range l {
		row := []int{}
		for _, s := range all {
			text := namelessAlone(filled(x, byHole(s)))
			if _, found := numbers[text]; !found {
				numbers[text] = len(numbers)
			}
			row = append(row, numbers[text])
		}
		table = append(table, row)
	}
	return table
}

// Of all small terms, each two are unified: the ground substitutions that make
// them equal are exactly those that come of the solution.
func TestGroundSolutionsOfSmallTerms(t *testing.T) {
	sides, all := smallSides(), smallInstances()
	instances := instancesOf(sides, all)
	count := 0
	for i, s := range sides {
		for j, u := range sides {
			x, code := impl.UnifyTerms(s, u)
			if code == impl.UnFine && !impl.HoldsFor(equation(s, u), x) {
				t.Fatalf("%s and %s: %s does not hold", impl.FormatTerm(s), impl.FormatTerm(u), answer(x, code))
			}
			if code == impl.UnFine {
				count++
			}
			for k, l := range all {
				equal := instances[i][k] == instances[j][k]
				// Of those that do not make them equal, some will do.
				if !equal && (code != impl.UnFine || (i+j+k)%37 > 0) {
					continue
				}
				if code != impl.UnFine || impl.ComesOf(x, l) != equal {
					t.Fatalf("%s and %s: %s, but %v", impl.FormatTerm(s), impl.FormatTerm(u), answer(x, code), l)
				}
			}
		}
	}
	if count < 1000 {
		t.Error("too few that are solved:", count)
	}
}

// solvedProblem is a random problem with one of its ground solutions, for all of
// its holes.
func solvedProblem(random *rand.Rand) ([]impl.Equation, []impl.Binding) {
	by := map[int]impl.Term{}
	l := []impl.Equation{}
	for range 1 + random.Intn(4) {
		x := someTerm(random, 1+random.Intn(12), false)
		y := variant(random, x, false)
		l = append(l, impl.Equation{Left: punched(random, x, by), Right: punched(random, y, by)})
	}
	s := []impl.Binding{}
	for n := range impl.MaxHole + 1 {
		if u, found := by[n]; found {
			s = append(s, impl.Binding{Hole: n, Term: u})
		}
	}
	return l, s
}

// solves reports, without the functions of the program, whether a ground
// substitution makes the sides of each equation equal up to renaming.
func solves(l []impl.Equation, s []impl.Binding) bool {
	by := byHole(s)
	return !slices.ContainsFunc(l, func(e impl.Equation) bool {
		return namelessAlone(filled(e.Left, by)) != namelessAlone(filled(e.Right, by))
	})
}

// comes reports, without the functions of the program, whether a ground
// substitution comes of a solution.
func comes(x impl.Solution, s []impl.Binding) bool {
	by := byHole(s)
	return meets(x.Context, s) && !slices.ContainsFunc(s, func(b impl.Binding) bool {
		general := filled(hole(b.Hole), byHole(x.Subst))
		return namelessAlone(filled(general, by)) != namelessAlone(b.Term)
	})
}

// spoilt is the substitution with something else for one hole.
func spoilt(random *rand.Rand, s []impl.Binding) []impl.Binding {
	other := slices.Clone(s)
	if len(s) > 0 {
		b := &other[random.Intn(len(s))]
		b.Term = []impl.Term{someGround(random), actedByTable(tableOf(impl.SwapOf(0, 1)), b.Term), variant(random, b.Term, true)}[random.Intn(3)]
	}
	return other
}

// Each ground solution comes of the solution, and what is no ground solution
// does not.
func TestGroundSolutionsComeOfIt(t *testing.T) {
	random := rand.New(rand.NewSource(16))
	count, others, needed := 0, 0, 0
	for range 6000 {
		l, s := solvedProblem(random)
		x, code := impl.SolveProblem(l)
		if code != impl.UnFine || !impl.HoldsFor(l, x) || !impl.ComesOf(x, s) || !comes(x, s) {
			t.Fatalf("%s: %s, but %v", problemText(l), answer(x, code), s)
		}
		if len(x.Context) > 0 {
			needed++
		}
		for range 5 {
			other := spoilt(random, s)
			want := solves(l, other)
			if impl.ComesOf(x, other) != want || comes(x, other) != want {
				t.Fatalf("%s: %s, but %v", problemText(l), answer(x, code), other)
			}
			if want {
				count++
			} else {
				others++
			}
		}
	}
	if count < 2000 || others < 2000 || needed < 500 {
		t.Error("too few ground solutions, or others, or contexts:", count, others, needed)
	}
}

// A solution holds: what its instances that meet its context make of all holes
// solves the problem.
func TestInstancesOfSolutions(t *testing.T) {
	random := rand.New(rand.NewSource(17))
	count := 0
	for range 6000 {
		l, _ := solvedProblem(random)
		x, _ := impl.SolveProblem(l)
		for range 4 {
			s := groundForAll(random)
			if !meets(x.Context, s) {
				continue
			}
			all := []impl.Binding{}
			for n := range impl.MaxHole + 1 {
				all = append(all, impl.Binding{Hole: n, Term: filled(filled(hole(n), byHole(x.Subst)), byHole(s))})
			}
			if !solves(l, all) {
				t.Fatalf("%s: %s, but not with %v", problemText(l), impl.FormatSolution(x), s)
			}
			count++
		}
	}
	if count < 5000 {
		t.Error("too few instances:", count)
	}
}

// someProblem is a random problem, which may have solutions or not; now and then
// it has large terms, or moves many atoms.
func someProblem(random *rand.Rand) []impl.Equation {
	l, _ := solvedProblem(random)
	for i := range l {
		switch random.Intn(6) {
		case 0:
			l[i].Right = holeVariant(random, l[i].Left)
		case 1:
			l[i].Right = fewHoles(someTerm(random, 6, true), 4)
		case 2:
			l[i].Left = holeVariant(random, l[i].Left)
		case 3:
			l[i] = impl.Equation{Left: hole(random.Intn(4)), Right: under(random.Intn(40), l[i].Right)}
		case 4:
			n := random.Intn(4)
			l[i] = impl.Equation{Left: node(2, l[i].Left, hole(n, rotation(2, 40)...)), Right: node(2, l[i].Right, hole(n))}
		}
	}
	return slices.DeleteFunc(l, func(e impl.Equation) bool { return sizeOf(e.Left) > impl.MaxTerm || sizeOf(e.Right) > impl.MaxTerm })
}

func TestSolvedStepByStep(t *testing.T) {
	random := rand.New(rand.NewSource(18))
	counts := map[int]int{}
	for range 10000 {
		l := someProblem(random)
		want, wantCode := solvedStepwise(l)
		x, code := impl.SolveProblem(l)
		if code != wantCode || !sameBindings(x.Subst, want.Subst) || !slices.Equal(x.Context, want.Context) {
			t.Fatalf("%s: %s instead of %s", problemText(l), answer(x, code), answer(want, wantCode))
		}
		counts[code]++
		if len(l) == 1 {
			one, oneCode := impl.UnifyTerms(l[0].Left, l[0].Right)
			if answer(one, oneCode) != answer(x, code) {
				t.Fatalf("%s: %s", problemText(l), answer(one, oneCode))
			}
		}
	}
	for code := impl.UnClash; code <= impl.UnOver; code++ {
		if counts[code] < 50 {
			t.Error("too few with a code:", code, counts)
		}
	}
}

// To match is to unify with what has no holes.
func TestMatchedGroundTerms(t *testing.T) {
	random := rand.New(rand.NewSource(19))
	count := 0
	for range 4000 {
		g := someTerm(random, 1+random.Intn(20), false)
		by := map[int]impl.Term{}
		pattern := punched(random, variant(random, g, random.Intn(3) == 0), by)
		x, code := impl.MatchTerms(pattern, g)
		want, wantCode := impl.UnifyTerms(pattern, g)
		if answer(x, code) != answer(want, wantCode) {
			t.Fatalf("%s and %s: %s instead of %s", impl.FormatTerm(pattern), impl.FormatTerm(g), answer(x, code), answer(want, wantCode))
		}
		if code != impl.UnFine {
			continue
		}
		count++
		// What is matched is known of all holes of the pattern.
		made, ok := impl.ApplySubstitution(x.Subst, pattern)
		if !ok || !impl.AlphaEqual(made, g) || len(x.Context) > 0 {
			t.Fatalf("%s and %s: %s", impl.FormatTerm(pattern), impl.FormatTerm(g), answer(x, code))
		}
	}
	if count < 2000 {
		t.Error("too few that match:", count)
	}
}
