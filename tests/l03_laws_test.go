package tests

import (
	"math/rand"
	"slices"
	"testing"

	"loop.example/g03112/impl"
)

// smallWithHoles are all terms with at most 3 nodes, of few atoms and symbols,
// and of two holes, of which the first one has every Perm of these atoms.
func smallWithHoles() []impl.Term {
	leaves := []impl.Term{atom(0), atom(1), atom(2), hole(1)}
	for _, p := range [][]int{{}, {0, 1, 1, 0}, {0, 2, 2, 0}, {1, 2, 2, 1}, {0, 1, 1, 2, 2, 0}, {0, 2, 1, 0, 2, 1}} {
		leaves = append(leaves, hole(0, pairs(p...)...))
	}
	return slices.Concat(leaves, smallFrom(leaves, 2), smallFrom(leaves, 3))
}

func checkNeeds(t *testing.T, why string, got []impl.Fresh, ok bool, want []impl.Fresh, is bool) {
	t.Helper()
	if len(want) > impl.MaxFresh {
		want, is = nil, false
	}
	if ok != is || !slices.Equal(got, want) {
		t.Fatalf("%s: %v, %v instead of %v, %v", why, got, ok, want, is)
	}
}

// checkFreshNeeds judges by instances: the atom must not be free in them.
func checkFreshNeeds(t *testing.T, a int, x impl.Term) {
	t.Helper()
	want, is := neededFor(holesWithin(x), probes, func(by map[int]impl.Term) bool {
		return !slices.Contains(freeIn(filled(x, by)), a)
	})
	got, ok := impl.FreshNeeds(a, x)
	checkNeeds(t, impl.FormatTerm(x), got, ok, want, is)
}

// checkEqualByInstances judges by instances, told without names. It reports
// whether there is a least context.
func checkEqualByInstances(t *testing.T, x, y impl.Term) bool {
	t.Helper()
	want, is := neededFor(holesWithin(x, y), probes, func(by map[int]impl.Term) bool {
		return namelessAlone(filled(x, by)) == namelessAlone(filled(y, by))
	})
	got, ok := impl.EqualNeeds(x, y)
	checkNeeds(t, impl.FormatTerm(x)+" and "+impl.FormatTerm(y), got, ok, want, is)
	got, ok = impl.EqualNeeds(y, x)
	checkNeeds(t, impl.FormatTerm(y)+" and "+impl.FormatTerm(x), got, ok, want, is)
	return ok
}

func TestFreshNeedsByInstances(t *testing.T) {
	for _, x := range slices.Concat(smallWithHoles(), someWithHoles(rand.New(rand.NewSource(6)), 1500)) {
		for a := range 4 {
			checkFreshNeeds(t, a, x)
		}
	}
}

// Of all small terms, each two are compared, by instances that are told without
// names once for each term.
func TestEqualNeedsOfSmallTerms(t *testing.T) {
	l := smallWithHoles()
	instances := [][]string{}
	for _, x := range l {
		texts := []string{}
		neededFor([]int{0, 1}, []int{0, 1, 2, 3}, func(by map[int]impl.Term) bool {
			texts = append(texts, namelessAlone(filled(x, by)))
			return true
		})
		instances = append(instances, texts)
	}
	for i, x := range l {
		for j, y := range l {
			place := -1
			want, is := neededFor([]int{0, 1}, []int{0, 1, 2, 3}, func(map[int]impl.Term) bool {
				place++
				return instances[i][place] == instances[j][place]
			})
			got, ok := impl.EqualNeeds(x, y)
			if ok != is || !slices.Equal(got, want) {
				t.Fatalf("%s and %s: %v, %v instead of %v, %v", impl.FormatTerm(x), impl.FormatTerm(y), got, ok, want, is)
			}
		}
	}
}

func TestEqualNeedsByInstances(t *testing.T) {
	random := rand.New(rand.NewSource(7))
	count := 0
	for _, x := range someWithHoles(random, 1500) {
		for range 2 {
			y := holeVariant(random, x)
			if checkEqualByInstances(t, x, y) && !same(x, y) {
				count++
			}
		}
	}
	if count < 500 {
		t.Error("too few that are equal with a context:", count)
	}
}

// meets reports whether what a substitution has for the holes is as a context
// says.
func meets(l []impl.Fresh, s []impl.Binding) bool {
	by := byHole(s)
	return !slices.ContainsFunc(l, func(x impl.Fresh) bool {
		return slices.Contains(freeIn(by[x.Hole]), x.Atom)
	})
}

// groundForAll binds all holes to ground terms with few atoms.
func groundForAll(random *rand.Rand) []impl.Binding {
	l := []impl.Binding{}
	for n := range impl.MaxHole + 1 {
		l = append(l, impl.Binding{Hole: n, Term: someGround(random)})
	}
	return l
}

// What is judged with the least context holds for exactly the instances that
// meet it: the functions of the program among themselves.
func TestInstancesThatMeet(t *testing.T) {
	random := rand.New(rand.NewSource(8))
	met, not := 0, 0
	for _, x := range someWithHoles(random, 3000) {
		y := holeVariant(random, x)
		equalNeeds, equal := impl.EqualNeeds(x, y)
		for range 5 {
			s := groundForAll(random)
			left, leftOK := impl.ApplySubstitution(s, x)
			right, rightOK := impl.ApplySubstitution(s, y)
			if !leftOK || !rightOK {
				continue
			}
			for a := range 5 {
				if l, ok := impl.FreshNeeds(a, x); ok && impl.IsFreshFor(a, left) != meets(l, s) || !ok && impl.IsFreshFor(a, left) {
					t.Fatalf("%d for %s: %v, but %s", a, impl.FormatTerm(x), l, impl.FormatTerm(left))
				}
			}
			if !equal || same(x, y) {
				continue
			}
			want := meets(equalNeeds, s)
			if impl.AlphaEqual(left, right) != want {
				t.Fatalf("%s and %s: %v, but %s and %s", impl.FormatTerm(x), impl.FormatTerm(y), equalNeeds, impl.FormatTerm(left), impl.FormatTerm(right))
			}
			if want {
				met++
			} else {
				not++
			}
		}
	}
	if met < 500 || not < 500 {
		t.Error("too few that meet the context, or do not:", met, not)
	}
}

// Ground terms are equal with every context or none, by chapter 2.
func TestGroundTermsNeedNothing(t *testing.T) {
	random := rand.New(rand.NewSource(9))
	for _, x := range someTerms(2000, false) {
		y := variant(random, x, random.Intn(3) == 0)
		got, ok := impl.EqualNeeds(x, y)
		if ok != impl.AlphaEqual(x, y) || len(got) != 0 {
			t.Fatalf("%s and %s: %v, %v", impl.FormatTerm(x), impl.FormatTerm(y), got, ok)
		}
		for a := range 5 {
			if got, ok := impl.FreshNeeds(a, x); ok != impl.IsFreshFor(a, x) || len(got) != 0 {
				t.Fatalf("%d for %s: %v, %v", a, impl.FormatTerm(x), got, ok)
			}
		}
	}
}

func hasAll(l, part []impl.Fresh) bool {
	return !slices.ContainsFunc(part, func(x impl.Fresh) bool { return !slices.Contains(l, x) })
}

func TestJudgedWithContexts(t *testing.T) {
	random := rand.New(rand.NewSource(10))
	for _, x := range someWithHoles(random, 3000) {
		y := holeVariant(random, x)
		needed, ok := impl.EqualNeeds(x, y)
		for _, l := range [][]impl.Fresh{nil, someContext(random, 4), needed, needed[min(1, len(needed)):]} {
			if got := impl.EqualIn(l, x, y); got != (ok && hasAll(l, needed)) {
				t.Fatalf("%v: %s and %s: %v", l, impl.FormatTerm(x), impl.FormatTerm(y), got)
			}
			for a := range 5 {
				freshNeeded, ok := impl.FreshNeeds(a, x)
				if got := impl.FreshIn(l, a, x); got != (ok && hasAll(l, freshNeeded)) {
					t.Fatalf("%v: %d for %s: %v", l, a, impl.FormatTerm(x), got)
				}
			}
		}
	}
}

func TestContextsAsSets(t *testing.T) {
	random := rand.New(rand.NewSource(11))
	for range 3000 {
		l, m := someContext(random, random.Intn(5)), someContext(random, random.Intn(5))
		both, ok := impl.MergeContexts(l, m)
		if !ok || !impl.IsContext(both) || !hasAll(both, l) || !hasAll(both, m) || !hasAll(slices.Concat(l, m), both) {
			t.Fatalf("%v and %v: %v, %v", l, m, both, ok)
		}
		if !impl.IncludesContext(both, l) || !impl.IncludesContext(both, m) || impl.IncludesContext(l, m) != hasAll(l, m) {
			t.Fatalf("%v and %v", l, m)
		}
	}
}

func TestAppliedHoleByHole(t *testing.T) {
	random := rand.New(rand.NewSource(12))
	for _, x := range someWithHoles(random, 4000) {
		l := someSubstitution(random, 5, false)
		want := filled(x, byHole(l))
		got, ok := impl.ApplySubstitution(l, x)
		if fits := sizeOf(want) <= impl.MaxTerm; ok != fits || ok && !same(got, want) || !ok && !isZero(got) {
			t.Fatalf("%v on %s: %s, %v", l, impl.FormatTerm(x), impl.FormatTerm(got), ok)
		}
	}
}

// What is composed does both, one after the other.
func TestComposedOneAfterTheOther(t *testing.T) {
	random := rand.New(rand.NewSource(13))
	count := 0
	for _, x := range someWithHoles(random, 4000) {
		l, m := someSubstitution(random, 5, false), someSubstitution(random, 5, false)
		both, ok := impl.ComposeSubstitutions(l, m)
		if !ok || !impl.IsSubstitution(both) {
			t.Fatalf("%v, then %v: %v", l, m, ok)
		}
		holes := []int{}
		for _, b := range slices.Concat(l, m) {
			holes = append(holes, b.Hole)
		}
		slices.Sort(holes)
		if !slices.EqualFunc(both, slices.Compact(holes), func(b impl.Binding, n int) bool { return b.Hole == n }) {
			t.Fatalf("%v, then %v: %v", l, m, both)
		}
		want := filled(filled(x, byHole(l)), byHole(m))
		got, ok := impl.ApplySubstitution(both, x)
		if fits := sizeOf(want) <= impl.MaxTerm; ok != fits || ok && !same(got, want) {
			t.Fatalf("%v, then %v on %s: %s", l, m, impl.FormatTerm(x), impl.FormatTerm(got))
		}
		if ok {
			count++
		}
	}
	if count < 1000 {
		t.Error("too few that fit:", count)
	}
}

// The context under a substitution is met by exactly those with which the first
// context is met after it.
func TestContextUnderByInstances(t *testing.T) {
	random := rand.New(rand.NewSource(14))
	count := 0
	for range 4000 {
		l, m := someSubstitution(random, 4, random.Intn(4) == 0), someContext(random, 1+random.Intn(2))
		all := []impl.Term{}
		for n := range 4 {
			all = append(all, filled(hole(n), byHole(l)))
		}
		want, is := neededFor(holesWithin(all...), probes, func(by map[int]impl.Term) bool {
			return !slices.ContainsFunc(m, func(x impl.Fresh) bool {
				return slices.Contains(freeIn(filled(all[x.Hole], by)), x.Atom)
			})
		})
		got, ok := impl.ContextUnder(l, m)
		checkNeeds(t, impl.FormatContext(m), got, ok, want, is)
		if ok {
			count++
		}
	}
	if count < 500 {
		t.Error("too few for which there is a context:", count)
	}
}

// Contexts are read back from what is written, and no other text is read.
func TestContextsReadBack(t *testing.T) {
	random := rand.New(rand.NewSource(15))
	for range 2000 {
		l := someContext(random, random.Intn(5))
		if got, ok := impl.ParseContext(impl.FormatContext(l)); !ok || !slices.Equal(got, l) {
			t.Fatalf("%v is read back as %v", l, got)
		}
	}
	check := func(text string) { checkContextText(t, text) }
	for _, text := range []string{"-", "a0#X1,a2#X1", "a10#X0,a999#X0,a0#X9"} {
		toEachNear(text, "a#X, -019", check)
	}
	toEachText("", "a#X,-01", 6, check)
	toEachText("a0#X1,", "a#X,-01", 6, check)
}

func checkContextText(t *testing.T, text string) {
	l, ok := impl.ParseContext(text)
	if ok && (!impl.IsContext(l) || impl.FormatContext(l) != text) || !ok && len(l) != 0 {
		t.Fatalf("%q is read as %v, %v", text, l, ok)
	}
}
