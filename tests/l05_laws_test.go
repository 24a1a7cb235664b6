package tests

import (
	"math/rand"
	"slices"
	"testing"

	"loop.example/g03112/impl"
)

// someApplications hands out random rules, each with a ground term to which it
// may apply.
func someApplications(seed int64, count int, check func(random *rand.Rand, r impl.Rule, x impl.Term)) {
	random := rand.New(rand.NewSource(seed))
	for range count {
		x := someInner(random, 2+random.Intn(14))
		r := someRule(random, x)
		for range 3 {
			check(random, r, variant(random, x, random.Intn(3) > 0))
		}
	}
}

func TestGivenStepByStep(t *testing.T) {
	applied, not := 0, 0
	someApplications(20, 4000, func(_ *rand.Rand, r impl.Rule, x impl.Term) {
		if !impl.IsRule(r) {
			t.Fatalf("%v: no rule", r)
		}
		want, is := givenByHand(r, x)
		got, ok := impl.GivenBy(r, x)
		if ok != is || !same(got, want) {
			t.Fatalf("%s for %s: %s instead of %s", ruleText(r), impl.FormatTerm(x), told(got, ok), told(want, is))
		}
		if !ok {
			not++
			return
		}
		applied++
		if !impl.IsGround(got) || !allIn(freeIn(got), freeIn(x)) {
			t.Fatalf("%s for %s: %s", ruleText(r), impl.FormatTerm(x), told(got, ok))
		}
	})
	if applied < 2000 || not < 1000 {
		t.Error("too few that apply, or do not:", applied, not)
	}
}

// alike reports whether both are nothing, or terms that are equal up to renaming.
func alike(x impl.Term, ok bool, y impl.Term, is bool) bool {
	return ok == is && (!ok || namelessAlone(x) == namelessAlone(y))
}

// Rewriting does not see which names are bound in a term: one rule at all paths,
// and all steps.
func TestRewritingDoesNotSeeBoundNames(t *testing.T) {
	applied, steps := 0, 0
	someApplications(21, 1000, func(random *rand.Rand, r impl.Rule, part impl.Term) {
		x := within(random, part)
		y := variant(random, x, false)
		if sizeOf(x) > impl.MaxTerm {
			return
		}
		for _, p := range pathsByHand(x) {
			one, ok := impl.RewriteAt(r, x, p)
			other, is := impl.RewriteAt(r, y, p)
			if !alike(one, ok, other, is) {
				t.Fatalf("%s at %v: %s from %s, but %s from %s", ruleText(r), p, told(one, ok), impl.FormatTerm(x), told(other, is), impl.FormatTerm(y))
			}
			if ok && len(p) > 0 && !same(x, y) {
				applied++
			}
		}
		l := []impl.Rule{r, someRule(random, part)}
		one, ok := impl.StepTerm(l, x)
		other, is := impl.StepTerm(l, y)
		if !alike(one, ok, other, is) {
			t.Fatalf("%s: a step from %s and %s", rulesText(l), impl.FormatTerm(x), impl.FormatTerm(y))
		}
		one, oneCount, ok := impl.NormalForm(l, x, 6)
		other, otherCount, is := impl.NormalForm(l, y, 6)
		if !alike(one, ok, other, is) || oneCount != otherCount {
			t.Fatalf("%s: the end of %s and %s", rulesText(l), impl.FormatTerm(x), impl.FormatTerm(y))
		}
		if oneCount > 1 && !same(x, y) {
			steps++
		}
	})
	if applied < 500 || steps < 100 {
		t.Error("too few paths at which rules apply, or ends:", applied, steps)
	}
}

// Nor does it see the names in a rule, and a term with other names becomes what
// it became, with other names.
func TestRewritingDoesNotSeeOtherNames(t *testing.T) {
	count := 0
	someApplications(22, 4000, func(random *rand.Rand, r impl.Rule, x impl.Term) {
		p := somePermutationOf(random, 8)
		one, ok := impl.GivenBy(r, x)
		s, renamed := impl.ActOnRule(p, r)
		other, is := impl.GivenBy(s, x)
		if !renamed || !alike(one, ok, other, is) {
			t.Fatalf("%s and %s for %s: %s and %s", ruleText(r), ruleText(s), impl.FormatTerm(x), told(one, ok), told(other, is))
		}
		y := actedByTable(tableOf(p), x)
		other, is = impl.GivenBy(r, y)
		if !alike(actedByTable(tableOf(p), one), ok, other, is) {
			t.Fatalf("%s for %s and %s: %s and %s", ruleText(r), impl.FormatTerm(x), impl.FormatTerm(y), told(one, ok), told(other, is))
		}
		if ok && len(p) > 0 {
			count++
		}
	})
	if count < 2000 {
		t.Error("too few that apply:", count)
	}
}

func TestStepsByHand(t *testing.T) {
	steps, ends := 0, 0
	someApplications(23, 700, func(random *rand.Rand, r impl.Rule, part impl.Term) {
		x := within(random, part)
		if sizeOf(x) > impl.MaxTerm {
			return
		}
		l := []impl.Rule{r, someRule(random, part), someRule(random, someInner(random, 4))}[:1+random.Intn(3)]
		want, is := steppedByHand(l, x)
		got, ok := impl.StepTerm(l, x)
		if ok != is || !same(got, want) {
			t.Fatalf("%s: a step from %s: %s instead of %s", rulesText(l), impl.FormatTerm(x), told(got, ok), told(want, is))
		}
		most := random.Intn(5)
		want, wantCount, is := normalByHand(l, x, most)
		got, count, ok := impl.NormalForm(l, x, most)
		if ok != is || count != wantCount || !same(got, want) {
			t.Fatalf("%s: %d steps from %s: %s, %d instead of %s, %d", rulesText(l), most, impl.FormatTerm(x), told(got, ok), count, told(want, is), wantCount)
		}
		if !ok {
			steps++
		} else if count > 0 {
			ends++
		}
	})
	if steps < 300 || ends < 300 {
		t.Error("too few that go on, or end:", steps, ends)
	}
}

// smallLefts are all terms with at most 4 nodes that may stand on the left, of
// few atoms and two holes.
func smallLefts() []impl.Term {
	leaves := []impl.Term{atom(0), hole(0), hole(0, impl.SwapOf(0, 1)...), hole(1)}
	return slices.Concat(smallFrom(leaves, 2), smallFrom(leaves, 3), smallFrom(leaves, 4))
}

// groundsOf are ground terms with up to most nodes, of the atoms 0 to 5.
func groundsOf(most int) []impl.Term {
	leaves := []impl.Term{node(0)}
	for a := range 6 {
		leaves = append(leaves, atom(a))
	}
	l := []impl.Term{}
	for count := 1; count <= most; count++ {
		l = append(l, smallFrom(leaves, count)...)
	}
	return l
}

// instance is one of a left side, of which the bound names are not told.
type instance struct {
	alone string
	by    map[int]impl.Term
}

// fillings are, for some holes, ground terms that fill a left side with at most
// 4 nodes to a term with at most 4 nodes.
func fillings(holes []int) []map[int]impl.Term {
	l := []map[int]impl.Term{}
	switch len(holes) {
	case 0:
		l = append(l, nil)
	case 1:
		for _, x := range groundsOf(3) {
			l = append(l, map[int]impl.Term{holes[0]: x})
		}
	case 2:
		for _, x := range groundsOf(2) {
			for _, y := range groundsOf(2) {
				if sizeOf(x)+sizeOf(y) <= 3 {
					l = append(l, map[int]impl.Term{holes[0]: x, holes[1]: y})
				}
			}
		}
	}
	return l
}

// A rule applies exactly if the term is an instance of its left side with new
// names, and gives the instance of its right side, if all is as it must be: for
// small rules and all small terms, without solving anything.
func TestGivenForInstances(t *testing.T) {
	random := rand.New(rand.NewSource(24))
	grounds := slices.Concat(smallTerms(1), smallTerms(2), smallTerms(3), smallTerms(4))
	alone := []string{}
	for _, x := range grounds {
		alone = append(alone, namelessAlone(x))
	}
	// The atoms 0, 1 and 2 of rules become 3, 4 and 5, and no term has these.
	table := tableOf(swapsOf(0, 3, 1, 4, 2, 5))
	applied, not := 0, 0
	for _, left := range smallLefts() {
		if random.Intn(2) == 0 {
			continue
		}
		instances := map[string]map[int]impl.Term{}
		for _, by := range fillings(holesWithin(left)) {
			instances[namelessAlone(filled(renamedByTable(table, left), by))] = by
		}
		r := smallRule(random, left)
		other := ruleByTable(table, r)
		for i, x := range grounds {
			by, found := instances[alone[i]]
			if !found && random.Intn(20) > 0 {
				continue
			}
			y := filled(other.Right, by)
			want := found && meetsAll(other.Context, by) && allIn(freeIn(y), freeIn(x))
			got, ok := impl.GivenBy(r, x)
			if !alike(got, ok, y, want) {
				t.Fatalf("%s for %s: %s instead of %s, %v", ruleText(r), impl.FormatTerm(x), told(got, ok), impl.FormatTerm(y), want)
			}
			if ok {
				applied++
			} else if found {
				not++
			}
		}
	}
	if applied < 2000 || not < 1000 {
		t.Error("too few that apply, or do not:", applied, not)
	}
}

func meetsAll(l []impl.Fresh, by map[int]impl.Term) bool {
	return !slices.ContainsFunc(l, func(f impl.Fresh) bool { return slices.Contains(freeIn(by[f.Hole]), f.Atom) })
}

// smallRule is a random one with the left side, of the atoms 0, 1 and 2.
func smallRule(random *rand.Rand, left impl.Term) impl.Rule {
	r := impl.Rule{Left: left}
	holes := holesWithin(left)
	for {
		r.Right = someTerm(random, 1+random.Intn(4), true)
		if random.Intn(2) == 0 {
			r.Right = rightFor(random, left)
		}
		if allIn(holesWithin(r.Right), holes) && allIn(atomsWithin(r.Right), []int{0, 1, 2}) {
			break
		}
	}
	for _, n := range holes {
		for a := range 3 {
			if random.Intn(8) == 0 {
				r.Context = append(r.Context, impl.Fresh{Atom: a, Hole: n})
			}
		}
	}
	return r
}

func atomsWithin(x impl.Term) []int {
	var marks [impl.MaxAtom + 1]bool
	markAtoms(&marks, x)
	l := []int{}
	for a, is := range marks {
		if is {
			l = append(l, a)
		}
	}
	return l
}

func TestPathsTogether(t *testing.T) {
	random := rand.New(rand.NewSource(25))
	for _, x := range someTerms(1500, true) {
		paths := impl.PathsOf(x)
		if len(paths) != sizeOf(x) {
			t.Fatalf("%s: %v", impl.FormatTerm(x), paths)
		}
		u := someTerm(random, 1+random.Intn(40), true)
		for i, p := range paths {
			if i > 0 && slices.Compare(paths[i-1], p) >= 0 {
				t.Fatalf("%s: %v behind %v", impl.FormatTerm(x), p, paths[i-1])
			}
			part, ok := impl.TermAt(x, p)
			if !ok || !same(part, atByHand(x, p)) {
				t.Fatalf("%v of %s: %s", p, impl.FormatTerm(x), told(part, ok))
			}
			if again, ok := impl.PutAt(x, p, part); !ok || !same(again, x) {
				t.Fatalf("%v of %s: put back %s", p, impl.FormatTerm(x), told(again, ok))
			}
			want := putByHand(x, p, u)
			got, ok := impl.PutAt(x, p, u)
			if fits := sizeOf(want) <= impl.MaxTerm; ok != fits || ok && !same(got, want) || !ok && !isZero(got) {
				t.Fatalf("%s at %v of %s: %s", impl.FormatTerm(u), p, impl.FormatTerm(x), told(got, ok))
			}
		}
	}
}

// A rule is renamed atom by atom, and back; two renamings are one.
func TestRulesRenamed(t *testing.T) {
	someApplications(26, 1500, func(random *rand.Rand, r impl.Rule, x impl.Term) {
		p, q := somePermutationOf(random, 8), somePermutationOf(random, 8)
		one, ok := impl.ActOnRule(p, r)
		if !ok || !impl.IsRule(one) || ruleText(one) != ruleText(ruleByTable(tableOf(p), r)) {
			t.Fatalf("%v on %s: %s", p, ruleText(r), ruleText(one))
		}
		inverse, _ := impl.InversePermutation(p)
		if back, ok := impl.ActOnRule(inverse, one); !ok || ruleText(back) != ruleText(r) {
			t.Fatalf("%v on %s, and back: %s", p, ruleText(r), ruleText(back))
		}
		both, _ := impl.ComposePermutations(q, p)
		left, _ := impl.ActOnRule(both, r)
		right, _ := impl.ActOnRule(q, one)
		if ruleText(left) != ruleText(right) {
			t.Fatalf("%v, then %v on %s: %s", p, q, ruleText(r), ruleText(right))
		}
		// What the renamed rule is filled with stays.
		s := groundForAll(random)
		if moved := actedByTable(tableOf(p), filled(r.Left, byHole(actedBindings(inverse, s)))); !same(moved, filled(one.Left, byHole(s))) {
			t.Fatalf("%v on %s: %s, filled with %v", p, ruleText(r), ruleText(one), s)
		}
	})
}

func actedBindings(p []impl.Pair, s []impl.Binding) []impl.Binding {
	l := []impl.Binding{}
	for _, b := range s {
		l = append(l, impl.Binding{Hole: b.Hole, Term: actedByTable(tableOf(p), b.Term)})
	}
	return l
}

func TestRulesFreshened(t *testing.T) {
	random := rand.New(rand.NewSource(27))
	count, moved := 0, 0
	for _, x := range someWithHoles(random, 4000) {
		r := someRule(random, someInner(random, 20))
		if random.Intn(3) == 0 {
			r, _ = impl.ActOnRule(tableSwaps(random), r)
		}
		want, is := freshenedByHand(r, x)
		got, ok := impl.FreshenRule(r, x)
		if ok != is || ruleText(got) != ruleText(want) {
			t.Fatalf("%s for %s: %s instead of %s", ruleText(r), impl.FormatTerm(x), ruleText(got), ruleText(want))
		}
		if ruleText(got) != ruleText(r) {
			count++
		}
		if len(r.Context) > 0 {
			moved++
		}
	}
	if count < 2000 || moved < 1000 {
		t.Error("too few with atoms, or contexts:", count, moved)
	}
}

// tableSwaps swaps the atoms 0 to 7 with others.
func tableSwaps(random *rand.Rand) []impl.Pair {
	table := tableOf(nil)
	for a, b := range random.Perm(20)[:8] {
		table[a], table[b+8] = b+8, a
	}
	return pairsOf(table)
}
