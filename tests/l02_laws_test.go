package tests

import (
	"math/rand"
	"slices"
	"strconv"
	"testing"

	"loop.example/g03112/impl"
)

// canonicalIn reports whether each binder binds the least atom that is not free
// in it.
func canonicalIn(x impl.Term) bool {
	if x.Op == impl.TmBind && x.N != impl.LeastFresh(freeIn(x)) {
		return false
	}
	return !slices.ContainsFunc(x.Kids, func(kid impl.Term) bool { return !canonicalIn(kid) })
}

// checkCanonical returns the text of the canonical term.
func checkCanonical(t *testing.T, x impl.Term) string {
	t.Helper()
	c, ok := impl.CanonicalTerm(x)
	if !ok || !impl.IsGround(c) || !canonicalIn(c) || namelessAlone(c) != namelessAlone(x) || !impl.AlphaEqual(x, c) || !impl.AlphaEqual(c, x) {
		t.Fatalf("canonical of %s: %s, %v", impl.FormatTerm(x), impl.FormatTerm(c), ok)
	}
	again, ok := impl.CanonicalTerm(c)
	if !ok || !impl.SameTerms(c, again) {
		t.Fatalf("canonical of the canonical %s: %s", impl.FormatTerm(c), impl.FormatTerm(again))
	}
	return impl.FormatTerm(c)
}

// Canonical terms are the same exactly for terms that are equal up to renaming:
// of all small terms, each two are compared.
func TestCanonicalForSmallTerms(t *testing.T) {
	l := []impl.Term{}
	for count := 1; count <= 4; count++ {
		l = append(l, smallTerms(count)...)
	}
	canonical, alone := []impl.Term{}, []string{}
	for _, x := range l {
		checkCanonical(t, x)
		c, _ := impl.CanonicalTerm(x)
		canonical = append(canonical, c)
		alone = append(alone, namelessAlone(x))
	}
	for i := range l {
		for j := range l {
			want := alone[i] == alone[j]
			if impl.SameTerms(canonical[i], canonical[j]) != want || impl.AlphaEqual(l[i], l[j]) != want {
				t.Fatalf("%s and %s: not %v", impl.FormatTerm(l[i]), impl.FormatTerm(l[j]), want)
			}
		}
	}
}

// The same for larger ones, by their texts.
func TestCanonicalForAllTerms(t *testing.T) {
	byText, byAlone := map[string]string{}, map[string]string{}
	for _, x := range slices.Concat(smallTerms(5), smallTerms(6), someTerms(20000, false)) {
		text, alone := checkCanonical(t, x), namelessAlone(x)
		if other, found := byText[text]; found && other != alone {
			t.Fatalf("%s is canonical for %s and %s", text, alone, other)
		}
		if other, found := byAlone[alone]; found && other != text {
			t.Fatalf("%s and %s are canonical for %s", text, other, alone)
		}
		byText[text], byAlone[alone] = alone, text
	}
}

// A term is equal up to renaming to what comes of renaming binders in it, and
// not to what comes of another change that tells without names.
func TestAlphaEqualToVariants(t *testing.T) {
	random := rand.New(rand.NewSource(3))
	equal, not := 0, 0
	for _, x := range someTerms(5000, false) {
		for range 4 {
			y := variant(random, x, random.Intn(3) == 0)
			want := namelessAlone(x) == namelessAlone(y)
			if impl.AlphaEqual(x, y) != want || impl.AlphaEqual(y, x) != want {
				t.Fatalf("%s and %s: not %v", impl.FormatTerm(x), impl.FormatTerm(y), want)
			}
			if same(x, y) {
				continue
			}
			if want {
				equal++
			} else {
				not++
			}
		}
	}
	if equal < 1000 || not < 1000 {
		t.Error("too few that differ:", equal, not)
	}
}

// variant swaps the atoms of binders in their bodies, with fresh ones or, if it
// is careless, with any.
func variant(random *rand.Rand, x impl.Term, careless bool) impl.Term {
	kids := []impl.Term{}
	for _, kid := range x.Kids {
		kids = append(kids, variant(random, kid, careless))
	}
	y := impl.Term{Op: x.Op, N: x.N, Kids: kids}
	b := random.Intn(7)
	if x.Op == impl.TmBind && (careless || !slices.Contains(freeIn(y), b)) {
		return swapped(y, x.N, b)
	}
	return y
}

// swapped is what acting with the swap of two atoms makes of a ground term.
func swapped(x impl.Term, a, b int) impl.Term {
	y := impl.Term{Op: x.Op, N: x.N}
	if x.Op != impl.TmNode {
		y.N = swappedAtom(x.N, a, b)
	}
	for _, kid := range x.Kids {
		y.Kids = append(y.Kids, swapped(kid, a, b))
	}
	return y
}

func swappedAtom(c, a, b int) int {
	switch c {
	case a:
		return b
	case b:
		return a
	}
	return c
}

// ActOn does atom by atom what the permutation does, and behind each Perm.
func TestActOnAtomByAtom(t *testing.T) {
	random := rand.New(rand.NewSource(4))
	for _, x := range someTerms(5000, true) {
		p := somePermutationOf(random, 7)
		got, ok := impl.ActOn(p, x)
		if !ok || !same(got, actedByTable(tableOf(p), x)) {
			t.Fatalf("%v on %s: %s", p, impl.FormatTerm(x), impl.FormatTerm(got))
		}
		back, _ := impl.InversePermutation(p)
		if again, is := impl.ActOn(back, got); !is || !same(again, x) {
			t.Fatalf("%v on %s and back: %s", p, impl.FormatTerm(x), impl.FormatTerm(again))
		}
		q := somePermutationOf(random, 7)
		both, _ := impl.ComposePermutations(q, p)
		one, _ := impl.ActOn(both, x)
		other, _ := impl.ActOn(q, got)
		if !same(one, other) {
			t.Fatalf("%v, then %v on %s: %s", p, q, impl.FormatTerm(x), impl.FormatTerm(other))
		}
	}
}

func actedByTable(table [impl.MaxAtom + 1]int, x impl.Term) impl.Term {
	y := impl.Term{Op: x.Op, N: x.N}
	switch x.Op {
	case impl.TmAtom, impl.TmBind:
		y.N = table[x.N]
	case impl.TmHole:
		behind := tableOf(x.Perm)
		for a, b := range behind {
			behind[a] = table[b]
		}
		y.Perm = pairsOf(behind)
	}
	for _, kid := range x.Kids {
		y.Kids = append(y.Kids, actedByTable(table, kid))
	}
	return y
}

// Acting goes along with renaming, and with what is free.
func TestActingKeepsEqual(t *testing.T) {
	random := rand.New(rand.NewSource(5))
	for _, x := range someTerms(2000, false) {
		p := somePermutationOf(random, 7)
		y := variant(random, x, false)
		left, _ := impl.ActOn(p, x)
		right, _ := impl.ActOn(p, y)
		if !impl.AlphaEqual(left, right) {
			t.Fatalf("%v on %s and %s", p, impl.FormatTerm(x), impl.FormatTerm(y))
		}
		want := []int{}
		for _, a := range impl.FreeAtoms(x) {
			want = append(want, impl.ImageOf(p, a))
		}
		slices.Sort(want)
		if got := impl.FreeAtoms(left); !slices.Equal(got, want) {
			t.Fatalf("free in %s: %v", impl.FormatTerm(left), got)
		}
	}
}

func TestFreeAndFresh(t *testing.T) {
	for _, x := range someTerms(3000, false) {
		free := freeIn(x)
		if got := impl.FreeAtoms(x); !slices.Equal(got, free) {
			t.Fatalf("free in %s: %v", impl.FormatTerm(x), got)
		}
		for a := range 8 {
			if got := impl.IsFreshFor(a, x); got == slices.Contains(free, a) {
				t.Fatalf("%d for %s: %v", a, impl.FormatTerm(x), got)
			}
		}
	}
}

func TestAtomsHolesAndSize(t *testing.T) {
	for _, x := range someTerms(3000, true) {
		atoms, holes := []int{}, []int{}
		toEach(x, func(y impl.Term) {
			switch y.Op {
			case impl.TmAtom, impl.TmBind:
				atoms = append(atoms, y.N)
			case impl.TmHole:
				holes = append(holes, y.N)
				for _, pair := range y.Perm {
					atoms = append(atoms, pair.From)
				}
			}
		})
		slices.Sort(atoms)
		slices.Sort(holes)
		if got := impl.AtomsOf(x); !slices.Equal(got, slices.Compact(atoms)) {
			t.Fatalf("atoms of %s: %v", impl.FormatTerm(x), got)
		}
		if got := impl.HolesOf(x); !slices.Equal(got, slices.Compact(holes)) {
			t.Fatalf("holes of %s: %v", impl.FormatTerm(x), got)
		}
		if impl.SizeOfTerm(x) != sizeOf(x) || !impl.IsTerm(x) || impl.IsGround(x) != (len(holes) == 0) {
			t.Fatalf("size of %s: %d", impl.FormatTerm(x), impl.SizeOfTerm(x))
		}
	}
}

func toEach(x impl.Term, do func(impl.Term)) {
	do(x)
	for _, kid := range x.Kids {
		toEach(kid, do)
	}
}

// Told without names, u stands in each place where the atom was free, with its
// own free atoms still free.
func TestReplacedWithoutNames(t *testing.T) {
	l := slices.Concat(smallTerms(1), smallTerms(2), smallTerms(3), smallTerms(4))
	for _, x := range l {
		for _, u := range l[:20] {
			checkReplaced(t, x, 1, u)
		}
	}
	some := someTerms(4000, false)
	for i, x := range some {
		checkReplaced(t, x, i%5, some[(i*7+1)%len(some)])
	}
}

func checkReplaced(t *testing.T, x impl.Term, a int, u impl.Term) {
	t.Helper()
	places := 0
	want := nameless(x, nil, func(b int) string {
		if b != a {
			return strconv.Itoa(b)
		}
		places++
		return namelessAlone(u)
	})
	got, ok := impl.ReplaceAtom(x, a, u)
	if fits := sizeOf(x)+places*(sizeOf(u)-1) <= impl.MaxTerm; ok != fits {
		t.Fatalf("%s in the place of %d in %s: %v", impl.FormatTerm(u), a, impl.FormatTerm(x), ok)
	}
	if ok && (namelessAlone(got) != want || places == 0 && !same(got, x)) {
		t.Fatalf("%s in the place of %d in %s: %s", impl.FormatTerm(u), a, impl.FormatTerm(x), impl.FormatTerm(got))
	}
}

// Terms are read back from what is written, and no other text is read.
func TestTermsReadBack(t *testing.T) {
	for _, x := range slices.Concat(someTerms(5000, true), smallTerms(5)) {
		text := impl.FormatTerm(x)
		got, ok := impl.ParseTerm(text)
		if !ok || !same(got, x) {
			t.Fatalf("%s is read back as %s", text, impl.FormatTerm(got))
		}
	}
	check := func(text string) { checkTermText(t, text) }
	for _, text := range []string{"f3([a10]a0,f0,(0 1)(2 3)X4)", "[a1]f1((0 11)X1)", "f2(f8,f10(X9,a999))"} {
		toEachNear(text, "af[](), X0123", check)
	}
	toEachText("", "af[](), X01", 6, check)
}

func checkTermText(t *testing.T, text string) {
	x, ok := impl.ParseTerm(text)
	if ok && (!impl.IsTerm(x) || impl.FormatTerm(x) != text) {
		t.Fatalf("%q is read as %v", text, x)
	}
	if !ok && !isZero(x) {
		t.Fatalf("%q is not read, but %v", text, x)
	}
}

// SameTerms tells random terms and their copies from those with one change.
func TestSameOrChanged(t *testing.T) {
	for _, x := range someTerms(1000, true) {
		if !impl.SameTerms(x, copied(x)) {
			t.Fatalf("%s and its copy", impl.FormatTerm(x))
		}
		for i := range sizeOf(x) {
			y := copied(x)
			count := 0
			changeAt(&y, i, &count)
			if impl.SameTerms(x, y) || impl.SameTerms(y, x) {
				t.Fatalf("%s and %v", impl.FormatTerm(x), y)
			}
		}
	}
}

// changeAt adds 1 to the N of the node with the number at.
func changeAt(x *impl.Term, at int, count *int) {
	if *count == at {
		x.N++
	}
	*count++
	for i := range x.Kids {
		changeAt(&x.Kids[i], at, count)
	}
}
