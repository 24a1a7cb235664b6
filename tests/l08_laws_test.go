package tests

import (
	"math/rand"
	"slices"
	"testing"

	"loop.example/g03112/impl"
)

// checkStep checks promise 8 for a function term, and reports whether there was
// a step.
func checkStep(t *testing.T, x impl.Term) bool {
	t.Helper()
	text, want := impl.FormatTerm(x), indexByHand(x, nil, 0)
	z, ok := impl.IndexOf(x)
	if !ok || !sameIndices(z, want) || !impl.IsClosed(z) {
		t.Fatalf("%s: %s instead of %s", text, toldIndex(z, ok), indexText(want))
	}
	wantNext, found := stepNamesByHand(x)
	fits := found && sizeOf(wantNext) <= impl.MaxTerm
	next, ok := impl.StepNames(x)
	if ok != fits || ok && !same(next, wantNext) || !ok && !isZero(next) {
		t.Fatalf("%s: %s", text, told(next, ok))
	}
	wantIndex, isRedex := stepByHand(want)
	fits = isRedex && fitsIndex(wantIndex)
	nextIndex, is := impl.StepIndices(z)
	if isRedex != found || is != fits || is && !sameIndices(nextIndex, wantIndex) || !is && toldIndex(nextIndex, is) != "-" {
		t.Fatalf("%s: %s", indexText(z), toldIndex(nextIndex, is))
	}
	if !ok {
		return false
	}
	both, ok := impl.IndexOf(next)
	if !ok || !is || !impl.SameIndices(both, nextIndex) {
		t.Fatalf("%s: %s by names, %s by indices", text, impl.FormatTerm(next), toldIndex(nextIndex, is))
	}
	return true
}

// A step by names and a step by indices come to the same, for all small terms.
func TestStepsOfSmallFunctions(t *testing.T) {
	count := 0
	for size := 1; size <= 9; size += 2 {
		for _, x := range smallFunctions(size) {
			if checkStep(t, x) {
				count++
			}
		}
	}
	if count < 9000 {
		t.Error("too few steps:", count)
	}
}

// The same for larger ones, as long as there is a step.
func TestStepsOfFunctions(t *testing.T) {
	count := 0
	for _, x := range someFunctions(91, 6000) {
		for range 20 {
			if !checkStep(t, x) {
				break
			}
			count++
			x, _ = impl.StepNames(x)
		}
	}
	if count < 6000 {
		t.Error("too few steps:", count)
	}
}

// By indices there is room for more than by names.
func TestStepByIndicesAlone(t *testing.T) {
	x := applied(lambda(0, applied(atom(0), atom(0))), lambda(1, lambda(1, lambda(1, lambda(1, lambda(1, lambda(1, lambda(1, functionsAround(8, atom(2))))))))))
	if next, ok := impl.StepNames(x); ok || !isZero(next) {
		t.Error("63 nodes:", told(next, ok))
	}
	z, _ := impl.IndexOf(x)
	if next, ok := impl.StepIndices(z); !ok || indexSize(next) != 33 {
		t.Error("33 nodes:", toldIndex(next, ok))
	}
}

func functionsAround(count int, x impl.Term) impl.Term {
	for range count {
		x = lambda(0, x)
	}
	return x
}

// What is equal up to renaming has the same index term, and a step makes of it
// what is equal up to renaming.
func TestStepsDoNotSeeNames(t *testing.T) {
	random := rand.New(rand.NewSource(92))
	count := 0
	for _, x := range someFunctions(93, 4000) {
		y := variant(random, x, random.Intn(4) == 0)
		first, _ := impl.IndexOf(x)
		second, _ := impl.IndexOf(y)
		equal := impl.AlphaEqual(x, y)
		if impl.SameIndices(first, second) != equal {
			t.Fatalf("%s and %s: not %v", impl.FormatTerm(x), impl.FormatTerm(y), equal)
		}
		if !equal {
			continue
		}
		nextX, okX := impl.StepNames(x)
		nextY, okY := impl.StepNames(y)
		if okX != okY || okX && !impl.AlphaEqual(nextX, nextY) {
			t.Fatalf("%s and %s: %s and %s", impl.FormatTerm(x), impl.FormatTerm(y), told(nextX, okX), told(nextY, okY))
		}
		if okX && !same(x, y) {
			count++
		}
	}
	if count < 1000 {
		t.Error("too few steps:", count)
	}
}

// The function term of an index term is the canonical one of all those whose
// index term it is.
func TestTermsOfIndices(t *testing.T) {
	l := slices.Concat(smallFunctions(1), smallFunctions(3), smallFunctions(5), smallFunctions(7), someFunctions(94, 4000))
	for _, x := range l {
		z, _ := impl.IndexOf(x)
		want, _ := impl.CanonicalTerm(x)
		got, ok := impl.TermOf(z)
		if !ok || !same(got, want) || !impl.IsFunctionTerm(got) {
			t.Fatalf("%s: %s instead of %s", indexText(z), told(got, ok), impl.FormatTerm(want))
		}
		if back, ok := impl.IndexOf(got); !ok || !impl.SameIndices(back, z) {
			t.Fatalf("%s comes back as %s", indexText(z), toldIndex(back, ok))
		}
	}
}

// smallOpen are all index terms of few nodes with indices up to 2 and two atoms.
func smallOpen(most int) []impl.Index {
	l := []impl.Index{}
	for count := 1; count <= most; count++ {
		l = append(l, smallIndices([]impl.Index{bound(0), bound(1), bound(2), free(0), free(1)}, count)...)
	}
	return l
}

func functionsWithin(x impl.Index) int {
	count := 0
	if x.Op == impl.InFun {
		count = 1
	}
	for _, kid := range x.Kids {
		count += functionsWithin(kid)
	}
	return count
}

// An index term is closed, and has a function term, if no index leads out.
func TestClosedIndices(t *testing.T) {
	closed, open := 0, 0
	for _, x := range slices.Concat(smallOpen(5), someIndices(95, 5000)) {
		want := isClosedByHand(x)
		if impl.IsClosed(x) != want {
			t.Fatalf("%s: closed, or not", indexText(x))
		}
		fits := want && indexSize(x)+functionsWithin(x) <= impl.MaxTerm
		y, ok := impl.TermOf(x)
		if ok != fits || !ok && !isZero(y) {
			t.Fatalf("%s: %s", indexText(x), told(y, ok))
		}
		if ok && (!isFunctionByHand(y) || !canonicalIn(y) || !sameIndices(indexByHand(y, nil, 0), x)) {
			t.Fatalf("%s: %s", indexText(x), impl.FormatTerm(y))
		}
		if want {
			closed++
		} else {
			open++
		}
	}
	if closed < 500 || open < 500 {
		t.Error("too few:", closed, open)
	}
}

// closedBy puts atoms in the place of the indices that lead out of a term.
func closedBy(x impl.Index, around int) impl.Index {
	y := impl.Index{Op: x.Op, N: x.N}
	if x.Op == impl.InBound && x.N >= around {
		return free(500 + x.N - around)
	}
	if x.Op == impl.InFun {
		around++
	}
	for _, kid := range x.Kids {
		y.Kids = append(y.Kids, closedBy(kid, around))
	}
	return y
}

// An index that leads out of a term stands for the same before and after a step:
// with an atom in its place, or functions around it, the step is the same one.
func TestStepsOfOpenIndices(t *testing.T) {
	count := 0
	for _, x := range slices.Concat(smallOpen(6), someIndices(96, 20000)) {
		want, found := stepByHand(x)
		fits := found && fitsIndex(want)
		got, ok := impl.StepIndices(x)
		if ok != fits || ok && !sameIndices(got, want) || !ok && toldIndex(got, ok) != "-" {
			t.Fatalf("%s: %s instead of %s", indexText(x), toldIndex(got, ok), indexText(want))
		}
		if !ok || greatestBound(x) > 400 {
			continue
		}
		count++
		if next, ok := impl.StepIndices(closedBy(x, 0)); !ok || !sameIndices(next, closedBy(got, 0)) {
			t.Fatalf("%s with atoms: %s", indexText(x), toldIndex(next, ok))
		}
		if size := max(indexSize(x), indexSize(got)); size <= impl.MaxTerm-3 {
			if next, ok := impl.StepIndices(funs(3, x)); !ok || !sameIndices(next, funs(3, got)) {
				t.Fatalf("%s within functions: %s", indexText(x), toldIndex(next, ok))
			}
		}
	}
	if count < 5000 {
		t.Error("too few steps:", count)
	}
}

// A run is one step after the other.
func TestRunsStepByStep(t *testing.T) {
	random := rand.New(rand.NewSource(97))
	ended, cut := 0, 0
	for _, x := range slices.Concat(smallFunctions(7), someFunctions(98, 6000)) {
		most := random.Intn(impl.MaxSteps + 1)
		if random.Intn(2) == 0 {
			most = random.Intn(4)
		}
		want, wantCount, fits := runByNames(x, most)
		last, count, ok := impl.RunNames(x, most)
		if ok != fits || count != wantCount || !same(last, want) {
			t.Fatalf("%s in %d steps: %s after %d instead of %s after %d", impl.FormatTerm(x), most, told(last, ok), count, told(want, fits), wantCount)
		}
		if !ok {
			cut++
			continue
		}
		if count > 0 {
			ended++
		}
		if next, ok := impl.StepNames(last); ok || !isZero(next) {
			t.Fatalf("%s is not the last one", impl.FormatTerm(last))
		}
	}
	if ended < 1000 || cut < 500 {
		t.Error("too few:", ended, cut)
	}
}

// Index terms are read back from what is written, and no other text is read.
func TestIndicesReadBack(t *testing.T) {
	for _, x := range slices.Concat(smallOpen(6), someIndices(99, 5000)) {
		text := impl.FormatIndex(x)
		got, ok := impl.ParseIndex(text)
		if text != indexText(x) || !ok || !sameIndices(got, x) {
			t.Fatalf("%s is read back as %s", text, toldIndex(got, ok))
		}
	}
	check := func(text string) { checkIndexText(t, text) }
	for _, text := range []string{"(\\\\(10 (0 a2)) a999)", "\\((1 a0) \\\\23)", "((\\0 999) (a1 \\a10))"} {
		toEachNear(text, "a\\() 0129", check)
	}
	toEachText("", "a\\() 01", 6, check)
}

func checkIndexText(t *testing.T, text string) {
	t.Helper()
	x, ok := impl.ParseIndex(text)
	if ok && (!impl.IsIndexTerm(x) || impl.FormatIndex(x) != text || indexText(x) != text) {
		t.Fatalf("%q is read as %v", text, x)
	}
	if !ok && toldIndex(x, ok) != "-" {
		t.Fatalf("%q is not read, but %v", text, x)
	}
}

// SameIndices tells random index terms and their copies from those with one
// change.
func TestSameIndicesOrChanged(t *testing.T) {
	for _, x := range someIndices(100, 1000) {
		if !impl.SameIndices(x, copiedIndex(x)) {
			t.Fatalf("%s and its copy", indexText(x))
		}
		for i := range indexSize(x) {
			y := copiedIndex(x)
			count := 0
			changeIndexAt(&y, i, &count)
			if impl.SameIndices(x, y) || impl.SameIndices(y, x) {
				t.Fatalf("%s and %v", indexText(x), y)
			}
		}
	}
}

// changeIndexAt adds 1 to the N of the node with the number at.
func changeIndexAt(x *impl.Index, at int, count *int) {
	if *count == at {
		x.N++
	}
	*count++
	for i := range x.Kids {
		changeIndexAt(&x.Kids[i], at, count)
	}
}
