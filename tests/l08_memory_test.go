package tests

import (
	"fmt"
	"slices"
	"strings"
	"testing"

	"loop.example/g03112/impl"
)

var markIndex = impl.Index{Op: 7, N: 7}

// roomyIndex is the same value, with spare capacity in each slice.
func roomyIndex(x impl.Index) impl.Index {
	kids := []impl.Index{}
	for _, kid := range x.Kids {
		kids = append(kids, roomyIndex(kid))
	}
	return impl.Index{Op: x.Op, N: x.N, Kids: roomy(kids, markIndex)}
}

// isRoomyIndex reports whether x is still what roomyIndex has made of y.
func isRoomyIndex(x, y impl.Index) bool {
	for _, kid := range x.Kids[len(x.Kids):cap(x.Kids)][:50] {
		if !sameIndices(kid, markIndex) {
			return false
		}
	}
	return x.Op == y.Op && x.N == y.N && slices.EqualFunc(x.Kids, y.Kids, isRoomyIndex)
}

// overwriteIndex writes over all memory of a result.
func overwriteIndex(x impl.Index, ok bool) {
	for _, kid := range x.Kids {
		overwriteIndex(kid, ok)
	}
	overwrite(x.Kids, impl.Index{Op: 77, N: 77})
}

// useNames calls every function of chapter 8 that takes terms, and writes over
// all that is returned.
func useNames(x impl.Term) {
	impl.IsFunctionTerm(x)
	overwriteIndex(impl.IndexOf(x))
	overwriteGiven(impl.StepNames(x))
	for most := range 5 {
		y, _, ok := impl.RunNames(x, most)
		overwriteGiven(y, ok)
	}
}

// useIndices does the same with those that take index terms.
func useIndices(x, y impl.Index) {
	impl.IsIndexTerm(x)
	impl.IsClosed(x)
	overwriteGiven(impl.TermOf(x))
	overwriteIndex(impl.StepIndices(x))
	overwriteIndex(impl.ParseIndex(impl.FormatIndex(x)))
	impl.SameIndices(x, y)
}

func TestFunctionArgumentsStay(t *testing.T) {
	terms := someFunctions(101, 300)
	for why, x := range notFunctions(t) {
		if !strings.HasSuffix(why, "in itself") {
			terms = append(terms, x)
		}
	}
	for _, x := range terms {
		roomy := roomyTerm(x)
		useNames(roomy)
		if !isRoomy(roomy, x) {
			t.Fatalf("%v: an argument is changed", x)
		}
	}
}

func TestIndexArgumentsStay(t *testing.T) {
	indices := someIndices(102, 300)
	for why, x := range notIndices() {
		if !strings.HasSuffix(why, "in itself") {
			indices = append(indices, x)
		}
	}
	for i, y := range indices {
		x := indices[(i+1)%len(indices)]
		first, second := roomyIndex(x), roomyIndex(y)
		useIndices(first, second)
		useIndices(first, first)
		if !isRoomyIndex(first, x) || !isRoomyIndex(second, y) {
			t.Fatalf("%v and %v: an argument is changed", x, y)
		}
	}
}

// placesOfIndex is what places is, for index terms.
func placesOfIndex(x impl.Index, found map[any]bool) bool {
	alone := true
	kids := x.Kids[:cap(x.Kids)]
	for i := range kids {
		alone = alone && !found[&kids[i]]
		found[&kids[i]] = true
	}
	for _, kid := range x.Kids {
		alone = placesOfIndex(kid, found) && alone
	}
	return alone
}

// A result shares no memory with an argument, and no two slices in it do.
func TestFunctionsStandAlone(t *testing.T) {
	steps := 0
	for _, x := range someFunctions(103, 2000) {
		found := map[any]bool{}
		if !places(x, found) {
			t.Fatal("the argument shares memory")
		}
		z, ok := impl.IndexOf(x)
		if !ok || !placesOfIndex(z, found) {
			t.Fatalf("the index term of %s shares memory", impl.FormatTerm(x))
		}
		if y, ok := impl.TermOf(z); !ok || !places(y, found) {
			t.Fatalf("the term of %s shares memory", indexText(z))
		}
		if y, ok := impl.StepNames(x); ok {
			steps++
			if !places(y, found) {
				t.Fatalf("a step of %s shares memory", impl.FormatTerm(x))
			}
		}
		for _, most := range []int{0, 1, impl.MaxSteps} {
			if y, _, ok := impl.RunNames(x, most); ok && !places(y, found) {
				t.Fatalf("the last term of %s shares memory", impl.FormatTerm(x))
			}
		}
	}
	if steps < 500 {
		t.Error("too few steps:", steps)
	}
}

func TestIndicesStandAlone(t *testing.T) {
	steps := 0
	for _, x := range someIndices(104, 2000) {
		found := map[any]bool{}
		x = copiedIndex(x)
		if !placesOfIndex(x, found) {
			t.Fatal("the argument shares memory")
		}
		if y, ok := impl.ParseIndex(indexText(x)); !ok || !placesOfIndex(y, found) {
			t.Fatalf("%s shares memory", indexText(x))
		}
		if y, ok := impl.StepIndices(x); ok {
			steps++
			if !placesOfIndex(y, found) {
				t.Fatalf("a step of %s shares memory", indexText(x))
			}
		}
	}
	if steps < 500 {
		t.Error("too few steps:", steps)
	}
}

// Nothing is kept from call to call.
func TestFunctionCallsAreAlike(t *testing.T) {
	first := []string{}
	for range 5 {
		now := []string{}
		indices := someIndices(105, 100)
		for i, x := range someFunctions(106, 100) {
			z, ok := impl.IndexOf(x)
			last, count, _ := impl.RunNames(x, 9)
			now = append(now, toldIndex(z, ok), told(impl.StepNames(x)), toldIndex(impl.StepIndices(z)), told(impl.TermOf(z)), fmt.Sprint(last, count), toldIndex(impl.StepIndices(indices[i])))
			useNames(x)
			useIndices(indices[i], z)
		}
		if len(first) > 0 && !slices.Equal(first, now) {
			t.Error("other results of the same calls")
		}
		first = now
	}
}
