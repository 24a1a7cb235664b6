package tests

import (
	"slices"
	"testing"

	"loop.example/g03112/impl"
)

// roomy is a copy of the list with spare capacity, filled with a value that
// must stay.
func roomy[T any](l []T, mark T) []T {
	whole := slices.Clone(l)
	for range 50 {
		whole = append(whole, mark)
	}
	return whole[:len(l)]
}

// usePermutations calls every function of chapter 1 that takes permutations,
// and writes over all that is returned.
func usePermutations(p, q []impl.Pair) {
	spoil := impl.Pair{From: 77, To: 77}
	overwrite(impl.MovedBy(p), 77)
	overwrite(impl.DifferenceOf(p, q), 77)
	overwrite(impl.SwapsOf(p), spoil)
	for _, cycle := range impl.CyclesOf(p) {
		overwrite(cycle, 77)
	}
	r, _ := impl.ComposePermutations(p, q)
	overwrite(r, spoil)
	r, _ = impl.InversePermutation(p)
	overwrite(r, spoil)
	group, _ := impl.GroupOf([][]impl.Pair{p, q})
	for _, g := range group {
		overwrite(g, spoil)
	}
	overwrite(impl.OrbitOf([][]impl.Pair{p, q}, 1), 77)
	impl.IsPermutation(p)
	impl.ImageOf(p, 1)
	impl.OrderOf(p)
	impl.FormatPermutation(p)
}

// overwrite writes over the elements and the spare capacity of a result.
func overwrite[T any](l []T, x T) {
	l = l[:cap(l)]
	for i := range l {
		l[i] = x
	}
}

func TestArgumentsStay(t *testing.T) {
	mark := impl.Pair{From: 5, To: 3}
	for _, c := range [][2]string{{"(0 1)(2 4 3)", "(0 2)"}, {"()", "(0 1 2)"}, {"(0 1 2)", "()"}, {"(3 4)", "(3 4)"}} {
		p, q := roomy(read(t, c[0]), mark), roomy(read(t, c[1]), mark)
		wholeP, wholeQ := slices.Clone(p[:cap(p)]), slices.Clone(q[:cap(q)])
		usePermutations(p, q)
		if !slices.Equal(p[:cap(p)], wholeP) || !slices.Equal(q[:cap(q)], wholeQ) {
			t.Errorf("%v: an argument is changed", c)
		}
	}
	for _, bad := range notPermutations() {
		p := roomy(bad, mark)
		whole := slices.Clone(p[:cap(p)])
		usePermutations(p, p)
		if !slices.Equal(p[:cap(p)], whole) {
			t.Errorf("%v: an argument is changed", bad)
		}
	}
}

func TestListsStay(t *testing.T) {
	atoms := roomy([]int{3, 1, 0, 1}, 8)
	whole := slices.Clone(atoms[:cap(atoms)])
	impl.LeastFresh(atoms)
	if !slices.Equal(atoms[:cap(atoms)], whole) {
		t.Error("LeastFresh changes its list:", atoms[:cap(atoms)])
	}
	one, other := read(t, "(3 4)"), read(t, "(0 1)")
	generators := roomy([][]impl.Pair{one, other, one}, other)
	impl.GroupOf(generators)
	impl.OrbitOf(generators, 0)
	for i, text := range []string{"(3 4)", "(0 1)", "(3 4)", "(0 1)"} {
		if got := impl.FormatPermutation(generators[:4][i]); got != text {
			t.Errorf("generator %d becomes %s", i, got)
		}
	}
}

// Two slices of one result share no memory, nor their spare capacity.
func TestResultsStandAlone(t *testing.T) {
	p := read(t, "(0 1)(2 4 3)(5 9)(6 7 8)")
	cycles := impl.CyclesOf(p)
	for i := range cycles {
		overwrite(cycles[i], 77)
		if !sameLists(cycles[i+1:], impl.CyclesOf(p)[i+1:]) {
			t.Fatal("cycles share memory:", cycles)
		}
	}
	generators := readAll(t, "(0 1)", "(1 2)")
	group, _ := impl.GroupOf(generators)
	whole, _ := impl.GroupOf(generators)
	for i := range group {
		overwrite(group[i], impl.Pair{From: 77, To: 77})
		if !sameLists(group[i+1:], whole[i+1:]) {
			t.Fatal("permutations of a group share memory:", group)
		}
	}
}

// Nothing is kept from call to call.
func TestCallsAreAlike(t *testing.T) {
	texts := []string{"(0 1)(2 4 3)", "()", "(0 1000)", "(0 2)"}
	first := []string{}
	for range 2 {
		now := []string{}
		for _, text := range texts {
			p, _ := impl.ParsePermutation(text)
			overwrite(p, impl.Pair{})
			q, _ := impl.ParsePermutation(text)
			now = append(now, impl.FormatPermutation(q))
			overwrite(impl.SwapOf(0, 1), impl.Pair{})
			now = append(now, impl.FormatPermutation(impl.SwapOf(0, 1)))
		}
		if len(first) > 0 && !slices.Equal(first, now) {
			t.Error(first, now)
		}
		first = now
	}
}
