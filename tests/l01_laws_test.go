package tests

import (
	"slices"
	"testing"

	"loop.example/g03112/impl"
)

// Permutations do one after the other what both do.
func TestComposedDoBoth(t *testing.T) {
	l := somePermutations(120)
	for _, p := range l {
		for _, q := range l {
			first, then := tableOf(q), tableOf(p)
			table := first
			for a := range table {
				table[a] = then[first[a]]
			}
			want := pairsOf(table)
			got, ok := impl.ComposePermutations(p, q)
			if len(want) > impl.MaxMoved {
				if ok || len(got) != 0 {
					t.Fatalf("%v after %v moves too many: %v", p, q, got)
				}
			} else if !ok || !slices.Equal(got, want) {
				t.Fatalf("%v after %v: %v", p, q, got)
			}
		}
	}
}

// They are read back from what is written.
func TestReadBackFromWritten(t *testing.T) {
	for _, p := range somePermutations(2000) {
		text := impl.FormatPermutation(p)
		if got, ok := impl.ParsePermutation(text); !ok || !slices.Equal(got, p) {
			t.Fatalf("%v is written %s, and read back as %v, %v", p, text, got, ok)
		}
	}
}

// No other text is read: whatever is read is written as it was.
func TestOnlyWrittenIsRead(t *testing.T) {
	check := func(text string) { checkText(t, text) }
	for _, p := range somePermutations(60) {
		toEachNear(impl.FormatPermutation(p), "() 01239", check)
	}
	toEachText("", "() 012", 7, check)
}

func checkText(t *testing.T, text string) {
	p, ok := impl.ParsePermutation(text)
	if ok && (!impl.IsPermutation(p) || impl.FormatPermutation(p) != text) {
		t.Fatalf("%q is read as %v", text, p)
	}
	if !ok && len(p) != 0 {
		t.Fatalf("%q is not read, but %v", text, p)
	}
}

func TestImagesOfAllAtoms(t *testing.T) {
	for _, p := range somePermutations(60) {
		for a, want := range tableOf(p) {
			if got := impl.ImageOf(p, a); got != want {
				t.Fatalf("%v gives %d to %d", p, got, a)
			}
		}
	}
}

func TestInverseGivesBack(t *testing.T) {
	for _, p := range somePermutations(500) {
		back, ok := impl.InversePermutation(p)
		if !ok || !impl.IsPermutation(back) {
			t.Fatalf("inverse of %v: %v", p, back)
		}
		there := tableOf(p)
		for a, b := range tableOf(back) {
			if there[b] != a {
				t.Fatalf("inverse of %v: %v", p, back)
			}
		}
	}
}

func TestDifferenceAtomByAtom(t *testing.T) {
	l := somePermutations(120)
	for _, p := range l {
		for _, q := range l {
			want := []int{}
			left, right := tableOf(p), tableOf(q)
			for a := range left {
				if left[a] != right[a] {
					want = append(want, a)
				}
			}
			if got := impl.DifferenceOf(p, q); !slices.Equal(got, want) {
				t.Fatalf("difference of %v and %v: %v", p, q, got)
			}
		}
	}
}

func TestCyclesTellAll(t *testing.T) {
	for _, p := range somePermutations(500) {
		told := []impl.Pair{}
		least := -1
		for _, cycle := range impl.CyclesOf(p) {
			if len(cycle) < 2 || cycle[0] <= least || slices.Min(cycle) != cycle[0] {
				t.Fatalf("cycle %v of %v", cycle, p)
			}
			least = cycle[0]
			for i, a := range cycle {
				told = append(told, impl.Pair{From: a, To: cycle[(i+1)%len(cycle)]})
			}
		}
		slices.SortFunc(told, func(x, y impl.Pair) int { return x.From - y.From })
		if !slices.Equal(told, p) {
			t.Fatalf("cycles of %v tell %v", p, told)
		}
	}
}

func TestOrderIsTheFirstReturn(t *testing.T) {
	for _, p := range somePermutations(300) {
		order := impl.OrderOf(p)
		if order > 3000 {
			continue
		}
		power, often := p, 1
		for len(power) != 0 {
			power, _ = impl.ComposePermutations(p, power)
			often++
		}
		if order != often {
			t.Fatalf("order of %v: %d instead of %d", p, order, often)
		}
	}
}

func TestSwapsFromTheLastOn(t *testing.T) {
	for _, p := range somePermutations(500) {
		done := []impl.Pair{}
		l := impl.SwapsOf(p)
		for i := len(l) - 1; i >= 0; i-- {
			next, ok := impl.ComposePermutations(impl.SwapOf(l[i].From, l[i].To), done)
			if !ok {
				t.Fatalf("swaps of %v: %v", p, l)
			}
			done = next
		}
		if !slices.Equal(done, p) {
			t.Fatalf("swaps of %v: %v make %v", p, l, done)
		}
	}
}

// A group has each composition of two of it, each inverse, its generators, and
// nothing twice.
func TestGroupsAreClosed(t *testing.T) {
	for _, texts := range [][]string{
		{"(0 1)", "(1 2)", "(2 3)"},
		{"(0 1 2)", "(1 2 3)", "(2 3 4)"},
		{"(0 1 2 3 4 5 6)", "(1 6)(2 5)(3 4)"},
		{"(0 900)(4 999)", "(4 5)(900 901)"},
	} {
		generators := readAll(t, texts...)
		group, ok := impl.GroupOf(generators)
		if !ok || !slices.IsSortedFunc(group, compareFlat) {
			t.Fatalf("group of %v", texts)
		}
		has := map[string]bool{}
		for _, p := range group {
			has[impl.FormatPermutation(p)] = true
		}
		if len(has) != len(group) || !has["()"] {
			t.Fatalf("group of %v has some twice, or not the one that moves nothing", texts)
		}
		for _, p := range slices.Concat(group, generators) {
			for _, q := range group {
				if r, is := impl.ComposePermutations(p, q); !is || !has[impl.FormatPermutation(r)] {
					t.Fatalf("group of %v has not %v", texts, r)
				}
			}
			if r, is := impl.InversePermutation(p); !is || !has[impl.FormatPermutation(r)] {
				t.Fatalf("group of %v has not %v", texts, r)
			}
		}
	}
}

func TestOrbitsAreThoseOfTheGroup(t *testing.T) {
	generators := readAll(t, "(0 900)(4 999)", "(4 5)(900 901)")
	group, _ := impl.GroupOf(generators)
	for _, a := range []int{0, 1, 4, 5, 900, 901, 999} {
		want := []int{}
		for _, p := range group {
			want = append(want, impl.ImageOf(p, a))
		}
		slices.Sort(want)
		want = slices.Compact(want)
		if got := impl.OrbitOf(generators, a); !slices.Equal(got, want) {
			t.Errorf("orbit of %d: %v instead of %v", a, got, want)
		}
	}
}
