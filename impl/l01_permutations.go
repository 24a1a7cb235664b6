package impl

import (
	"cmp"
	"iter"
	"slices"
	"strconv"
	"strings"
)

const (
	MaxAtom  = 999
	MaxMoved = 40
	MaxGroup = 120
)

type Pair struct {
	From int
	To   int
}

// Unless they are there to check, functions that are not exported rely on
// their callers to have checked permutations, so that each is checked once.

func IsPermutation(p []Pair) bool {
	if len(p) > MaxMoved || !areMovesInOrder(p) {
		return false
	}
	// There are as many pairs as atoms that are moved, so each of these is
	// given exactly once if none is given twice.
	var given [MaxMoved]bool
	for _, pair := range p {
		place, found := placeOf(p, pair.To)
		if !found || given[place] {
			return false
		}
		given[place] = true
	}
	return true
}

func areMovesInOrder(p []Pair) bool {
	for i, pair := range p {
		if !isAtom(pair.From) || !isAtom(pair.To) || pair.From == pair.To {
			return false
		}
		if i > 0 && p[i-1].From >= pair.From {
			return false
		}
	}
	return true
}

func arePermutations(l [][]Pair) bool {
	for _, p := range l {
		if !IsPermutation(p) {
			return false
		}
	}
	return true
}

func isAtom(a int) bool {
	return a >= 0 && a <= MaxAtom
}

// placeOf finds the pair that moves the atom a.
func placeOf(p []Pair, a int) (int, bool) {
	return slices.BinarySearchFunc(p, a, func(pair Pair, a int) int {
		return cmp.Compare(pair.From, a)
	})
}

func ImageOf(p []Pair, a int) int {
	if !IsPermutation(p) || !isAtom(a) {
		return -1
	}
	return imageIn(p, a)
}

func imageIn(p []Pair, a int) int {
	if place, found := placeOf(p, a); found {
		return p[place].To
	}
	return a
}

func SwapOf(a int, b int) []Pair {
	if a == b || !isAtom(a) || !isAtom(b) {
		return []Pair{}
	}
	low, high := min(a, b), max(a, b)
	return []Pair{{From: low, To: high}, {From: high, To: low}}
}

func ComposePermutations(p []Pair, q []Pair) ([]Pair, bool) {
	if !IsPermutation(p) || !IsPermutation(q) {
		return []Pair{}, false
	}
	r := composed(p, q)
	if len(r) > MaxMoved {
		return []Pair{}, false
	}
	return r, true
}

// composed does first q, then p. It may move more than MaxMoved atoms.
func composed(p []Pair, q []Pair) []Pair {
	r := []Pair{}
	for _, a := range movedByEither(p, q) {
		if b := imageIn(p, imageIn(q, a)); b != a {
			r = append(r, Pair{From: a, To: b})
		}
	}
	return r
}

func movedByEither(p []Pair, q []Pair) []int {
	return ascending(append(movedIn(p), movedIn(q)...))
}

// ascending sorts the numbers in place, and leaves each of them in once.
func ascending(l []int) []int {
	slices.Sort(l)
	return slices.Compact(l)
}

func movedIn(p []Pair) []int {
	atoms := []int{}
	for _, pair := range p {
		atoms = append(atoms, pair.From)
	}
	return atoms
}

// sourceIn is the atom that becomes a when p is done.
func sourceIn(p []Pair, a int) int {
	for _, pair := range p {
		if pair.To == a {
			return pair.From
		}
	}
	return a
}

func InversePermutation(p []Pair) ([]Pair, bool) {
	if !IsPermutation(p) {
		return []Pair{}, false
	}
	return inverted(p), true
}

// inverted gives back what p gave. Both may move more than MaxMoved atoms.
func inverted(p []Pair) []Pair {
	r := []Pair{}
	for _, pair := range p {
		r = append(r, Pair{From: pair.To, To: pair.From})
	}
	slices.SortFunc(r, comparePairs)
	return r
}

func comparePairs(a Pair, b Pair) int {
	return cmp.Or(cmp.Compare(a.From, b.From), cmp.Compare(a.To, b.To))
}

func MovedBy(p []Pair) []int {
	if !IsPermutation(p) {
		return []int{}
	}
	return movedIn(p)
}

func DifferenceOf(p []Pair, q []Pair) []int {
	if !IsPermutation(p) || !IsPermutation(q) {
		return []int{}
	}
	return differenceIn(p, q)
}

func differenceIn(p []Pair, q []Pair) []int {
	atoms := []int{}
	for _, a := range movedByEither(p, q) {
		if imageIn(p, a) != imageIn(q, a) {
			atoms = append(atoms, a)
		}
	}
	return atoms
}

// cyclesIn goes through the pairs in order, and therefore meets each cycle
// first at its least atom.
func cyclesIn(p []Pair) iter.Seq[[]int] {
	return func(yield func([]int) bool) {
		var told [MaxMoved]bool
		for start := range p {
			if told[start] {
				continue
			}
			cycle := []int{}
			for place := start; !told[place]; place, _ = placeOf(p, p[place].To) {
				told[place] = true
				cycle = append(cycle, p[place].From)
			}
			if !yield(cycle) {
				return
			}
		}
	}
}

func CyclesOf(p []Pair) [][]int {
	cycles := [][]int{}
	if !IsPermutation(p) {
		return cycles
	}
	for cycle := range cyclesIn(p) {
		cycles = append(cycles, cycle)
	}
	return cycles
}

func OrderOf(p []Pair) int {
	if !IsPermutation(p) {
		return -1
	}
	order := 1
	for cycle := range cyclesIn(p) {
		order = order / greatestDivisor(order, len(cycle)) * len(cycle)
	}
	return order
}

// greatestDivisor returns the greatest common divisor of two positive numbers.
func greatestDivisor(a int, b int) int {
	for b != 0 {
		a, b = b, a%b
	}
	return a
}

func SwapsOf(p []Pair) []Pair {
	swaps := []Pair{}
	if !IsPermutation(p) {
		return swaps
	}
	for cycle := range cyclesIn(p) {
		for i := 1; i < len(cycle); i++ {
			swaps = append(swaps, Pair{From: cycle[i-1], To: cycle[i]})
		}
	}
	return swaps
}

func FormatPermutation(p []Pair) string {
	if !IsPermutation(p) {
		return ""
	}
	if len(p) == 0 {
		return "()"
	}
	var text strings.Builder
	for cycle := range cyclesIn(p) {
		text.WriteString("(" + formatNumbers(cycle) + ")")
	}
	return text.String()
}

// formatNumbers writes the numbers in decimal with single blanks between them.
func formatNumbers(l []int) string {
	words := []string{}
	for _, n := range l {
		words = append(words, strconv.Itoa(n))
	}
	return strings.Join(words, " ")
}

// keptPairs keeps a permutation while it is read.
type keptPairs struct {
	pairs [MaxMoved]Pair
	count int
}

// keepCycle reports whether there was room for the pairs of the cycle.
func (k *keptPairs) keepCycle(cycle []int) bool {
	if k.count+len(cycle) > MaxMoved {
		return false
	}
	for i, a := range cycle {
		k.pairs[k.count] = Pair{From: a, To: cycle[(i+1)%len(cycle)]}
		k.count++
	}
	return true
}

func (k *keptPairs) inOrder() []Pair {
	p := slices.Clone(k.pairs[:k.count])
	slices.SortFunc(p, comparePairs)
	return p
}

func ParsePermutation(t string) ([]Pair, bool) {
	if t == "()" {
		return []Pair{}, true
	}
	var kept keptPairs
	for rest := t; rest != ""; {
		cycle, behind, ok := readCycle(rest)
		if !ok || !kept.keepCycle(cycle) {
			return []Pair{}, false
		}
		rest = behind
	}
	p := kept.inOrder()
	// What was read may give an atom twice, or tell its cycles in another order
	// or from another atom on, than the text of a permutation does. An empty
	// text comes here too, and is not the text of the one that moves nothing.
	if FormatPermutation(p) != t {
		return []Pair{}, false
	}
	return p, true
}

// readCycle returns the atoms of the cycle with which a text begins, and what
// comes behind it.
func readCycle(t string) ([]int, string, bool) {
	inside, behind, closed := strings.Cut(t, ")")
	inside, opened := strings.CutPrefix(inside, "(")
	if !opened || !closed {
		return nil, "", false
	}
	cycle := []int{}
	for _, word := range strings.Split(inside, " ") {
		a, ok := parseAtom(word)
		if !ok {
			return nil, "", false
		}
		cycle = append(cycle, a)
	}
	return cycle, behind, true
}

func parseAtom(t string) (int, bool) {
	return parseNumber(t, MaxAtom)
}

// parseNumber reads a number from 0 to most in decimal, without leading zeros
// or a sign.
func parseNumber(t string, most int) (int, bool) {
	n, err := strconv.Atoi(t)
	if err != nil || n < 0 || n > most || strconv.Itoa(n) != t {
		return 0, false
	}
	return n, true
}

func GroupOf(generators [][]Pair) ([][]Pair, bool) {
	steps, ok := differentOnes(generators)
	if !ok {
		return [][]Pair{}, false
	}
	group := [][]Pair{{}}
	for i := 0; i < len(group); i++ {
		for _, g := range steps {
			next := composed(g, group[i])
			if len(next) > MaxMoved {
				return [][]Pair{}, false
			}
			if group, ok = withMember(group, next); !ok {
				return [][]Pair{}, false
			}
		}
	}
	slices.SortFunc(group, func(p []Pair, q []Pair) int {
		return slices.CompareFunc(p, q, comparePairs)
	})
	return group, true
}

// differentOnes keeps a long list of generators, most of them the same, from
// being composed again and again. It fails if one is no permutation, or if the
// different ones alone are too many for a group.
func differentOnes(generators [][]Pair) ([][]Pair, bool) {
	if !arePermutations(generators) {
		return nil, false
	}
	ones := [][]Pair{}
	for _, g := range generators {
		more, ok := withMember(ones, g)
		if !ok {
			return nil, false
		}
		ones = more
	}
	return ones, true
}

// withMember returns the list with p at its end if p is not yet in it, and
// false if it would become longer than MaxGroup.
func withMember(l [][]Pair, p []Pair) ([][]Pair, bool) {
	for _, q := range l {
		if slices.Equal(p, q) {
			return l, true
		}
	}
	if len(l) == MaxGroup {
		return nil, false
	}
	return append(l, p), true
}

func OrbitOf(generators [][]Pair, a int) []int {
	if !arePermutations(generators) || !isAtom(a) {
		return []int{}
	}
	var leads [MaxAtom + 1][]int
	for _, g := range generators {
		for _, pair := range g {
			leads[pair.From] = append(leads[pair.From], pair.To)
		}
	}
	var reached [MaxAtom + 1]bool
	reached[a] = true
	orbit := []int{a}
	for i := 0; i < len(orbit); i++ {
		for _, b := range leads[orbit[i]] {
			if !reached[b] {
				reached[b] = true
				orbit = append(orbit, b)
			}
		}
	}
	slices.Sort(orbit)
	return orbit
}

func LeastFresh(l []int) int {
	var taken [MaxAtom + 1]bool
	for _, a := range l {
		if isAtom(a) {
			taken[a] = true
		}
	}
	for a := range taken {
		if !taken[a] {
			return a
		}
	}
	return -1
}
