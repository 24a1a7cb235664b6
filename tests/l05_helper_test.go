package tests

import (
	"math/rand"
	"slices"
	"strings"
	"testing"

	"loop.example/g03112/impl"
)

// rule is the one with the text, of a context, a left and a right side:
// "a0#X0 | f1(X0) > X0".
func rule(t *testing.T, text string) impl.Rule {
	t.Helper()
	before, sides, _ := strings.Cut(text, " | ")
	left, right, _ := strings.Cut(sides, " > ")
	return impl.Rule{Context: context(t, before), Left: term(t, left), Right: term(t, right)}
}

func rules(t *testing.T, texts ...string) []impl.Rule {
	t.Helper()
	l := []impl.Rule{}
	for _, text := range texts {
		l = append(l, rule(t, text))
	}
	return l
}

// ruleText is the text of a rule, and nothing for the zero value.
func ruleText(r impl.Rule) string {
	if len(r.Context) == 0 && isZero(r.Left) && isZero(r.Right) {
		return ""
	}
	return impl.FormatContext(r.Context) + " | " + impl.FormatTerm(r.Left) + " > " + impl.FormatTerm(r.Right)
}

// rulesText tells rules where a test fails.
func rulesText(l []impl.Rule) string {
	texts := []string{}
	for _, r := range l {
		texts = append(texts, ruleText(r))
	}
	return strings.Join(texts, "; ")
}

// allHoles is a term with all holes.
func allHoles() impl.Term {
	x := hole(0)
	for n := 1; n <= impl.MaxHole; n++ {
		x = node(2, x, hole(n))
	}
	return x
}

// notRules tells, for each way in which a value can fail to be a valid rule, one
// that fails in this way alone.
func notRules(t *testing.T) map[string]impl.Rule {
	l := map[string]impl.Rule{
		"the zero value":                {},
		"a hole on the left":            {Left: hole(0), Right: hole(0)},
		"a hole on the left, with Perm": {Left: hole(0, impl.SwapOf(0, 1)...), Right: node(0)},
		"another hole on the right":     rule(t, "- | f1(X0) > X1"),
		"another one on the right, too": rule(t, "- | f2(X0,X2) > f3(X0,X2,[a0](0 1)X1)"),
		"a hole where none is":          rule(t, "- | f0 > X0"),
		"another hole in the context":   rule(t, "a0#X1 | f1(X0) > X0"),
		"another one behind":            rule(t, "a0#X0,a1#X9 | f1(X0) > X0"),
		"another one in front":          rule(t, "a0#X0,a0#X1 | f1(X1) > X1"),
		"on the right alone":            rule(t, "a0#X1 | f1(X0) > f2(X0,X1)"),
	}
	for why, m := range notContexts() {
		l["context "+why] = impl.Rule{Context: m, Left: allHoles(), Right: node(0)}
	}
	for why, x := range notTerms() {
		l["left "+why] = impl.Rule{Left: x, Right: node(0)}
		l["right "+why] = impl.Rule{Left: allHoles(), Right: x}
	}
	return l
}

// notRuleLists tells, for each way in which a list can fail to be rules, one
// that fails in this way alone.
func notRuleLists(t *testing.T) map[string][]impl.Rule {
	good := rule(t, "- | f1(X0) > X0")
	l := map[string][]impl.Rule{"7 rules": slices.Repeat([]impl.Rule{good}, 7)}
	for why, r := range notRules(t) {
		l["alone "+why] = []impl.Rule{r}
		l["first "+why] = []impl.Rule{r, good}
		l["last "+why] = append(slices.Repeat([]impl.Rule{good}, 5), r)
	}
	return l
}

// notGround are terms with holes.
func notGround(t *testing.T) []impl.Term {
	return terms(t, "X0", "f1(X0)", "f2(f1(f0),(0 1)X9)", "[a0]f1([a1]X1)", "f1(f2(f1(a0),X3))")
}

// renamedByTable gives other names to a term, without the functions of the
// program.
func renamedByTable(table [impl.MaxAtom + 1]int, x impl.Term) impl.Term {
	y := impl.Term{Op: x.Op, N: x.N}
	switch x.Op {
	case impl.TmAtom, impl.TmBind:
		y.N = table[x.N]
	case impl.TmHole:
		var other [impl.MaxAtom + 1]int
		for a, b := range tableOf(x.Perm) {
			other[table[a]] = table[b]
		}
		y.Perm = pairsOf(other)
	}
	for _, kid := range x.Kids {
		y.Kids = append(y.Kids, renamedByTable(table, kid))
	}
	return y
}

func ruleByTable(table [impl.MaxAtom + 1]int, r impl.Rule) impl.Rule {
	s := impl.Rule{Left: renamedByTable(table, r.Left), Right: renamedByTable(table, r.Right)}
	for n := range impl.MaxHole + 1 {
		for a, b := range backOf(table) {
			if slices.Contains(r.Context, impl.Fresh{Atom: b, Hole: n}) {
				s.Context = append(s.Context, impl.Fresh{Atom: a, Hole: n})
			}
		}
	}
	return s
}

// backOf gives back what a table gave.
func backOf(table [impl.MaxAtom + 1]int) [impl.MaxAtom + 1]int {
	var back [impl.MaxAtom + 1]int
	for a, b := range table {
		back[b] = a
	}
	return back
}

// markAtoms marks the atoms of a term, also those that are bound or moved.
func markAtoms(marks *[impl.MaxAtom + 1]bool, x impl.Term) {
	toEach(x, func(y impl.Term) {
		if y.Op == impl.TmAtom || y.Op == impl.TmBind {
			marks[y.N] = true
		}
		for _, pair := range y.Perm {
			marks[pair.From] = true
		}
	})
}

// freshTable swaps each atom of a rule with its new one. It fails if it moves
// more than MaxMoved atoms, or there are too few.
func freshTable(r impl.Rule, x impl.Term) ([impl.MaxAtom + 1]int, bool) {
	var own, others [impl.MaxAtom + 1]bool
	markAtoms(&own, r.Left)
	markAtoms(&own, r.Right)
	for _, f := range r.Context {
		own[f.Atom] = true
	}
	markAtoms(&others, x)
	table := tableOf(nil)
	next, moved := 0, 0
	for a := range own {
		if !own[a] {
			continue
		}
		for next <= impl.MaxAtom && (own[next] || others[next]) {
			next++
		}
		moved += 2
		if next > impl.MaxAtom || moved > impl.MaxMoved {
			return table, false
		}
		table[a], table[next] = next, a
		next++
	}
	return table, true
}

func freshenedByHand(r impl.Rule, x impl.Term) (impl.Rule, bool) {
	table, ok := freshTable(r, x)
	if !ok {
		return impl.Rule{}, false
	}
	return ruleByTable(table, r), true
}

// givenByHand applies a rule to a ground term as the document tells it, with
// what the tests know of terms.
func givenByHand(r impl.Rule, x impl.Term) (impl.Term, bool) {
	fresh, ok := freshenedByHand(r, x)
	if !ok {
		return impl.Term{}, false
	}
	found, code := solvedStepwise(equation(fresh.Left, x))
	if code != impl.UnFine || !meets(fresh.Context, found.Subst) {
		return impl.Term{}, false
	}
	y := filled(fresh.Right, byHole(found.Subst))
	if sizeOf(y) > impl.MaxTerm || !allIn(freeIn(y), freeIn(x)) {
		return impl.Term{}, false
	}
	return y, true
}

func allIn(part, whole []int) bool {
	return !slices.ContainsFunc(part, func(a int) bool { return !slices.Contains(whole, a) })
}

// pathsByHand are the paths within a term, in no order that matters.
func pathsByHand(x impl.Term) [][]int {
	l := [][]int{}
	for i, kid := range x.Kids {
		for _, path := range pathsByHand(kid) {
			l = append(l, append([]int{i}, path...))
		}
	}
	return append(l, []int{})
}

func atByHand(x impl.Term, path []int) impl.Term {
	for _, i := range path {
		x = x.Kids[i]
	}
	return x
}

func putByHand(x impl.Term, path []int, u impl.Term) impl.Term {
	if len(path) == 0 {
		return u
	}
	y := impl.Term{Op: x.Op, N: x.N}
	for i, kid := range x.Kids {
		if i == path[0] {
			kid = putByHand(kid, path[1:], u)
		}
		y.Kids = append(y.Kids, kid)
	}
	return y
}

func rewrittenByHand(r impl.Rule, x impl.Term, path []int) (impl.Term, bool) {
	u, ok := givenByHand(r, atByHand(x, path))
	if !ok {
		return impl.Term{}, false
	}
	y := putByHand(x, path, u)
	return y, sizeOf(y) <= impl.MaxTerm
}

func steppedByHand(l []impl.Rule, x impl.Term) (impl.Term, bool) {
	paths := pathsByHand(x)
	slices.SortFunc(paths, slices.Compare)
	for _, path := range paths {
		for _, r := range l {
			if y, ok := rewrittenByHand(r, x, path); ok {
				return y, true
			}
		}
	}
	return impl.Term{}, false
}

func normalByHand(l []impl.Rule, x impl.Term, most int) (impl.Term, int, bool) {
	for count := 0; count <= most; count++ {
		y, ok := steppedByHand(l, x)
		if !ok {
			return x, count, true
		}
		x = y
	}
	return impl.Term{}, 0, false
}

// pattern puts holes in the place of the atoms that are free in a ground term,
// and of some other terms within it, so that a rule with it on the left may
// apply. What the holes stand for is kept in by; now and then a hole that is
// there already stands for something else.
func pattern(random *rand.Rand, x impl.Term, around []int, by map[int]impl.Term) impl.Term {
	if x.Op == impl.TmAtom && !slices.Contains(around, x.N) || random.Intn(4) == 0 {
		return holeFor(random, x, by)
	}
	y := impl.Term{Op: x.Op, N: x.N}
	if x.Op == impl.TmBind {
		around = append(slices.Clone(around), x.N)
	}
	for _, kid := range x.Kids {
		y.Kids = append(y.Kids, pattern(random, kid, around, by))
	}
	return y
}

func holeFor(random *rand.Rand, x impl.Term, by map[int]impl.Term) impl.Term {
	for {
		n, p := random.Intn(impl.MaxHole+1), []impl.Pair{}
		if random.Intn(3) == 0 {
			p = somePermutationOf(random, 4)
		}
		if _, found := by[n]; !found {
			by[n] = actedByTable(backTable(p), x)
		}
		if namelessAlone(actedByTable(tableOf(p), by[n])) == namelessAlone(x) || random.Intn(20) == 0 {
			return hole(n, p...)
		}
	}
}

// patternOf is a pattern that is no hole.
func patternOf(random *rand.Rand, x impl.Term) impl.Term {
	for {
		if y := pattern(random, x, []int{x.N}, map[int]impl.Term{}); y.Op != impl.TmHole {
			return y
		}
	}
}

// rightFor is a right side for a left one: this with other terms within it put
// at some paths, or any term of its holes.
func rightFor(random *rand.Rand, left impl.Term) impl.Term {
	y := left
	if random.Intn(3) == 0 {
		y = sewn(random, someTerm(random, 1+random.Intn(8), true), nil, holesWithin(left))
	}
	for range random.Intn(3) {
		from, to := pathsByHand(left), pathsByHand(y)
		y = putByHand(y, to[random.Intn(len(to))], atByHand(left, from[random.Intn(len(from))]))
	}
	if sizeOf(y) > impl.MaxTerm {
		return left
	}
	return y
}

// sewn leaves only the given holes in a term, and few free atoms.
func sewn(random *rand.Rand, x impl.Term, around []int, holes []int) impl.Term {
	y := impl.Term{Op: x.Op, N: x.N, Perm: x.Perm}
	isOut := x.Op == impl.TmAtom && !slices.Contains(around, x.N) && random.Intn(6) > 0
	switch {
	case len(holes) == 0 && (isOut || x.Op == impl.TmHole):
		return node(4)
	case isOut || x.Op == impl.TmHole && random.Intn(3) > 0:
		return hole(holes[random.Intn(len(holes))])
	case x.Op == impl.TmHole:
		y.N = holes[x.N%len(holes)]
	case x.Op == impl.TmBind:
		around = append(slices.Clone(around), x.N)
	}
	for _, kid := range x.Kids {
		y.Kids = append(y.Kids, sewn(random, kid, around, holes))
	}
	return y
}

// someRule is a random one that may apply to a term, which is no atom.
func someRule(random *rand.Rand, x impl.Term) impl.Rule {
	left := patternOf(random, variant(random, x, false))
	r := impl.Rule{Left: left, Right: rightFor(random, left)}
	for _, n := range holesWithin(left) {
		for a := range 6 {
			if random.Intn(20) == 0 {
				r.Context = append(r.Context, impl.Fresh{Atom: a, Hole: n})
			}
		}
	}
	return r
}

// someInner is a random ground term that is no atom.
func someInner(random *rand.Rand, most int) impl.Term {
	for {
		if x := someTerm(random, most, false); x.Op != impl.TmAtom {
			return x
		}
	}
}

// within puts x at a random path of a ground term of few nodes.
func within(random *rand.Rand, x impl.Term) impl.Term {
	whole := someTerm(random, 1+random.Intn(12), false)
	paths := pathsByHand(whole)
	return putByHand(whole, paths[random.Intn(len(paths))], x)
}
