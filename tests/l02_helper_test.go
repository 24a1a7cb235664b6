package tests

import (
	"math"
	"math/rand"
	"slices"
	"strconv"
	"strings"
	"testing"

	"loop.example/g03112/impl"
)

// term is the term with the text; the text must have one.
func term(t *testing.T, text string) impl.Term {
	t.Helper()
	x, ok := impl.ParseTerm(text)
	if !ok {
		t.Fatalf("no term with the text %q", text)
	}
	return x
}

func terms(t *testing.T, texts ...string) []impl.Term {
	t.Helper()
	l := []impl.Term{}
	for _, text := range texts {
		l = append(l, term(t, text))
	}
	return l
}

func atom(a int) impl.Term {
	return impl.Term{Op: impl.TmAtom, N: a}
}

func node(symbol int, kids ...impl.Term) impl.Term {
	return impl.Term{Op: impl.TmNode, N: symbol, Kids: kids}
}

func bind(a int, kids ...impl.Term) impl.Term {
	return impl.Term{Op: impl.TmBind, N: a, Kids: kids}
}

func hole(n int, perm ...impl.Pair) impl.Term {
	return impl.Term{Op: impl.TmHole, N: n, Perm: perm}
}

// under is x with count nodes of the symbol 1 around it.
func under(count int, x impl.Term) impl.Term {
	for range count {
		x = node(1, x)
	}
	return x
}

// inItself is a value whose kids, all of them, are kept in the list in which it
// lies itself.
func inItself(op, n, count int) impl.Term {
	kids := make([]impl.Term, count)
	for i := range kids {
		kids[i] = impl.Term{Op: op, N: n, Kids: kids}
	}
	return kids[0]
}

// notTerms tells, for each way in which a value can fail to be a term, one that
// fails in this way alone where that is possible.
func notTerms() map[string]impl.Term {
	swap := pairs(0, 1, 1, 0)
	l := map[string]impl.Term{
		"nothing":                  {},
		"another Op":               {Op: 5},
		"an Op below all":          {Op: -1},
		"the least Op":             {Op: math.MinInt},
		"an atom with Perm":        {Op: impl.TmAtom, Perm: swap},
		"an atom with a kid":       {Op: impl.TmAtom, Kids: []impl.Term{atom(0)}},
		"a node with Perm":         {Op: impl.TmNode, N: 0, Perm: swap},
		"symbol -1":                node(-1),
		"symbol -4":                node(-4),
		"symbol -3 with a kid":     node(-3, atom(0)),
		"symbol 12":                node(12),
		"symbol 13 with a kid":     node(13, atom(0)),
		"the least symbol":         node(math.MinInt),
		"symbol 0 with a kid":      node(0, atom(0)),
		"symbol 1 without a kid":   node(1),
		"symbol 1 with two kids":   node(1, atom(0), atom(0)),
		"symbol 11 with two kids":  node(11, atom(0), atom(0)),
		"symbol 11 with four kids": node(11, atom(0), atom(0), atom(0), atom(0)),
		"symbol 4 with four kids":  node(4, atom(0), atom(0), atom(0), atom(0)),
		"a binder with Perm":       {Op: impl.TmBind, Perm: swap, Kids: []impl.Term{atom(0)}},
		"a binder without a kid":   bind(0),
		"a binder with two kids":   bind(0, atom(0), atom(0)),
		"hole -1":                  hole(-1),
		"hole 10":                  hole(10),
		"a hole with a kid":        {Op: impl.TmHole, Kids: []impl.Term{atom(0)}},
		"a kid that is none":       node(2, atom(0), impl.Term{}),
		"a body that is none":      bind(0, atom(1000)),
		"one that is none, deeper": bind(0, node(3, hole(1), atom(0), node(1, bind(0)))),
		"61 nodes":                 under(60, atom(0)),
		"61 nodes with a hole":     under(60, hole(0)),
		"a binder in itself":       inItself(impl.TmBind, 0, 1),
		"a node in itself":         inItself(impl.TmNode, 3, 3),
	}
	for _, a := range notAtoms {
		l["the atom "+strconv.Itoa(a)] = atom(a)
		l["a binder of "+strconv.Itoa(a)] = bind(a, atom(0))
	}
	for why, p := range notPermutations() {
		l["a hole, Perm "+why] = hole(3, p...)
	}
	return l
}

// isZero reports whether x is the zero value.
func isZero(x impl.Term) bool {
	return x.Op == 0 && x.N == 0 && len(x.Perm) == 0 && len(x.Kids) == 0
}

// same reports whether both are the same terms, without the functions of the
// program.
func same(x, y impl.Term) bool {
	return x.Op == y.Op && x.N == y.N && slices.Equal(x.Perm, y.Perm) && slices.EqualFunc(x.Kids, y.Kids, same)
}

// nameless writes a ground term without the names that are bound: a bound atom
// by the number of binders between it and its own. The atoms of the binders
// around the term are told from the outermost one on, and what is free is
// written by free. Two terms are equal up to renaming if they are written alike.
func nameless(x impl.Term, around []int, free func(int) string) string {
	switch x.Op {
	case impl.TmAtom:
		for i := range around {
			if around[len(around)-1-i] == x.N {
				return "<" + strconv.Itoa(i) + ">"
			}
		}
		return free(x.N)
	case impl.TmBind:
		return "[]" + nameless(x.Kids[0], append(slices.Clone(around), x.N), free)
	}
	l := []string{}
	for _, kid := range x.Kids {
		l = append(l, nameless(kid, around, free))
	}
	return strconv.Itoa(x.N) + "(" + strings.Join(l, " ") + ")"
}

func namelessAlone(x impl.Term) string {
	return nameless(x, nil, strconv.Itoa)
}

// freeIn are the free atoms of a term, ascending, told by nameless.
func freeIn(x impl.Term) []int {
	l := []int{}
	nameless(x, nil, func(a int) string {
		l = append(l, a)
		return ""
	})
	slices.Sort(l)
	return slices.Compact(l)
}

func sizeOf(x impl.Term) int {
	size := 1
	for _, kid := range x.Kids {
		size += sizeOf(kid)
	}
	return size
}

// smallTerms are all ground terms with count nodes, of the atoms 0, 1 and 2 and
// the symbols 0, 1 and 2.
func smallTerms(count int) []impl.Term {
	return smallFrom([]impl.Term{atom(0), atom(1), atom(2), node(0)}, count)
}

// smallFrom are all terms with count nodes, of the leaves, binders of the atoms
// 0, 1 and 2, and the symbols 1 and 2.
func smallFrom(leaves []impl.Term, count int) []impl.Term {
	if count == 1 {
		return leaves
	}
	l := []impl.Term{}
	for _, x := range smallFrom(leaves, count-1) {
		l = append(l, node(1, x), bind(0, x), bind(1, x), bind(2, x))
	}
	for first := 1; first < count-1; first++ {
		for _, x := range smallFrom(leaves, first) {
			for _, y := range smallFrom(leaves, count-1-first) {
				l = append(l, node(2, x, y))
			}
		}
	}
	return l
}

// someTerm is a random term of at most the given number of nodes, with few
// atoms, so that they are often bound; and with holes, if these are asked for.
func someTerm(random *rand.Rand, most int, holes bool) impl.Term {
	kind := random.Intn(8)
	switch {
	case holes && (most == 1 && kind < 3 || kind == 0):
		all := somePermutationOf(random, 5)
		return hole(random.Intn(impl.MaxHole+1), all...)
	case most == 1 || kind == 1:
		if random.Intn(9) == 0 {
			return node(4 * random.Intn(3))
		}
		return atom(random.Intn(5))
	case kind < 5:
		return bind(random.Intn(5), someTerm(random, most-1, holes))
	}
	count := min(1+random.Intn(3), most-1)
	kids := []impl.Term{}
	for range count {
		kids = append(kids, someTerm(random, (most-1)/count, holes))
	}
	return node(count+4*random.Intn(3), kids...)
}

func somePermutationOf(random *rand.Rand, count int) []impl.Pair {
	p := []impl.Pair{}
	for a, b := range random.Perm(count) {
		if a != b {
			p = append(p, impl.Pair{From: a, To: b})
		}
	}
	return p
}

func someTerms(count int, holes bool) []impl.Term {
	random := rand.New(rand.NewSource(2))
	l := []impl.Term{}
	for range count {
		l = append(l, someTerm(random, 1+random.Intn(30), holes))
	}
	return l
}
