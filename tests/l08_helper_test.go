package tests

import (
	"math"
	"math/rand"
	"slices"
	"strconv"
	"testing"

	"loop.example/g03112/impl"
)

func bound(n int, kids ...impl.Index) impl.Index {
	return impl.Index{Op: impl.InBound, N: n, Kids: kids}
}

func free(a int, kids ...impl.Index) impl.Index {
	return impl.Index{Op: impl.InFree, N: a, Kids: kids}
}

func fun(kids ...impl.Index) impl.Index {
	return impl.Index{Op: impl.InFun, Kids: kids}
}

func apply(kids ...impl.Index) impl.Index {
	return impl.Index{Op: impl.InApply, Kids: kids}
}

// funs is x with count InFun around it.
func funs(count int, x impl.Index) impl.Index {
	for range count {
		x = fun(x)
	}
	return x
}

// applies is an index term of 2 * count + 1 nodes with count InApply, which lie
// in the first kids, and x at all other places.
func applies(count int, x impl.Index) impl.Index {
	y := x
	for range count {
		y = apply(y, x)
	}
	return y
}

// lambda is the function of an atom.
func lambda(a int, body impl.Term) impl.Term {
	return node(impl.LaFun, bind(a, body))
}

func applied(function, argument impl.Term) impl.Term {
	return node(impl.LaApply, function, argument)
}

// functionTerm is the one with the text; the text must have one.
func functionTerm(t *testing.T, text string) impl.Term {
	t.Helper()
	x := term(t, text)
	if !isFunctionByHand(x) {
		t.Fatalf("%s is no function term", text)
	}
	return x
}

// index is the index term with the text; the text must have one.
func index(t *testing.T, text string) impl.Index {
	t.Helper()
	x, ok := impl.ParseIndex(text)
	if !ok {
		t.Fatalf("no index term with the text %q", text)
	}
	return x
}

// toldIndex is the text of what is returned, and "-" for nothing.
func toldIndex(x impl.Index, ok bool) string {
	if ok {
		return indexText(x)
	}
	if x.Op == 0 && x.N == 0 && len(x.Kids) == 0 {
		return "-"
	}
	return "- with " + indexText(x)
}

// indexText tells an index term, without the functions of the program.
func indexText(x impl.Index) string {
	switch x.Op {
	case impl.InBound:
		return strconv.Itoa(x.N)
	case impl.InFree:
		return "a" + strconv.Itoa(x.N)
	case impl.InFun:
		return "\\" + indexText(x.Kids[0])
	}
	return "(" + indexText(x.Kids[0]) + " " + indexText(x.Kids[1]) + ")"
}

func indexSize(x impl.Index) int {
	size := 1
	for _, kid := range x.Kids {
		size += indexSize(kid)
	}
	return size
}

// greatestBound is the greatest N of an InBound, and -1 without one.
func greatestBound(x impl.Index) int {
	most := -1
	if x.Op == impl.InBound {
		most = x.N
	}
	for _, kid := range x.Kids {
		most = max(most, greatestBound(kid))
	}
	return most
}

// indexInItself is a value whose kids, all of them, are kept in the list in
// which it lies itself.
func indexInItself(op, n, count int) impl.Index {
	kids := make([]impl.Index, count)
	for i := range kids {
		kids[i] = impl.Index{Op: op, N: n, Kids: kids}
	}
	return kids[0]
}

// notIndices tells, for each way in which a value can fail to be an index term,
// one that fails in this way alone.
func notIndices() map[string]impl.Index {
	l := map[string]impl.Index{
		"nothing":                  {},
		"Op 5":                     {Op: 5},
		"Op 5 with a kid":          {Op: 5, Kids: []impl.Index{bound(0)}},
		"Op -1":                    {Op: -1},
		"the least Op":             {Op: math.MinInt},
		"a bound one with a kid":   bound(0, bound(0)),
		"a free one with a kid":    free(0, free(0)),
		"a function without a kid": fun(),
		"a function with two kids": fun(bound(0), bound(0)),
		"a function with 1":        {Op: impl.InFun, N: 1, Kids: []impl.Index{bound(0)}},
		"a function with -1":       {Op: impl.InFun, N: -1, Kids: []impl.Index{bound(0)}},
		"applied without kids":     apply(),
		"applied with one kid":     apply(free(0)),
		"applied with three kids":  apply(fun(bound(0)), free(0), free(0)),
		"applied with 1":           {Op: impl.InApply, N: 1, Kids: []impl.Index{fun(bound(0)), free(0)}},
		"applied with -1":          {Op: impl.InApply, N: -1, Kids: []impl.Index{fun(bound(0)), free(0)}},
		"a kid that is none":       apply(fun(bound(0)), impl.Index{}),
		"a body that is none":      apply(fun(impl.Index{}), bound(0)),
		"one that is none, deeper": fun(apply(fun(bound(0)), fun(apply(bound(0), fun(free(1000)))))),
		"61 nodes":                 funs(60, bound(0)),
		"61 nodes beside others":   applies(30, free(0)),
		"61 nodes with a redex":    apply(funs(58, bound(0)), free(0)),
		"a function in itself":     indexInItself(impl.InFun, 0, 1),
		"applied in itself":        indexInItself(impl.InApply, 0, 2),
	}
	for _, n := range []int{-1, 1000, math.MinInt, math.MaxInt} {
		l["bound "+strconv.Itoa(n)] = bound(n)
		l["bound in a redex "+strconv.Itoa(n)] = apply(fun(bound(0)), bound(n))
	}
	for _, a := range notAtoms {
		l["free "+strconv.Itoa(a)] = free(a)
		l["free in a redex "+strconv.Itoa(a)] = apply(fun(free(a)), free(0))
	}
	return l
}

// notFunctions are terms that are no function terms, and values that are no
// terms.
func notFunctions(t *testing.T) map[string]impl.Term {
	l := notTerms()
	for _, text := range []string{
		"X0", "(0 1)X3", "f1([a0]X0)", "f2(a0,X1)", "f2(X0,a1)", "f2(f1([a0]a0),X1)", // not ground
		"f0", "f4", "f8", "f2(a0,f0)", "f1([a0]f4)", "f2(f1([a0]f8),a0)", // no such node
		"f1(a0)", "f1(f1([a0]a0))", "f1(f0)", "f1(f2(a0,a0))", "f2(f1(a0),a0)", "f1([a0]f1(a0))", "f2(f1([a0]a0),f1(a1))", // no binder
		"[a0]a0", "f1([a0][a1]a0)", "f2([a0]a0,a1)", "f2(a0,[a0]a0)", "[a0]f1([a0]a0)", "f2(f1([a0]a0),[a0]a0)", // no function
		"f5([a0]a0)", "f9([a0]a0)", "f6(a0,a1)", "f10(f1([a0]a0),a1)", "f2(f5([a0]a0),a1)", "f3(a0,a0,a0)", "f7(f1([a0]a0),a0,a0)", // other symbols
	} {
		l[text] = term(t, text)
	}
	return l
}

func isFunctionByHand(x impl.Term) bool {
	switch {
	case x.Op == impl.TmAtom:
		return true
	case x.Op != impl.TmNode || x.N != impl.LaFun && x.N != impl.LaApply:
		return false
	case x.N == impl.LaApply:
		return isFunctionByHand(x.Kids[0]) && isFunctionByHand(x.Kids[1])
	}
	return x.Kids[0].Op == impl.TmBind && isFunctionByHand(x.Kids[0].Kids[0])
}

// indexByHand is the index term of a function term. What is around is how many
// functions lie around the one that binds an atom, for those that are bound.
func indexByHand(x impl.Term, around map[int]int, depth int) impl.Index {
	switch {
	case x.Op == impl.TmAtom:
		if at, found := around[x.N]; found {
			return bound(depth - 1 - at)
		}
		return free(x.N)
	case x.N == impl.LaApply:
		return apply(indexByHand(x.Kids[0], around, depth), indexByHand(x.Kids[1], around, depth))
	}
	inside := map[int]int{}
	for a, at := range around {
		inside[a] = at
	}
	inside[x.Kids[0].N] = depth
	return fun(indexByHand(x.Kids[0].Kids[0], inside, depth+1))
}

// isClosedByHand reports whether no InBound leads out of x.
func isClosedByHand(x impl.Index) bool {
	return indexText(x) == indexText(movedOut(x, 1, 0))
}

// movedOut adds by to each InBound that leads out of x, which lies within so
// many functions.
func movedOut(x impl.Index, by, around int) impl.Index {
	y := impl.Index{Op: x.Op, N: x.N}
	if x.Op == impl.InBound && x.N >= around {
		y.N += by
	}
	if x.Op == impl.InFun {
		around++
	}
	for _, kid := range x.Kids {
		y.Kids = append(y.Kids, movedOut(kid, by, around))
	}
	return y
}

// putFor puts u in the place of the InBound that leads to the number n.
func putFor(x impl.Index, n int, u impl.Index) impl.Index {
	switch x.Op {
	case impl.InBound:
		if x.N == n {
			return u
		}
	case impl.InFun:
		return fun(putFor(x.Kids[0], n+1, movedOut(u, 1, 0)))
	case impl.InApply:
		return apply(putFor(x.Kids[0], n, u), putFor(x.Kids[1], n, u))
	}
	return x
}

// stepByHand contracts the first redex of an index term, with no regard to what
// is an index term, and reports whether there was one.
func stepByHand(x impl.Index) (impl.Index, bool) {
	if x.Op == impl.InApply && x.Kids[0].Op == impl.InFun {
		body := putFor(x.Kids[0].Kids[0], 0, movedOut(x.Kids[1], 1, 0))
		return movedOut(body, -1, 0), true
	}
	for i, kid := range x.Kids {
		if next, found := stepByHand(kid); found {
			y := impl.Index{Op: x.Op, Kids: slices.Clone(x.Kids)}
			y.Kids[i] = next
			return y, true
		}
	}
	return x, false
}

// fitsIndex reports whether what comes of contracting is an index term.
func fitsIndex(x impl.Index) bool {
	return indexSize(x) <= impl.MaxTerm && greatestBound(x) <= impl.MaxWhere
}

// replacedNamesByHand puts u in the place of the free occurrences of a.
func replacedNamesByHand(x impl.Term, a int, u impl.Term) impl.Term {
	switch {
	case !slices.Contains(freeIn(x), a):
		return x
	case x.Op == impl.TmAtom:
		return u
	case x.Op == impl.TmBind && slices.Contains(freeIn(u), x.N):
		n := 0
		for n == a || slices.Contains(freeIn(x.Kids[0]), n) || slices.Contains(freeIn(u), n) {
			n++
		}
		x = swapped(x, x.N, n)
	}
	y := impl.Term{Op: x.Op, N: x.N}
	for _, kid := range x.Kids {
		y.Kids = append(y.Kids, replacedNamesByHand(kid, a, u))
	}
	return y
}

// stepNamesByHand contracts the first redex of a function term, whatever the
// size of the result, and reports whether there was one.
func stepNamesByHand(x impl.Term) (impl.Term, bool) {
	if x.Op == impl.TmNode && x.N == impl.LaApply && x.Kids[0].Op == impl.TmNode && x.Kids[0].N == impl.LaFun {
		binder := x.Kids[0].Kids[0]
		return replacedNamesByHand(binder.Kids[0], binder.N, x.Kids[1]), true
	}
	for i, kid := range x.Kids {
		if next, found := stepNamesByHand(kid); found {
			y := impl.Term{Op: x.Op, N: x.N, Kids: slices.Clone(x.Kids)}
			y.Kids[i] = next
			return y, true
		}
	}
	return x, false
}

// runByNames does what RunNames does.
func runByNames(x impl.Term, most int) (impl.Term, int, bool) {
	for count := 0; ; count++ {
		next, found := stepNamesByHand(x)
		if !found {
			return x, count, true
		}
		if count == most || sizeOf(next) > impl.MaxTerm {
			return impl.Term{}, 0, false
		}
		x = next
	}
}

// smallFunctions are all function terms with count nodes of the atoms 0, 1 and
// 2. (The number of nodes is odd.)
func smallFunctions(count int) []impl.Term {
	if count == 1 {
		return []impl.Term{atom(0), atom(1), atom(2)}
	}
	l := []impl.Term{}
	for a := range 3 {
		if count > 2 {
			for _, x := range smallFunctions(count - 2) {
				l = append(l, lambda(a, x))
			}
		}
	}
	for first := 1; first < count-1; first++ {
		for _, x := range smallFunctions(first) {
			for _, y := range smallFunctions(count - 1 - first) {
				l = append(l, applied(x, y))
			}
		}
	}
	return l
}

// smallIndices are all index terms with count nodes of the leaves.
func smallIndices(leaves []impl.Index, count int) []impl.Index {
	if count == 1 {
		return leaves
	}
	l := []impl.Index{}
	for _, x := range smallIndices(leaves, count-1) {
		l = append(l, fun(x))
	}
	for first := 1; first < count-1; first++ {
		for _, x := range smallIndices(leaves, first) {
			for _, y := range smallIndices(leaves, count-1-first) {
				l = append(l, apply(x, y))
			}
		}
	}
	return l
}

// someFunction is a random function term of at most the given number of nodes,
// with few atoms, so that they are often bound, and many redexes.
func someFunction(random *rand.Rand, most int) impl.Term {
	kind := random.Intn(9)
	switch {
	case most < 3 || kind == 0:
		return atom(random.Intn(4))
	case kind < 4:
		return lambda(random.Intn(4), someFunction(random, most-2))
	case kind < 7 && most >= 5:
		first := 1 + random.Intn(most-4)
		return applied(lambda(random.Intn(4), someFunction(random, first)), someFunction(random, most-3-first))
	}
	first := 1 + random.Intn(most-2)
	return applied(someFunction(random, first), someFunction(random, most-1-first))
}

// someIndex is a random index term of at most the given number of nodes, from
// which many InBound lead out.
func someIndex(random *rand.Rand, most int) impl.Index {
	kind := random.Intn(9)
	switch {
	case most < 2 || kind == 0:
		if random.Intn(5) == 0 {
			return free(random.Intn(3))
		}
		if random.Intn(100) == 0 {
			return bound(impl.MaxWhere - random.Intn(3))
		}
		return bound(random.Intn(4))
	case kind < 4 || most < 3:
		return fun(someIndex(random, most-1))
	case kind < 7 && most >= 4:
		first := 1 + random.Intn(most-3)
		return apply(fun(someIndex(random, first)), someIndex(random, most-2-first))
	}
	first := 1 + random.Intn(most-2)
	return apply(someIndex(random, first), someIndex(random, most-1-first))
}

func someFunctions(seed int64, count int) []impl.Term {
	random := rand.New(rand.NewSource(seed))
	l := []impl.Term{}
	for range count {
		l = append(l, someFunction(random, 1+random.Intn(impl.MaxTerm)))
	}
	return l
}

func someIndices(seed int64, count int) []impl.Index {
	random := rand.New(rand.NewSource(seed))
	l := []impl.Index{}
	for range count {
		l = append(l, someIndex(random, 1+random.Intn(impl.MaxTerm)))
	}
	return l
}
