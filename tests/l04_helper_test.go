package tests

import (
	"math/rand"
	"slices"
	"strings"
	"testing"

	"loop.example/g03112/impl"
)

// problem is the one with the texts, each of two terms with " = " between them.
func problem(t *testing.T, texts ...string) []impl.Equation {
	t.Helper()
	l := []impl.Equation{}
	for _, text := range texts {
		left, right, _ := strings.Cut(text, " = ")
		l = append(l, impl.Equation{Left: term(t, left), Right: term(t, right)})
	}
	return l
}

// equation is the problem of one equation.
func equation(s, t impl.Term) []impl.Equation {
	return []impl.Equation{{Left: s, Right: t}}
}

// answer tells what solving returns: the text of a solution, or the name of
// another code.
func answer(x impl.Solution, code int) string {
	if code == impl.UnFine {
		return impl.FormatSolution(x)
	}
	names := map[int]string{impl.UnBad: "bad", impl.UnClash: "clash", impl.UnOccurs: "occurs", impl.UnFresh: "fresh", impl.UnOver: "over"}
	if len(x.Subst) > 0 || len(x.Context) > 0 {
		return names[code] + " with a solution"
	}
	return names[code]
}

// problemText tells a problem where a test fails.
func problemText(l []impl.Equation) string {
	texts := []string{}
	for _, e := range l {
		texts = append(texts, impl.FormatTerm(e.Left)+" = "+impl.FormatTerm(e.Right))
	}
	return strings.Join(texts, "; ")
}

// notProblems tells, for each way in which a list can fail to be a problem, one
// that fails in this way alone.
func notProblems() map[string][]impl.Equation {
	l := map[string][]impl.Equation{
		"9 equations":       slices.Repeat(equation(atom(0), atom(0)), 9),
		"9 that clash":      slices.Repeat(equation(atom(0), atom(1)), 9),
		"a bad one behind":  append(equation(atom(0), atom(1)), equation(atom(0), impl.Term{})...),
		"a bad eighth one":  append(slices.Repeat(equation(hole(0), atom(0)), 7), equation(atom(1000), atom(0))...),
		"no terms, alike":   equation(atom(1000), atom(1000)),
		"no term in a hole": equation(hole(0), atom(1000)),
	}
	for why, x := range notTerms() {
		l["left "+why] = equation(x, hole(1))
		l["right "+why] = equation(hole(1), x)
	}
	return l
}

// notSolutions tells, for each way in which a value can fail to be one of a
// substitution and a context, one that fails in this way alone.
func notSolutions() map[string]impl.Solution {
	l := map[string]impl.Solution{}
	for why, s := range notSubstitutions() {
		l[why] = impl.Solution{Subst: s}
	}
	for why, m := range notContexts() {
		l[why] = impl.Solution{Subst: binding(8, atom(500)), Context: m}
	}
	return l
}

// solution is the one of a context and the substitution with the texts.
func solution(t *testing.T, m string, texts ...string) impl.Solution {
	t.Helper()
	return impl.Solution{Subst: bindings(t, texts...), Context: context(t, m)}
}

// askedFresh is, in stepwise, that an atom be fresh for a term.
type askedFresh struct {
	atom int
	of   impl.Term
}

// stepwise solves a problem step by step, as the document tells it, with what
// the tests know of terms.
type stepwise struct {
	equations []impl.Equation
	asks      []askedFresh
	by        map[int]impl.Term
}

func solvedStepwise(l []impl.Equation) (impl.Solution, int) {
	x := stepwise{equations: slices.Clone(l), by: map[int]impl.Term{}}
	for taken := 0; len(x.equations) > 0; taken++ {
		if taken == impl.MaxTaken {
			return impl.Solution{}, impl.UnOver
		}
		e := x.equations[0]
		x.equations = x.equations[1:]
		if code := x.take(e.Left, e.Right); code != impl.UnFine {
			return impl.Solution{}, code
		}
	}
	m := []impl.Fresh{}
	for _, a := range x.asks {
		needed, ok := impl.FreshNeeds(a.atom, a.of)
		m, _ = impl.MergeContexts(m, needed)
		// With nothing the merged context is too long.
		if !ok || !hasAll(m, needed) {
			return impl.Solution{}, impl.UnFresh
		}
	}
	s := []impl.Binding{}
	for n := range impl.MaxHole + 1 {
		if u, found := x.by[n]; found {
			s = append(s, impl.Binding{Hole: n, Term: u})
		}
	}
	return impl.Solution{Subst: s, Context: m}, impl.UnFine
}

func (x *stepwise) take(s, t impl.Term) int {
	both := func(op int) bool { return s.Op == op && t.Op == op }
	switch {
	case both(impl.TmAtom) && s.N == t.N:
	case both(impl.TmNode) && s.N == t.N:
		front := []impl.Equation{}
		for i := range s.Kids {
			front = append(front, impl.Equation{Left: s.Kids[i], Right: t.Kids[i]})
		}
		x.equations = append(front, x.equations...)
	case both(impl.TmBind):
		body := t.Kids[0]
		if s.N != t.N {
			x.asks = append(x.asks, askedFresh{atom: s.N, of: body})
			body = actedByTable(tableOf(impl.SwapOf(s.N, t.N)), body)
		}
		x.equations = append(equation(s.Kids[0], body), x.equations...)
	case both(impl.TmHole) && s.N == t.N:
		p, q := tableOf(s.Perm), tableOf(t.Perm)
		for a := range p {
			if p[a] != q[a] {
				x.asks = append(x.asks, askedFresh{atom: a, of: hole(s.N)})
			}
		}
	case s.Op == impl.TmHole:
		return x.bind(s, t)
	case t.Op == impl.TmHole:
		return x.bind(t, s)
	default:
		return impl.UnClash
	}
	return impl.UnFine
}

func (x *stepwise) bind(s, t impl.Term) int {
	if slices.Contains(holesWithin(t), s.N) {
		return impl.UnOccurs
	}
	code := impl.UnFine
	alone := map[int]impl.Term{s.N: actedByTable(backTable(s.Perm), t)}
	put := func(u impl.Term) impl.Term {
		u = filled(u, alone)
		if !impl.IsTerm(u) {
			code = impl.UnOver
		}
		return u
	}
	x.by[s.N] = hole(s.N)
	for n := range x.by {
		x.by[n] = put(x.by[n])
	}
	for i, e := range x.equations {
		x.equations[i] = impl.Equation{Left: put(e.Left), Right: put(e.Right)}
	}
	for i, a := range x.asks {
		x.asks[i] = askedFresh{atom: a.atom, of: put(a.of)}
	}
	return code
}

// backTable gives back what a permutation gave.
func backTable(p []impl.Pair) [impl.MaxAtom + 1]int {
	var back [impl.MaxAtom + 1]int
	for a, b := range tableOf(p) {
		back[b] = a
	}
	return back
}

// punched puts holes in the place of some terms within a ground term, with Perm
// of the atoms 0, 1 and 2. What the holes stand for is kept in by: filled with
// it, the result is equal to x up to renaming.
func punched(random *rand.Rand, x impl.Term, by map[int]impl.Term) impl.Term {
	if random.Intn(3) == 0 {
		n, p := random.Intn(4), somePermutationOf(random, 3)
		if _, found := by[n]; !found {
			by[n] = actedByTable(backTable(p), x)
		}
		if namelessAlone(actedByTable(tableOf(p), by[n])) == namelessAlone(x) {
			return hole(n, p...)
		}
	}
	y := impl.Term{Op: x.Op, N: x.N}
	for _, kid := range x.Kids {
		y.Kids = append(y.Kids, punched(random, kid, by))
	}
	return y
}
