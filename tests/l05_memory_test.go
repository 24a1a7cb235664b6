package tests

import (
	"math/rand"
	"slices"
	"strings"
	"testing"

	"loop.example/g03112/impl"
)

var markRule = impl.Rule{Left: markTerm, Right: markTerm}

// roomyRule is the same value, with spare capacity in each slice.
func roomyRule(r impl.Rule) impl.Rule {
	return impl.Rule{Context: roomy(r.Context, markFresh), Left: roomyTerm(r.Left), Right: roomyTerm(r.Right)}
}

func roomyRules(l []impl.Rule) []impl.Rule {
	m := []impl.Rule{}
	for _, r := range l {
		m = append(m, roomyRule(r))
	}
	return roomy(m, markRule)
}

// isRoomyRule reports whether r is still what roomyRule has made of s.
func isRoomyRule(r, s impl.Rule) bool {
	for _, f := range r.Context[len(r.Context):cap(r.Context)][:50] {
		if f != markFresh {
			return false
		}
	}
	return slices.Equal(r.Context, s.Context) && isRoomy(r.Left, s.Left) && isRoomy(r.Right, s.Right)
}

func areRoomyRules(l, m []impl.Rule) bool {
	for _, r := range l[len(l):cap(l)][:50] {
		if len(r.Context) > 0 || !same(r.Left, markTerm) || !same(r.Right, markTerm) {
			return false
		}
	}
	return slices.EqualFunc(l, m, isRoomyRule)
}

func overwriteGiven(x impl.Term, _ bool) {
	overwriteTerm(x)
}

func overwriteRule(r impl.Rule, _ bool) {
	overwriteTerm(r.Left)
	overwriteTerm(r.Right)
	overwrite(r.Context, spoiltFresh)
}

// useRules calls every function of chapter 5, and writes over all that is
// returned.
func useRules(l []impl.Rule, x, u impl.Term, p []impl.Pair, at []int) {
	impl.AreRules(l)
	for _, r := range l {
		impl.IsRule(r)
		overwriteRule(impl.ActOnRule(p, r))
		overwriteRule(impl.ActOnRule(nil, r))
		overwriteRule(impl.FreshenRule(r, x))
		overwriteRule(impl.FreshenRule(r, r.Right))
		overwriteGiven(impl.GivenBy(r, x))
		overwriteGiven(impl.RewriteAt(r, x, at))
		overwriteGiven(impl.RewriteAt(r, x, nil))
	}
	paths := impl.PathsOf(x)
	for _, path := range paths {
		overwrite(path, 77)
	}
	overwrite(paths, []int{77})
	overwriteGiven(impl.TermAt(x, at))
	overwriteGiven(impl.TermAt(x, nil))
	overwriteGiven(impl.PutAt(x, at, u))
	overwriteGiven(impl.PutAt(x, nil, u))
	overwriteGiven(impl.PutAt(x, at, x))
	overwriteGiven(impl.StepTerm(l, x))
	for most := range 4 {
		y, _, ok := impl.NormalForm(l, x, most)
		overwriteGiven(y, ok)
	}
}

func TestRuleArgumentsStay(t *testing.T) {
	lists := [][]impl.Rule{
		nil,
		rules(t, "a0#X0 | f1([a0]f2(X0,a0)) > X0", "- | [a0]X0 > [a0]f1((0 1)X0)"),
		rules(t, "- | f1(X0) > f2(X0,X0)", "a0#X0,a3#X0 | f1(X0) > [a0](1 2)X0", "- | f2(X0,[a1]X1) > X0"),
	}
	for why, l := range notRuleLists(t) {
		if strings.HasPrefix(why, "alone") && !strings.HasSuffix(why, "in itself") {
			lists = append(lists, l)
		}
	}
	x := terms(t, "f1([a5]f2(a1,a5))", "f2(f1([a1]a1),[a0]f1(a0))", "a0", "f2(X0,(0 1)X1)", "[a3]f1(a3)")
	x = append(x, impl.Term{}, node(2, atom(1000), hole(3)), impl.Term{Op: impl.TmHole, Perm: pairs(1, 0, 0, 1)})
	for i, l := range lists {
		for j, y := range x {
			u, at := x[(i+j)%len(x)], [][]int{{0}, {0, 0}, {1}, {7}}[(i+j)%4]
			l1, y1, u1, p1, at1 := roomyRules(l), roomyTerm(y), roomyTerm(u), roomy(read(t, "(0 1)(2 3)"), markPair), roomy(at, 33)
			wholeP, wholeAt := slices.Clone(p1[:cap(p1)]), slices.Clone(at1[:cap(at1)])
			useRules(l1, y1, u1, p1, at1)
			if !areRoomyRules(l1, l) || !isRoomy(y1, y) || !isRoomy(u1, u) || !slices.Equal(p1[:cap(p1)], wholeP) || !slices.Equal(at1[:cap(at1)], wholeAt) {
				t.Fatalf("%v, %v, %v: an argument is changed", l, y, u)
			}
		}
	}
}

// placesOfRule is what places is, for rules.
func placesOfRule(r impl.Rule, found map[any]bool) bool {
	alone := true
	whole := r.Context[:cap(r.Context)]
	for i := range whole {
		alone = alone && !found[&whole[i]]
		found[&whole[i]] = true
	}
	alone = places(r.Left, found) && alone
	return places(r.Right, found) && alone
}

// A result shares no memory with an argument, and no two slices in it do.
func TestRulesStandAlone(t *testing.T) {
	count := 0
	someApplications(28, 700, func(random *rand.Rand, r impl.Rule, x impl.Term) {
		found := map[any]bool{}
		// The tests themselves use terms within terms again.
		r.Left, r.Right, x = copied(r.Left), copied(r.Right), copied(x)
		u := copied(someTerm(random, 5, true))
		if !placesOfRule(r, found) || !places(x, found) || !places(u, found) {
			t.Fatal("the arguments share memory")
		}
		check := func(why string, y impl.Term, ok bool) {
			t.Helper()
			if !places(y, found) {
				t.Fatalf("%s for %s: %s shares memory", ruleText(r), impl.FormatTerm(x), why)
			}
			if ok {
				count++
			}
		}
		for _, p := range [][]impl.Pair{nil, impl.SwapOf(0, 1)} {
			if got, ok := impl.ActOnRule(p, r); !ok || !placesOfRule(got, found) {
				t.Fatalf("%v on %s shares memory", p, ruleText(r))
			}
		}
		if got, ok := impl.FreshenRule(r, x); ok && !placesOfRule(got, found) {
			t.Fatalf("%s for %s shares memory", ruleText(r), impl.FormatTerm(x))
		}
		l := []impl.Rule{r}
		for _, p := range impl.PathsOf(x) {
			y, ok := impl.TermAt(x, p)
			check("what is at a path", y, ok)
			y, ok = impl.PutAt(x, p, u)
			check("what is put", y, ok)
			y, ok = impl.PutAt(x, p, x)
			check("what is put in itself", y, ok)
			y, ok = impl.RewriteAt(r, x, p)
			check("what is rewritten", y, ok)
		}
		y, ok := impl.GivenBy(r, x)
		check("what is given", y, ok)
		y, ok = impl.StepTerm(l, x)
		check("a step", y, ok)
		y, _, ok = impl.NormalForm(l, x, 3)
		check("a normal form", y, ok)
		y, _, ok = impl.NormalForm(nil, x, 3)
		check("the term itself", y, ok)
	})
	if count < 5000 {
		t.Error("too few results:", count)
	}
}

func TestPathsStandAlone(t *testing.T) {
	found := map[*int]bool{}
	for _, p := range impl.PathsOf(term(t, "f3(f3(a0,a1,a2),f2([a0]f1(f1(f1(a0))),a1),f1(f1(f0)))")) {
		whole := p[:cap(p)]
		for i := range whole {
			if found[&whole[i]] {
				t.Fatalf("%v shares memory", p)
			}
			found[&whole[i]] = true
		}
	}
}

// Nothing is kept from call to call.
func TestRuleCallsAreAlike(t *testing.T) {
	l := rules(t, "a0#X0 | f1([a0]f2(X0,a0)) > X0", "- | f2(X0,X1) > [a1]f1((0 1)X0)")
	first := []string{}
	for range 20 {
		now := []string{}
		for _, x := range terms(t, "f1([a5]f2(a1,a5))", "[a1]f2(a1,f2(a2,a3))", "f5(a0)") {
			for _, r := range l {
				fresh, _ := impl.FreshenRule(r, x)
				now = append(now, ruleText(fresh), told(impl.GivenBy(r, x)), told(impl.RewriteAt(r, x, path(0))))
			}
			y, _, ok := impl.NormalForm(l, x, 3)
			now = append(now, told(impl.StepTerm(l, x)), told(y, ok))
			useRules(l, x, copied(x), impl.SwapOf(0, 1), path(0))
		}
		if len(first) > 0 && !slices.Equal(first, now) {
			t.Error(first, now)
		}
		first = now
	}
}
