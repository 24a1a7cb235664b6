package tests

import (
	"math/rand"
	"slices"
	"strconv"
	"strings"
	"testing"

	"loop.example/g03112/impl"
)

// session is the one of two terms with the texts, and rules as rule reads them.
func session(t *testing.T, x, other string, l ...string) impl.Session {
	t.Helper()
	return impl.Session{Term: term(t, x), Other: term(t, other), Rules: rules(t, l...)}
}

// newSession is what NewSession must return.
func newSession() impl.Session {
	return impl.Session{Term: atom(0), Other: atom(0)}
}

// sessionText tells a session where a test fails.
func sessionText(s impl.Session) string {
	return impl.FormatTerm(s.Term) + " and " + impl.FormatTerm(s.Other) + " with " + rulesText(s.Rules)
}

func sameRules(r, s impl.Rule) bool {
	return slices.Equal(r.Context, s.Context) && same(r.Left, s.Left) && same(r.Right, s.Right)
}

// sameSessions compares without the functions of the program.
func sameSessions(x, y impl.Session) bool {
	return same(x.Term, y.Term) && same(x.Other, y.Other) && slices.EqualFunc(x.Rules, y.Rules, sameRules)
}

// talk does lines in a session, each with the answer that is expected behind it,
// and returns the session at the end. Only where the answer is ok may something
// change.
func talk(t *testing.T, s impl.Session, lines ...string) impl.Session {
	t.Helper()
	for i := 0; i < len(lines); i += 2 {
		line, want := lines[i], lines[i+1]
		next, got := impl.SessionLine(s, line)
		if got != want {
			t.Errorf("%q in %s: %q instead of %q", line, sessionText(s), got, want)
		}
		if got != "ok" && !sameSessions(next, s) {
			t.Errorf("%q in %s is answered with %q, and leads to %s", line, sessionText(s), got, sessionText(next))
		}
		s = next
	}
	return s
}

// checkLine does a line, and expects an answer and the session that is told.
func checkLine(t *testing.T, s impl.Session, line, want string, after impl.Session) {
	t.Helper()
	next, got := impl.SessionLine(s, line)
	if got != want || !sameSessions(next, after) {
		t.Errorf("%q in %s: %q and %s instead of %q and %s", line, sessionText(s), got, sessionText(next), want, sessionText(after))
	}
}

// checkWhat expects that the line is none that is known, in any session.
func checkWhat(t *testing.T, line string) {
	t.Helper()
	for _, s := range []impl.Session{newSession(), session(t, "f2(X0,a1)", "[a3]a3", "- | f1(X0) > X0")} {
		checkLine(t, s, line, "what", s)
	}
}

// notSessions tells, for each way in which a value can fail to be a valid
// session, one that fails in this way alone.
func notSessions(t *testing.T) map[string]impl.Session {
	l := map[string]impl.Session{
		"the zero value":  {},
		"without a Term":  {Other: atom(0)},
		"without a Other": {Term: atom(0)},
		"one rule alone":  {Rules: rules(t, "- | f0 > f0")},
	}
	for why, x := range notTerms() {
		l["Term "+why] = impl.Session{Term: x, Other: atom(0)}
		l["Other "+why] = impl.Session{Term: atom(0), Other: x, Rules: rules(t, "- | f0 > f0")}
	}
	for why, m := range notRuleLists(t) {
		l["Rules "+why] = impl.Session{Term: atom(0), Other: hole(1), Rules: m}
	}
	return l
}

// oneWordLines are the lines of one word that are known.
var oneWordLines = []string{"swap", "canon", "rules", "step", "beta", "show", "free", "equal", "unify", "match", "same", "index"}

// byParts does a line by the functions of the other chapters, as the table of
// the document tells it, and reports whether the line is one of the table.
func byParts(s impl.Session, line string) (impl.Session, string, bool) {
	for prefix, do := range linesWithText() {
		if text, found := strings.CutPrefix(line, prefix); found {
			return do(s, text)
		}
	}
	if !slices.Contains(oneWordLines, line) {
		return s, "", false
	}
	next, got := oneWordByParts(s, line)
	return next, got, true
}

func oneWordByParts(s impl.Session, line string) (impl.Session, string) {
	switch line {
	case "swap":
		return impl.Session{Term: s.Other, Other: s.Term, Rules: s.Rules}, "ok"
	case "canon":
		x, ok := impl.CanonicalTerm(s.Term)
		return withTerm(s, x, ok)
	case "step":
		x, ok := impl.StepTerm(s.Rules, s.Term)
		return withTerm(s, x, ok)
	case "beta":
		x, ok := impl.StepNames(s.Term)
		return withTerm(s, x, ok)
	}
	return s, toldByParts(s, line)
}

// withTerm is a session with another Term, if there is one, and the answer.
func withTerm(s impl.Session, x impl.Term, ok bool) (impl.Session, string) {
	if !ok {
		return s, "no"
	}
	return impl.Session{Term: x, Other: s.Other, Rules: s.Rules}, "ok"
}

// toldByParts answers the lines of one word that change nothing.
func toldByParts(s impl.Session, line string) string {
	switch line {
	case "rules":
		return strconv.Itoa(len(s.Rules))
	case "show":
		return impl.FormatTerm(s.Term)
	case "free":
		texts := []string{}
		for _, a := range impl.FreeAtoms(s.Term) {
			texts = append(texts, strconv.Itoa(a))
		}
		return orElse("none", strings.Join(texts, " "), len(texts) > 0)
	case "equal":
		l, ok := impl.EqualNeeds(s.Term, s.Other)
		return orElse("no", impl.FormatContext(l), ok)
	case "unify":
		x, code := impl.UnifyTerms(s.Term, s.Other)
		return orElse("no", impl.FormatSolution(x), code == impl.UnFine)
	case "match":
		x, code := impl.MatchTerms(s.Term, s.Other)
		return orElse("no", impl.FormatSolution(x), code == impl.UnFine)
	case "same":
		return orElse("no", "yes", impl.AlphaEqual(s.Term, s.Other))
	}
	x, ok := impl.IndexOf(s.Term)
	return orElse("no", impl.FormatIndex(x), ok)
}

func orElse(other, text string, ok bool) string {
	if !ok {
		return other
	}
	return text
}

// linesWithText are, by their beginnings, the lines that go on with a text. Each
// reports also whether the text is one.
func linesWithText() map[string]func(impl.Session, string) (impl.Session, string, bool) {
	return map[string]func(impl.Session, string) (impl.Session, string, bool){
		"term ": func(s impl.Session, text string) (impl.Session, string, bool) {
			x, ok := impl.ParseTerm(text)
			next, got := withTerm(s, x, ok)
			return next, got, ok
		},
		"other ": func(s impl.Session, text string) (impl.Session, string, bool) {
			x, ok := impl.ParseTerm(text)
			return impl.Session{Term: s.Term, Other: x, Rules: s.Rules}, "ok", ok
		},
		"act ": func(s impl.Session, text string) (impl.Session, string, bool) {
			p, isOne := impl.ParsePermutation(text)
			x, ok := impl.ActOn(p, s.Term)
			next, got := withTerm(s, x, ok)
			return next, got, isOne
		},
		"replace ": func(s impl.Session, text string) (impl.Session, string, bool) {
			a, isOne := atomByHand(text)
			x, ok := impl.ReplaceAtom(s.Term, a, s.Other)
			next, got := withTerm(s, x, ok)
			return next, got, isOne
		},
		"fresh ": func(s impl.Session, text string) (impl.Session, string, bool) {
			a, isOne := atomByHand(text)
			l, ok := impl.FreshNeeds(a, s.Term)
			return s, orElse("no", impl.FormatContext(l), ok), isOne
		},
		"rule ": func(s impl.Session, text string) (impl.Session, string, bool) {
			r, isOne := ruleByHand(text)
			more := impl.Session{Term: s.Term, Other: s.Other, Rules: append(slices.Clone(s.Rules), r)}
			if !impl.AreRules(more.Rules) {
				return s, "no", isOne
			}
			return more, "ok", isOne
		},
	}
}

// atomByHand looks the text up among those of all atoms.
func atomByHand(text string) (int, bool) {
	for a := range impl.MaxAtom + 1 {
		if strconv.Itoa(a) == text {
			return a, true
		}
	}
	return 0, false
}

// ruleByHand divides a text at each two blanks, until it is that of a context
// and two terms.
func ruleByHand(text string) (impl.Rule, bool) {
	for i := range text {
		for j := i + 1; j < len(text); j++ {
			if text[i] != ' ' || text[j] != ' ' {
				continue
			}
			l, isContext := impl.ParseContext(text[:i])
			x, isLeft := impl.ParseTerm(text[i+1 : j])
			y, isRight := impl.ParseTerm(text[j+1:])
			if isContext && isLeft && isRight {
				return impl.Rule{Context: l, Left: x, Right: y}, true
			}
		}
	}
	return impl.Rule{}, false
}

// lineByHand is what SessionLine returns for a valid session.
func lineByHand(s impl.Session, line string) (impl.Session, string) {
	if line == "" || line[0] == '#' {
		return s, ""
	}
	next, got, known := byParts(s, line)
	if !known {
		return s, "what"
	}
	return next, got
}

// someSession is a random one of which the parts often have to do with each
// other.
func someSession(random *rand.Rand) impl.Session {
	s := impl.Session{Term: someTermFor(random)}
	s.Other = s.Term
	switch random.Intn(3) {
	case 0:
		s.Other = someTermFor(random)
	case 1:
		if !hasHoles(s.Term) {
			s.Other = variant(random, s.Term, random.Intn(4) == 0)
		}
	}
	for range random.Intn(impl.MaxRules + 1) {
		s.Rules = append(s.Rules, someRuleFor(random, s.Term))
	}
	return s
}

func someTermFor(random *rand.Rand) impl.Term {
	if random.Intn(3) == 0 {
		return someFunction(random, 1+random.Intn(24))
	}
	return someTerm(random, 1+random.Intn(24), random.Intn(3) == 0)
}

func hasHoles(x impl.Term) bool {
	return len(holesWithin(x)) > 0
}

// someRuleFor is a random valid one, which may apply somewhere in a term.
func someRuleFor(random *rand.Rand, x impl.Term) impl.Rule {
	for {
		paths := pathsByHand(x)
		y := atByHand(x, paths[random.Intn(len(paths))])
		if hasHoles(y) || y.Op == impl.TmAtom {
			y = someInner(random, 6)
		}
		if r := someRule(random, y); impl.IsRule(r) {
			return r
		}
	}
}

// someLine is a random line that a session often knows.
func someLine(random *rand.Rand, s impl.Session) string {
	switch random.Intn(16) {
	case 0:
		return "term " + impl.FormatTerm(someTermFor(random))
	case 1:
		return "other " + impl.FormatTerm(someTermFor(random))
	case 2:
		return "act " + impl.FormatPermutation(somePermutationOf(random, 6))
	case 3:
		return "replace " + strconv.Itoa(random.Intn(5))
	case 4:
		return "fresh " + strconv.Itoa(random.Intn(6))
	case 5, 6:
		return ruleLine(someRuleFor(random, s.Term))
	case 7:
		x := pattern(random, someInner(random, 12), nil, map[int]impl.Term{})
		return []string{"term ", "other "}[random.Intn(2)] + impl.FormatTerm(x)
	}
	return oneWordLines[random.Intn(len(oneWordLines))]
}

// ruleLine is the line that puts a rule at the end.
func ruleLine(r impl.Rule) string {
	return "rule " + impl.FormatContext(r.Context) + " " + impl.FormatTerm(r.Left) + " " + impl.FormatTerm(r.Right)
}
