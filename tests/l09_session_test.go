package tests

import (
	"slices"
	"strings"
	"testing"

	"loop.example/g03112/impl"
)

func TestSessionConstants(t *testing.T) {
	if impl.MaxLines != 40 || impl.MaxText != 4000 {
		t.Error(impl.MaxLines, impl.MaxText)
	}
}

func TestNewSession(t *testing.T) {
	if s := impl.NewSession(); !sameSessions(s, newSession()) || !impl.IsSession(s) {
		t.Error(s)
	}
}

func TestIsSession(t *testing.T) {
	for _, s := range []impl.Session{
		newSession(),
		session(t, "X0", "(0 1)X9"),
		session(t, "f1(X0)", "[a999]a999", "- | f0 > f0"),
		{Term: under(59, atom(0)), Other: allHoles(), Rules: slices.Repeat(rules(t, "a0#X0 | f1(X0) > X0"), impl.MaxRules)},
		{Term: atom(0), Other: atom(0), Rules: []impl.Rule{}},
	} {
		if !impl.IsSession(s) {
			t.Errorf("%s is a session", sessionText(s))
		}
	}
	for why, s := range notSessions(t) {
		if impl.IsSession(s) {
			t.Errorf("%s: a session", why)
		}
	}
}

func TestTermAndOther(t *testing.T) {
	talk(t, newSession(),
		"show", "a0",
		"term a5", "ok",
		"show", "a5",
		"other a7", "ok",
		"show", "a5",
		"swap", "ok",
		"show", "a7",
		"swap", "ok",
		"show", "a5",
		"term [a0]f2(a0,a1)", "ok",
		"show", "[a0]f2(a0,a1)",
		"other X1", "ok",
		"swap", "ok",
		"show", "X1",
		"swap", "ok",
		"show", "[a0]f2(a0,a1)")
	whole := session(t, "f1(X0)", "a2", "- | f1(X0) > X0")
	after := whole
	after.Term = term(t, "f3(a0,X1,[a3]a3)")
	checkLine(t, whole, "term f3(a0,X1,[a3]a3)", "ok", after)
	after = whole
	after.Other = term(t, "f3(a0,X1,[a3]a3)")
	checkLine(t, whole, "other f3(a0,X1,[a3]a3)", "ok", after)
	after.Term, after.Other = whole.Other, whole.Term
	checkLine(t, whole, "swap", "ok", after)
}

// A text may have blanks within brackets of permutations.
func TestTermsWithBlanks(t *testing.T) {
	for _, text := range []string{"(0 1)X2", "(0 1)(2 4 3)X0", "f2((0 1)X0,(0 2)X0)", "[a1](0 1 2)X9", "f1([a0]f2((3 4)X1,a0))"} {
		s := talk(t, newSession(), "term "+text, "ok", "show", text, "other "+text, "ok", "equal", "-")
		if !same(s.Term, term(t, text)) || !same(s.Other, term(t, text)) {
			t.Errorf("%s: %s", text, sessionText(s))
		}
	}
}

func TestTermsAtTheLimit(t *testing.T) {
	large := impl.FormatTerm(under(59, atom(0)))
	talk(t, newSession(), "term "+large, "ok", "show", large, "other "+large, "ok", "same", "yes")
	checkWhat(t, "term f1("+large+")")
	checkWhat(t, "other f1("+large+")")
	many := impl.FormatTerm(impl.Term{Op: impl.TmHole, N: 9, Perm: rotation(0, 40)})
	talk(t, newSession(), "term "+many, "ok", "show", many)
	checkWhat(t, "term "+strings.Replace(many, " 39", " 39 40", 1))
}

func TestAct(t *testing.T) {
	talk(t, session(t, "[a0]f2(a0,a1)", "a3"),
		"act (0 1)", "ok",
		"show", "[a1]f2(a1,a0)",
		"act ()", "ok",
		"show", "[a1]f2(a1,a0)",
		"act (0 1 999)(3 4)", "ok",
		"show", "[a999]f2(a999,a1)",
		"swap", "ok",
		"show", "a3",
		"term f2((0 1)X0,X1)", "ok",
		"act (1 2)", "ok",
		"show", "f2((0 2 1)X0,(1 2)X1)")
	full := impl.Session{Term: node(1, hole(0, rotation(0, 40)...)), Other: atom(0)}
	after := full
	after.Term = node(1, hole(0, rotation(0, 39)...))
	checkLine(t, after, "act (0 39)", "ok", full)
	checkLine(t, full, "act (39 40)", "no", full)
	checkLine(t, full, "act (40 41)", "no", full)
	checkLine(t, full, "act ()", "ok", full)
}

func TestCanon(t *testing.T) {
	talk(t, newSession(),
		"canon", "ok",
		"show", "a0",
		"term [a3][a1]f3(a1,a3,a0)", "ok",
		"other [a7]a7", "ok",
		"canon", "ok",
		"show", "[a1][a2]f3(a2,a1,a0)",
		"canon", "ok",
		"show", "[a1][a2]f3(a2,a1,a0)",
		"swap", "ok",
		"show", "[a7]a7",
		"canon", "ok",
		"show", "[a0]a0",
		"term [a3]f1(X0)", "ok",
		"canon", "no",
		"show", "[a3]f1(X0)")
}

func TestReplace(t *testing.T) {
	talk(t, session(t, "[a1]f2(a0,a1)", "a1"),
		"replace 0", "ok",
		"show", "[a2]f2(a1,a2)",
		"replace 0", "ok",
		"replace 999", "ok",
		"show", "[a2]f2(a1,a2)",
		"other f2(a2,a3)", "ok",
		"replace 1", "ok",
		"show", "[a0]f2(f2(a2,a3),a0)",
		"swap", "ok",
		"show", "f2(a2,a3)",
		"replace 3", "ok",
		"show", "f2(a2,[a0]f2(f2(a2,a3),a0))",
		"other X0", "ok",
		"replace 2", "no",
		"replace 7", "no",
		"swap", "ok",
		"replace 0", "no")
	large := impl.Session{Term: node(2, atom(0), atom(0)), Other: under(29, atom(1))}
	checkLine(t, large, "replace 0", "no", large)
	large.Other = under(28, atom(1))
	checkLine(t, large, "replace 0", "ok", impl.Session{Term: node(2, large.Other, large.Other), Other: large.Other})
}

func TestRuleLines(t *testing.T) {
	for _, c := range []struct{ line, want string }{
		{"rule - f0 f4", "- | f0 > f4"},
		{"rule - f1(X0) X0", "- | f1(X0) > X0"},
		{"rule a0#X0 f1([a0]f2(X0,a0)) X0", "a0#X0 | f1([a0]f2(X0,a0)) > X0"},
		{"rule a0#X0,a2#X0,a1#X1 f2(X0,X1) f2(X1,X0)", "a0#X0,a2#X0,a1#X1 | f2(X0,X1) > f2(X1,X0)"},
		{"rule - a0 a1", "- | a0 > a1"},
		{"rule - [a0]a0 f0", "- | [a0]a0 > f0"},
		// Only one of these blanks lies between two terms.
		{"rule - f1((0 1)X0) X0", "- | f1((0 1)X0) > X0"},
		{"rule - f1((0 1)X0) (0 1)X0", "- | f1((0 1)X0) > (0 1)X0"},
		{"rule - f1(X0) (0 1)(2 4 3)X0", "- | f1(X0) > (0 1)(2 4 3)X0"},
		{"rule - f2((0 1)(2 3)X0,(1 2 3)X1) f1((0 3)X1)", "- | f2((0 1)(2 3)X0,(1 2 3)X1) > f1((0 3)X1)"},
		{"rule a9#X1 [a1](0 1 2)X1 [a2](0 2 1)X1", "a9#X1 | [a1](0 1 2)X1 > [a2](0 2 1)X1"},
	} {
		s := session(t, "f1(X3)", "a2", "a1#X5 | f1(X5) > f0")
		after := s
		after.Rules = append(slices.Clone(s.Rules), rule(t, c.want))
		checkLine(t, s, c.line, "ok", after)
	}
}

// Both texts are terms, and the context is one, but they are no valid rule.
func TestRuleLinesThatAreNoRule(t *testing.T) {
	s := session(t, "f1(X3)", "a2", "a1#X5 | f1(X5) > f0")
	for _, line := range []string{
		"rule - X0 a0", "rule - X0 X0", "rule - (0 1)X0 X0", "rule - (0 1)X0 (0 1)X0", "rule a0#X0 (0 1)(2 3)X0 f0",
		"rule - f0 X0", "rule - f1(X0) X1", "rule - f1(X0) f2((0 1)X0,(2 3)X1)",
		"rule a0#X1 f1(X0) X0", "rule a0#X0,a0#X1 f1(X0) X0", "rule a0#X0 f0 f0",
	} {
		checkLine(t, s, line, "no", s)
	}
}

func TestRuleLinesAtTheLimit(t *testing.T) {
	s := newSession()
	for i := range impl.MaxRules {
		r := rule(t, "- | f1(X"+string(rune('0'+i))+") > f0")
		after := s
		after.Rules = append(slices.Clone(s.Rules), r)
		checkLine(t, s, ruleLine(r), "ok", after)
		s = after
		talk(t, s, "rules", string(rune('1'+i)))
	}
	checkLine(t, s, "rule - f1(X0) f0", "no", s)
	checkLine(t, s, "rule - X0 f0", "no", s)
	checkLine(t, s, "rule - f1(X0) f", "what", s)
	full := impl.FormatContext(freshFrom(0, 40, 0))
	talk(t, newSession(), "rule "+full+" f1(X0) X0", "ok", "rule "+full+",a40#X0 f1(X0) X0", "what")
	large := impl.FormatTerm(under(59, hole(0)))
	talk(t, newSession(), "rule - "+large+" "+large, "ok", "rule - f1("+large+") X0", "what", "rule - f1(X0) f1("+large+")", "what", "rules", "1")
}

func TestStep(t *testing.T) {
	talk(t, newSession(),
		"step", "no",
		"rule - f2(X0,f0) X0", "ok",
		"rules", "1",
		"step", "no",
		"term f2(f2(a3,f0),f2(a4,f0))", "ok",
		"step", "ok",
		"show", "f2(a3,f2(a4,f0))",
		"rule - f2(X0,X1) X1", "ok",
		"rules", "2",
		"step", "ok",
		"show", "f2(a4,f0)",
		"step", "ok",
		"show", "a4", // by the first rule
		"step", "no",
		"show", "a4",
		"term f2(X0,f0)", "ok",
		"step", "no",
		"rules", "2")
	s := session(t, "f1([a5]f2(a1,a5))", "a9", "a0#X0 | f1([a0]f2(X0,a0)) > X0")
	after := s
	after.Term = atom(1)
	checkLine(t, s, "step", "ok", after)
	s.Term = term(t, "f1([a5]f2(a5,a5))")
	checkLine(t, s, "step", "no", s)
}

func TestBeta(t *testing.T) {
	talk(t, newSession(),
		"beta", "no",
		"term f2(f1([a0]f1([a1]f2(a0,a1))),a1)", "ok",
		"index", "(\\\\(1 0) a1)",
		"beta", "ok",
		"show", "f1([a2]f2(a1,a2))",
		"index", "\\(a1 0)",
		"beta", "no",
		"show", "f1([a2]f2(a1,a2))",
		"term f2(f1([a0]X0),a1)", "ok",
		"beta", "no",
		"term f3(f2(f1([a0]a0),a1),a0,a0)", "ok",
		"beta", "no",
		"index", "no")
	twice := lambda(0, applied(atom(0), atom(0)))
	large := impl.Session{Term: applied(twice, functionsAround(15, atom(0))), Other: atom(7)}
	checkLine(t, large, "beta", "no", large)
	argument := functionsAround(14, atom(0))
	checkLine(t, impl.Session{Term: applied(twice, argument), Other: atom(7)}, "beta", "ok", impl.Session{Term: applied(argument, argument), Other: atom(7)})
}

func TestFree(t *testing.T) {
	for text, want := range map[string]string{
		"a0": "0", "a999": "999", "f0": "none", "[a0]a0": "none", "X0": "none", "(0 1)X0": "none", "[a0]f1(X3)": "none",
		"f2(a1,a0)": "0 1", "f3(a10,a9,a100)": "9 10 100", "f3(a2,[a2]a1,a2)": "1 2", "f2(X0,a3)": "3",
	} {
		talk(t, session(t, text, "a77"), "free", want)
	}
}

func TestFresh(t *testing.T) {
	for _, c := range [][3]string{
		{"a0", "0", "no"}, {"a0", "1", "-"}, {"a0", "999", "-"}, {"a999", "999", "no"}, {"[a0]a0", "0", "-"}, {"f2(a1,[a0]a0)", "0", "-"}, {"f2(a0,[a0]a0)", "0", "no"},
		{"X1", "0", "a0#X1"}, {"(0 1)X1", "0", "a1#X1"}, {"(0 1 2)X1", "0", "a2#X1"}, {"f2((0 2)X3,X1)", "0", "a0#X1,a2#X3"}, {"[a0]X1", "0", "-"}, {"f2(X1,a0)", "0", "no"},
	} {
		talk(t, session(t, c[0], "a77"), "fresh "+c[1], c[2])
	}
}

func TestEqual(t *testing.T) {
	for _, c := range [][3]string{
		{"a0", "a0", "-"}, {"a0", "a1", "no"}, {"[a0]a0", "[a1]a1", "-"}, {"[a0]a1", "[a1]a0", "no"},
		{"X0", "X0", "-"}, {"X0", "X1", "no"}, {"X0", "a0", "no"}, {"a0", "X0", "no"},
		{"X0", "(0 1)X0", "a0#X0,a1#X0"}, {"[a0](0 2)X0", "[a1](0 2 1)X0", "a1#X0"}, {"[a0]X0", "[a1]X0", "a0#X0,a1#X0"}, {"[a0]a0", "[a1]X0", "no"},
	} {
		talk(t, session(t, c[0], c[1]), "equal", c[2])
	}
	forty := impl.Session{Term: hole(3, rotation(0, 40)...), Other: hole(3)}
	talk(t, forty, "equal", impl.FormatContext(freshFrom(0, 40, 3)))
	forty.Other = hole(3, rotation(30, 40)...)
	talk(t, forty, "equal", "no")
}

func TestUnifyAndMatch(t *testing.T) {
	over := impl.FormatTerm(under(29, hole(1)))
	for _, c := range [][4]string{
		{"a0", "a0", "-", "-"}, {"a0", "a1", "no", "no"}, {"f0", "f0", "-", "-"}, {"f0", "f4", "no", "no"},
		{"X0", "a3", "X0=a3 -", "X0=a3 -"}, {"a3", "X0", "X0=a3 -", "no"}, {"X0", "X0", "-", "no"}, {"X0", "f1(X0)", "no", "no"},
		{"f2(X0,a0)", "f2(a1,X1)", "X0=a1 X1=a0 -", "no"}, {"f2(X0,X1)", "f2(a1,[a0]a0)", "X0=a1 X1=[a0]a0 -", "X0=a1 X1=[a0]a0 -"},
		{"(0 1)X0", "a1", "X0=a0 -", "X0=a0 -"}, {"X0", "(0 1)X0", "a0#X0,a1#X0", "no"},
		{"[a0]X0", "[a1]f1(a1)", "X0=f1(a0) -", "X0=f1(a0) -"}, {"[a0]X0", "[a1]f1(a0)", "no", "no"},
		{"[a0]f2(X0,X1)", "[a1]f2(f1(a1),X2)", "X0=f1(a0) X1=(0 1)X2 a0#X2", "no"},
		{"f2(X0,X0)", "f2(a0,a1)", "no", "no"}, {"f2(X0,f2(X0,f0))", "f2(f2(X2,X2),f2(f2(" + over + ",X3),f0))", "no", "no"},
	} {
		talk(t, session(t, c[0], c[1]), "unify", c[2], "match", c[3])
	}
}

func TestSame(t *testing.T) {
	for _, c := range [][3]string{
		{"a0", "a0", "yes"}, {"a0", "a1", "no"}, {"[a0]a0", "[a1]a1", "yes"}, {"[a0]a1", "[a1]a0", "no"}, {"[a0]f2(a0,a1)", "[a2]f2(a2,a1)", "yes"},
		{"X0", "X0", "no"}, {"f2(a0,X0)", "f2(a0,X0)", "no"}, {"a0", "X0", "no"},
	} {
		talk(t, session(t, c[0], c[1]), "same", c[2])
	}
}

func TestIndexLine(t *testing.T) {
	for text, want := range map[string]string{
		"a0": "a0", "f1([a7]a7)": "\\0", "f2(f1([a0]a0),a4)": "(\\0 a4)", "f1([a0]f1([a1]f2(a0,f2(a1,a2))))": "\\\\(1 (0 a2))",
		"f0": "no", "[a0]a0": "no", "X0": "no", "f1(a0)": "no", "f2(a0,X0)": "no", "f5([a0]a0)": "no",
	} {
		talk(t, session(t, text, "f0"), "index", want)
	}
}

// Where a session is not valid, it is returned as it is, whatever the line.
func TestSessionLineInvalid(t *testing.T) {
	for why, s := range notSessions(t) {
		for _, line := range []string{"", "# a", "show", "rules", "swap", "term a0", "other a0", "rule - f0 f0", "what", "canon"} {
			next, got := impl.SessionLine(s, line)
			if got != "" || !sameAsGiven(next, s) {
				t.Errorf("%s, %q: %q", why, line, got)
			}
		}
	}
}

// sameAsGiven compares sessions that may lie within themselves.
func sameAsGiven(x, y impl.Session) bool {
	return impl.SameTerms(x.Term, y.Term) && impl.SameTerms(x.Other, y.Other) && slices.EqualFunc(x.Rules, y.Rules, func(r, s impl.Rule) bool {
		return slices.Equal(r.Context, s.Context) && impl.SameTerms(r.Left, s.Left) && impl.SameTerms(r.Right, s.Right)
	})
}
