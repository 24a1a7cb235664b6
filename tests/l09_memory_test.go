package tests

import (
	"math/rand"
	"slices"
	"strings"
	"testing"

	"loop.example/g03112/impl"
)

// allLines are lines of all kinds.
var allLines = []string{
	"", "# end", "what", "term f2(a0,(0 1)X1)", "other [a0]a0", "swap", "act (0 1)(2 3)", "act ()", "canon", "replace 0", "rule a0#X0 f1((0 1)X0) X0", "rule - X0 X0",
	"rules", "step", "beta", "show", "free", "fresh 1", "equal", "unify", "match", "same", "index",
}

func roomySession(s impl.Session) impl.Session {
	return impl.Session{Term: roomyTerm(s.Term), Other: roomyTerm(s.Other), Rules: roomyRules(s.Rules)}
}

// isRoomySession reports whether x is still what roomySession has made of y.
func isRoomySession(x, y impl.Session) bool {
	return isRoomy(x.Term, y.Term) && isRoomy(x.Other, y.Other) && areRoomyRules(x.Rules, y.Rules)
}

func overwriteSession(s impl.Session, _ string) {
	overwriteTerm(s.Term)
	overwriteTerm(s.Other)
	for _, r := range s.Rules {
		overwriteRule(r, true)
	}
	overwrite(s.Rules, impl.Rule{})
}

func useSessions(s impl.Session) {
	impl.IsSession(s)
	for _, line := range allLines {
		overwriteSession(impl.SessionLine(s, line))
	}
	overwriteSession(impl.NewSession(), "")
	overwrite(impl.SessionText("term a1\nshow"), "")
}

func TestSessionArgumentsStay(t *testing.T) {
	random := rand.New(rand.NewSource(130))
	sessions := []impl.Session{newSession()}
	for range 200 {
		sessions = append(sessions, someSession(random))
	}
	for why, s := range notSessions(t) {
		if !strings.HasSuffix(why, "in itself") {
			sessions = append(sessions, s)
		}
	}
	for _, s := range sessions {
		given := roomySession(s)
		useSessions(given)
		if !isRoomySession(given, s) {
			t.Fatalf("%v: an argument is changed", s)
		}
	}
}

// placesOfSession is what places is, for sessions.
func placesOfSession(s impl.Session, found map[any]bool) bool {
	alone := true
	whole := s.Rules[:cap(s.Rules)]
	for i := range whole {
		alone = alone && !found[&whole[i]]
		found[&whole[i]] = true
	}
	for _, r := range s.Rules {
		alone = placesOfRule(r, found) && alone
	}
	alone = places(s.Term, found) && alone
	return places(s.Other, found) && alone
}

// A session that is returned shares no memory with the one that is given, and no
// two slices in it do, also where two of that one do.
func TestSessionsStandAlone(t *testing.T) {
	random := rand.New(rand.NewSource(131))
	sessions := []impl.Session{newSession(), largestSession()}
	for range 200 {
		sessions = append(sessions, someSession(random))
	}
	for why, s := range notSessions(t) {
		if !strings.HasSuffix(why, "in itself") {
			sessions = append(sessions, s)
		}
	}
	for _, s := range sessions {
		given := map[any]bool{}
		placesOfSession(s, given)
		for _, line := range allLines {
			found := map[any]bool{}
			next, _ := impl.SessionLine(s, line)
			if !placesOfSession(next, found) {
				t.Fatalf("%q in %s: two slices share memory", line, sessionText(s))
			}
			for place := range found {
				if given[place] {
					t.Fatalf("%q in %s: shares memory with the argument", line, sessionText(s))
				}
			}
		}
	}
}

// largestSession is as large as one can be, and uses the same memory again and
// again.
func largestSession() impl.Session {
	perm := rotation(0, 40)
	x := hole(0, perm...)
	for n := range 19 {
		x = node(3, x, hole(n%10, perm...), hole((n+1)%10, perm...))
	}
	x = node(1, node(1, x))
	r := impl.Rule{Context: freshFrom(0, 40, 0), Left: x, Right: x}
	return impl.Session{Term: x, Other: x, Rules: slices.Repeat([]impl.Rule{r}, impl.MaxRules)}
}

func TestLargestSession(t *testing.T) {
	s := largestSession()
	if sizeOf(s.Term) != 60 || !impl.IsSession(s) {
		t.Error("no session")
	}
	for _, line := range []string{"show", "", "what"} {
		if next, _ := impl.SessionLine(s, line); !sameSessions(next, s) {
			t.Errorf("%q changes it", line)
		}
	}
}

// A session that is not valid may be very large, or use the same memory again
// and again, or be without end, and is returned all the same.
func TestSessionLineAlwaysEnds(t *testing.T) {
	doubled := atom(0)
	for range 64 {
		doubled = node(2, doubled, doubled)
	}
	long := make([]impl.Term, 3000)
	for i := range long {
		long[i] = impl.Term{Op: 9, Perm: rotation(0, 40), Kids: long}
	}
	deep := under(300000, hole(0, pairs(0, 1, 1, 0)...))
	for why, s := range map[string]impl.Session{
		"in itself":        {Term: inItself(impl.TmNode, 3, 3), Other: atom(0)},
		"in itself, once":  {Term: atom(0), Other: inItself(impl.TmBind, 0, 1)},
		"in itself, again": {Term: inItself(impl.TmBind, 0, 1), Other: inItself(impl.TmNode, 2, 2)},
		"in a long list":   {Term: long[0], Other: long[1]},
		"shared":           {Term: doubled, Other: doubled},
		"deep":             {Term: deep, Other: deep},
		"in a rule":        {Term: atom(0), Other: atom(0), Rules: []impl.Rule{{Left: inItself(impl.TmNode, 3, 3), Right: doubled}}},
	} {
		next, got := impl.SessionLine(s, "show")
		if got != "" || !sameAsGiven(next, s) {
			t.Errorf("%s: %q", why, got)
		}
		if len(next.Term.Kids) > 0 && &next.Term.Kids[0] == &s.Term.Kids[0] {
			t.Errorf("%s: shares memory", why)
		}
	}
}

// The same with long lists of pairs, and of elements of contexts.
func TestLongListsUsedAgain(t *testing.T) {
	perm, context := make([]impl.Pair, 100000), make([]impl.Fresh, 100000)
	holes := slices.Repeat([]impl.Term{{Op: impl.TmHole, Perm: perm}}, 20000)
	s := impl.Session{Term: impl.Term{Kids: holes}, Rules: slices.Repeat([]impl.Rule{{Context: context}}, 20000)}
	next, got := impl.SessionLine(s, "show")
	if got != "" || len(next.Term.Kids) != 20000 || len(next.Rules) != 20000 {
		t.Fatal(got, len(next.Term.Kids), len(next.Rules))
	}
	for i := range 20000 {
		p, l := next.Term.Kids[i].Perm, next.Rules[i].Context
		if len(p) != 100000 || len(l) != 100000 || &p[0] == &perm[0] || &l[0] == &context[0] {
			t.Fatal(len(p), len(l))
		}
	}
}

// Nothing is kept from call to call.
func TestSessionCallsAreAlike(t *testing.T) {
	first := []string{}
	for range 5 {
		now := impl.SessionText("term f1([a1]f2(a2,a1))\nrule a0#X0 f1([a0]f2(X0,a0)) X0\nother f2(X0,X1)\nstep\nshow\nunify\nequal\nswap\nfresh 0")
		random := rand.New(rand.NewSource(132))
		for range 20 {
			s := someSession(random)
			for _, line := range allLines {
				next, got := impl.SessionLine(s, line)
				now = append(now, got, sessionText(next))
			}
			useSessions(s)
		}
		if len(first) > 0 && !slices.Equal(first, now) {
			t.Error("other results of the same calls")
		}
		first = now
	}
}
