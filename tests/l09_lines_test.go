package tests

import (
	"strings"
	"testing"

	"loop.example/g03112/impl"
)

func TestSilentLines(t *testing.T) {
	for _, line := range []string{"", "#", "# end", "#show", "#swap", "##", "# term a1", "#\x00", "# \u00e4", "#\nswap", "#" + strings.Repeat(" ", 5000)} {
		for _, s := range []impl.Session{newSession(), session(t, "f2(X0,a1)", "[a3]a3", "- | f1(X0) > X0")} {
			checkLine(t, s, line, "", s)
		}
	}
}

// Lines that only begin, or end, like one that is known.
func TestNoLines(t *testing.T) {
	for _, line := range []string{" ", "  ", "\t", "\n", "\r", "\x00", "-", ".", "?", "a0", "f0", "X0", "()", "0", "1", "ok", "no", "what", "yes", "none", " #", " # end", "\t#", "\n#"} {
		checkWhat(t, line)
	}
	for _, word := range append([]string{"term", "other", "act", "replace", "rule", "fresh"}, oneWordLines...) {
		checkWhat(t, strings.ToUpper(word))
		checkWhat(t, strings.ToUpper(word[:1])+word[1:])
		for _, front := range []string{" ", "\t", "x", "-", "\n", "(", "\ufeff", "show "} {
			checkWhat(t, front+word)
			checkWhat(t, front+word+" a0")
		}
	}
	for _, word := range oneWordLines {
		for _, behind := range []string{" ", "  ", "\t", "\n", "\r", "\x00", "s", "x", "0", " a0", " 0", " -", " #", "#", "()", " ()", ".", ";", " " + word, "\n" + word, "\u00a0"} {
			checkWhat(t, word+behind)
		}
	}
}

// The words of these lines are known, but what is behind them is no such text.
func TestNoTexts(t *testing.T) {
	for word, texts := range map[string][]string{
		"term":    {"a", "a01", "a1000", "a-1", "a0a0", "a0 a0", "a0,a0", "0", "f", "f1", "f12", "f0()", "f1()", "f2(a0)", "f2(a0, a0)", "f2(a0 ,a0)", "f1( a0)", "f1(a0 )", "f 0", "[a0]", "[a0] a0", "[ a0]a0", "[0]a0", "X", "X10", "X00", "x0", "()X0", "(0 1) X0", "(0  1)X0", "( 0 1)X0", "(0 1 )X0", "(1 0)X0", "(0 1)(2 3) X0", "(0,1)X0", "(0 1)", "(0 1)a0", "-", "()"},
		"act":     {"(", ")", "(0)", "(0 0)", "(1 0)", "(0 1", "0 1)", "0 1", "(0 1 )", "( 0 1)", "(0  1)", "(0 1) (2 3)", "(2 3)(0 1)", "(0 1)()", "()()", "(0 1000)", "(0 01)", "(0,1)", "a0", "a0 a1", "-", "(0 1)X0", "0"},
		"replace": {"00", "01", "007", "1000", "-1", "-0", "+1", "1.", "1e1", "0x1", "1_0", "a0", "x", "0 0", "0,1", "\u0661", "18446744073709551616", "X0", "-"},
		"rule": {"-", "a0", "a0 a0", "- a0", "- f0", "-f0 f0", "f0 f0 -", "f0 - f0", "-- f0 f0", "- f0f0", "- f0,f0", "- f0 f0 f0", "- f0 - f0", "- f1(X0)X0", "- f1(X0 X0)", "- f1(X0) X", "- f1(X0) (0 1) X0", "- (0 1) X0", "- (0 1) X0 X0", "- f1((0 1) X0) X0", "- f1(X0) > X0", "- f1(X0) (0 1)", "- (0 1) f1(X0)", "- (0 1)X0", "- f1(X0) X0,",
			"() f0 f0", "a0#X0 f0", "a0#X10 f1(X0) f0", "a1000#X0 f1(X0) f0", "a00#X0 f1(X0) f0", "a1#X0,a0#X0 f1(X0) f0", "a0#X0,a0#X0 f1(X0) f0", "a0#X0,-  f1(X0) f0", "a0#X0, f1(X0) f0", "a0#X0, a1#X0 f1(X0) f0", ",a0#X0 f1(X0) f0", "X0#a0 f1(X0) f0", "a0 f1(X0) f0", "0 f0 f0", "- a1000 f0", "- f0 a1000", "- f12 f0", "- f0\nf0", "-\tf0 f0", "- f0\tf0"},
		"fresh": {"00", "01", "1000", "-1", "+0", "a0", "0 1", "0,1", "X0", "a0#X0", "-", "\u0661", "18446744073709551616"},
	} {
		for _, text := range append(texts, "", " ") {
			checkWhat(t, word+" "+text)
			checkWhat(t, word+text)
		}
	}
	for _, line := range []string{"term a1", "act (0 1)", "replace 1", "rule - f1(X0) X0", "fresh 1"} {
		for _, spoilt := range []string{line + " ", line + "\t", line + "\r", line + "\n", line + "\x00", line + " #", line + "#", line + ",", line + ")", strings.Replace(line, " ", "  ", 1), strings.Replace(line, " ", "\t", 1), strings.Replace(line, " ", "", 1), strings.Replace(line, " ", "\n", 1), strings.Replace(line, " ", ": ", 1)} {
			checkWhat(t, spoilt)
			checkWhat(t, strings.Replace(spoilt, "term", "other", 1))
		}
	}
	for _, text := range []string{"-  f0 f0", "- f0  f0", " - f0 f0", "- f1(X0)  (0 1)X0", "-  f1((0 1)X0) X0", "a0#X0  f1(X0) X0"} {
		checkWhat(t, "rule "+text)
	}
}

// Each line that is nearly one that is known is answered by the parts.
func TestLinesNearKnownOnes(t *testing.T) {
	s := session(t, "f2(f1([a0]f1([a1]f2(a0,a1))),a1)", "f2(X0,(0 1)X1)", "a0#X0 | f1([a0]f2(X0,a0)) > X0")
	known, others := 0, 0
	check := func(line string) {
		next, got := impl.SessionLine(s, line)
		after, want := lineByHand(s, line)
		if got != want || !sameSessions(next, after) {
			t.Errorf("%q: %q and %s instead of %q and %s", line, got, sessionText(next), want, sessionText(after))
		}
		if got == "what" {
			others++
		} else {
			known++
		}
	}
	lines := append([]string{
		"", "#", "term a1", "term f1((0 1)X0)", "other a12", "act (0 1)(2 3)", "act ()", "replace 10", "fresh 0", "fresh 91",
		"rule - f0 a1", "rule a1#X0 f1((0 1)X0) (0 1)X0", "rule - f1(X0) f2((0 1)X0,X0)", "rule - X0 X0",
	}, oneWordLines...)
	for _, line := range lines {
		check(line)
		toEachNear(line, "01aeslfXx#()[,-> \n", check)
		check(line + " ")
		check(line + line)
	}
	if known < 300 || others < 7000 {
		t.Error("too few lines:", known, others)
	}
}

// A long line is not read again and again.
func TestLongLines(t *testing.T) {
	many := 1000000
	for _, line := range []string{
		strings.Repeat(" ", many), strings.Repeat("show ", many), "term " + strings.Repeat("(", many), "term " + strings.Repeat("f1(", many), "term " + strings.Repeat("[a0]", many), "term (0" + strings.Repeat(" 1", many) + ")X0",
		"act " + strings.Repeat("(0 1)", many), "act (0" + strings.Repeat(" 1", many) + ")", "replace " + strings.Repeat("0", many), "fresh " + strings.Repeat("1", many),
		"rule " + strings.Repeat(" ", many), "rule -" + strings.Repeat(" ", many), "rule - " + strings.Repeat("f0 ", many), "rule - f1(X0) " + strings.Repeat("X0 ", many), "rule - f1((0" + strings.Repeat(" 1", many) + ")X0) X0",
		"rule - " + strings.Repeat("(0 1)X0 ", many), "rule - " + strings.Repeat("f1((0 1)", many), "rule " + strings.Repeat("a0#X0,", many) + " f1(X0) X0",
	} {
		if next, got := impl.SessionLine(newSession(), line); got != "what" || !sameSessions(next, newSession()) {
			t.Errorf("%q.. is answered with %q", line[:20], got)
		}
	}
	if _, got := impl.SessionLine(newSession(), "#"+strings.Repeat(" ", many)); got != "" {
		t.Error("a long comment:", got)
	}
}
