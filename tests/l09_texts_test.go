package tests

import (
	"slices"
	"strings"
	"testing"

	"loop.example/g03112/impl"
)

func checkAnswers(t *testing.T, text string, want ...string) {
	t.Helper()
	if got := impl.SessionText(text); !slices.Equal(got, want) {
		t.Errorf("%q: %q instead of %q", text, got, want)
	}
}

func TestSessionText(t *testing.T) {
	checkAnswers(t, "", "")
	checkAnswers(t, "show", "a0")
	checkAnswers(t, "show\n", "a0", "")
	checkAnswers(t, "\nshow", "", "a0")
	checkAnswers(t, "\n", "", "")
	checkAnswers(t, "\n\n\n", "", "", "", "")
	checkAnswers(t, "# a\n\nrules\n#", "", "", "0", "")
	checkAnswers(t, "show\r\nshow\r", "what", "what")
	checkAnswers(t, "show\rshow", "what")
	checkAnswers(t, "show\n show\nshow \nshow", "a0", "what", "what", "a0")
	checkAnswers(t, "term a3\nswap\nshow\nswap\nshow", "ok", "ok", "a0", "ok", "a3")
	checkAnswers(t, "same\nother a1\nsame\nequal\nunify\nmatch\nindex\nfree\nfresh 0\nfresh 1\nbeta\nstep\ncanon", "yes", "ok", "no", "no", "no", "no", "a0", "0", "no", "-", "no", "no", "ok")
	checkAnswers(t, "term [a1]f2((0 1)X0,a2)\nshow\nact (0 2)\nshow\nfree\nfresh 2\ncanon\nshow", "ok", "[a1]f2((0 1)X0,a2)", "ok", "[a1]f2((0 1 2)X0,a0)", "0", "a1#X0", "no", "[a1]f2((0 1 2)X0,a0)")
	checkAnswers(t, "rule - f1((0 1)X0) f1(f2((0 1)X0,(0 1)X0))\nrules\nterm [a2]f1(a2)\nstep\nshow", "ok", "1", "ok", "ok", "[a2]f1(f2(a2,a2))")
	checkAnswers(t, "rule - X0 X0\nrules\nrule - f0 f4\nrule - f4 f0\nrules\nterm f0\nstep\nshow\nstep\nshow", "no", "0", "ok", "ok", "2", "ok", "ok", "f4", "ok", "f0")
}

// Nothing is kept from one text to the next.
func TestSessionTextsBeginAnew(t *testing.T) {
	for range 2 {
		checkAnswers(t, "show\nrules\nswap\nshow", "a0", "0", "ok", "a0")
		checkAnswers(t, "term a5\nother a6\nrule - f0 f0\nrules", "ok", "ok", "ok", "1")
	}
}

func TestSessionTextAtTheLimit(t *testing.T) {
	checkAnswers(t, strings.Repeat("\n", 39), make([]string, 40)...)
	checkAnswers(t, strings.Repeat("\n", 40))
	checkAnswers(t, strings.Repeat("\n", 1000))
	checkAnswers(t, strings.Repeat("show\n", 39)+"rules", append(slices.Repeat([]string{"a0"}, 39), "0")...)
	checkAnswers(t, strings.Repeat("show\n", 40))
	checkAnswers(t, strings.Repeat("show\n", 40)+"rules")
	checkAnswers(t, "#"+strings.Repeat("x", 3999), "")
	checkAnswers(t, "#"+strings.Repeat("x", 4000))
	checkAnswers(t, strings.Repeat("x", 4000), "what")
	checkAnswers(t, strings.Repeat("x", 4001))
	checkAnswers(t, "#"+strings.Repeat("x", 3994)+"\nshow", "", "a0")
	checkAnswers(t, "#"+strings.Repeat("x", 3995)+"\nshow")
	checkAnswers(t, "#"+strings.Repeat("\u00e4", 1999)+"x", "")
	checkAnswers(t, "#"+strings.Repeat("\u00e4", 2000)) // bytes are counted
	full := strings.Repeat(strings.Repeat("x", 99)+"\n", 39) + strings.Repeat("x", 100)
	checkAnswers(t, full, slices.Repeat([]string{"what"}, 40)...)
	checkAnswers(t, full+"x")
	checkAnswers(t, strings.Repeat("x", 10000000))
	checkAnswers(t, strings.Repeat("\n", 10000000))
}

// A long line of one text is no other than a short one.
func TestSessionTextOfLargeTerms(t *testing.T) {
	large := impl.FormatTerm(under(59, atom(0)))
	checkAnswers(t, "term "+large+"\nshow\nother "+large+"\nsame", "ok", large, "ok", "yes")
}
