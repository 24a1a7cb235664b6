package tests

import (
	"math"
	"slices"
	"strings"
	"testing"

	"loop.example/g03112/impl"
)

// someTexts are texts of index terms.
var someTexts = map[string]impl.Index{
	"0":                               bound(0),
	"7":                               bound(7),
	"999":                             bound(999),
	"a0":                              free(0),
	"a999":                            free(999),
	"\\0":                             fun(bound(0)),
	"\\a0":                            fun(free(0)),
	"\\\\\\12":                        funs(3, bound(12)),
	"(0 1)":                           apply(bound(0), bound(1)),
	"(a10 a1)":                        apply(free(10), free(1)),
	"\\(0 a3)":                        fun(apply(bound(0), free(3))),
	"(\\0 a3)":                        apply(fun(bound(0)), free(3)),
	"(0 \\0)":                         apply(bound(0), fun(bound(0))),
	"((0 1) 2)":                       apply(apply(bound(0), bound(1)), bound(2)),
	"(0 (1 2))":                       apply(bound(0), apply(bound(1), bound(2))),
	"\\\\(1 (0 a2))":                  funs(2, apply(bound(1), apply(bound(0), free(2)))),
	"(\\(0 0) \\(0 0))":               apply(fun(apply(bound(0), bound(0))), fun(apply(bound(0), bound(0)))),
	"((a1 100) \\(\\a20 (30 \\\\5)))": apply(apply(free(1), bound(100)), fun(apply(fun(free(20)), apply(bound(30), funs(2, bound(5)))))),
	strings.Repeat("\\", 59) + "58":   funs(59, bound(58)),
	"\\" + strings.Repeat("(", 29) + "a1" + strings.Repeat(" a1)", 29): fun(applies(29, free(1))),
}

func TestFormatIndex(t *testing.T) {
	for want, x := range someTexts {
		if got := impl.FormatIndex(x); got != want {
			t.Errorf("%q instead of %q", got, want)
		}
	}
	for why, x := range notIndices() {
		if got := impl.FormatIndex(x); got != "" {
			t.Errorf("%s: %q", why, got)
		}
	}
}

func TestParseIndex(t *testing.T) {
	for text, want := range someTexts {
		if got, ok := impl.ParseIndex(text); !ok || !sameIndices(got, want) {
			t.Errorf("%q: %s", text, toldIndex(got, ok))
		}
	}
}

func TestParseNoIndex(t *testing.T) {
	for _, text := range []string{
		"", " ", "a", "\\", "(", ")", "()", "( )", "x", "X0", "f0", "-", "A0", "b0",
		"1000", "00", "01", "-1", "+1", "-0", "1.", "1e1", "0x1", "1_0", " 0", "0 ", "0\n", "0 0", "0,0", "0a", "0\\0", "0(0 0)", "0)", "\u0661", "18446744073709551616",
		"a1000", "a00", "a01", "a-1", "a+1", "a 1", "a1 ", " a1", "aa1", "a1a1", "a\\0", "a(0 0)", "a\u0661",
		"\\ 0", "\\0 ", "\\0)", "\\(0)", "\\()", "\\\\", "\\.0", "/0", "\\1000", "\\a1000", "\\-1", "\\[a0]0",
		"(0)", "(0 )", "( 0)", "( 0 1)", "(0 1 )", "(0  1)", "(0 1", "0 1)", "(0,1)", "(0\t1)", "(01)", "(0 1 2)", "(0 1))", "((0 1)", "((0 1))", "(0(1 2))", "(0\\0)", "(a0a1)", "(\\0\\0)", "(0 1)2", "(0 1)(0 1)", "[0 1]", "(0 1000)", "(1000 0)", "(0 a1000)", "(0 01)", "(00 1)", "((0 1)2)", "(\\0 \\)", "(\\ 0)",
	} {
		if got, ok := impl.ParseIndex(text); ok || toldIndex(got, ok) != "-" {
			t.Errorf("%q: %s", text, toldIndex(got, ok))
		}
	}
}

func TestParseIndexAtTheLimit(t *testing.T) {
	for why, text := range map[string]string{
		"61 nodes":       strings.Repeat("\\", 60) + "0",
		"61 wide":        strings.Repeat("(", 30) + "0" + strings.Repeat(" 0)", 30),
		"61 to the end":  strings.Repeat("(0 ", 30) + "0" + strings.Repeat(")", 30),
		"many functions": strings.Repeat("\\", 1000000) + "0",
		"many applied":   strings.Repeat("(", 1000000),
		"many arguments": strings.Repeat("(0 ", 1000000),
		"many digits":    strings.Repeat("1", 1000000),
		"a many digits":  "a" + strings.Repeat("0", 1000000),
	} {
		if got, ok := impl.ParseIndex(text); ok || got.Op != 0 || len(got.Kids) > 0 {
			t.Errorf("%s: %v", why, ok)
		}
	}
	for why, text := range map[string]string{
		"60 nodes":      strings.Repeat("\\", 59) + "0",
		"60 wide":       "\\" + strings.Repeat("(", 29) + "0" + strings.Repeat(" 0)", 29),
		"60 to the end": "\\" + strings.Repeat("(0 ", 29) + "0" + strings.Repeat(")", 29),
	} {
		if got, ok := impl.ParseIndex(text); !ok || indexText(got) != text || indexSize(got) != 60 {
			t.Errorf("%s: %v", why, ok)
		}
	}
}

// sameIndices compares without the functions of the program.
func sameIndices(x, y impl.Index) bool {
	return x.Op == y.Op && x.N == y.N && slices.EqualFunc(x.Kids, y.Kids, sameIndices)
}

// SameIndices accepts any values, also those that are no index terms.
func TestSameIndices(t *testing.T) {
	values := []impl.Index{
		{}, {Op: -1}, {Op: 5}, {Op: math.MinInt}, {Op: math.MaxInt}, {N: 1}, {N: math.MinInt},
		bound(0), bound(1), bound(-1), bound(math.MaxInt), free(0), free(1), free(math.MinInt),
		bound(0, bound(0)), bound(0, bound(1)), bound(0, free(0)), fun(), fun(bound(0)), fun(bound(1)), fun(free(0)), fun(fun(bound(0))),
		{Op: impl.InFun, N: 1, Kids: []impl.Index{bound(0)}}, fun(bound(0), bound(0)), fun(impl.Index{}), fun(impl.Index{}, impl.Index{}),
		apply(), apply(bound(0)), apply(bound(0), bound(1)), apply(bound(1), bound(0)), apply(bound(0), bound(1), bound(1)),
		apply(fun(bound(0)), bound(0)), apply(bound(0), fun(bound(0))), funs(100, bound(0)), funs(101, bound(0)), funs(100, free(0)),
	}
	for i, x := range values {
		for j := range values {
			if got := impl.SameIndices(x, copiedIndex(values[j])); got != (i == j) {
				t.Errorf("%v and %v: %v", x, values[j], got)
			}
		}
	}
	empty := impl.Index{Op: impl.InBound, Kids: []impl.Index{}}
	if !impl.SameIndices(empty, bound(0)) || !impl.SameIndices(bound(0), empty) || !impl.SameIndices(fun(empty), fun(bound(0))) {
		t.Error("an empty slice is as good as none")
	}
}

// copiedIndex is the same value in other memory.
func copiedIndex(x impl.Index) impl.Index {
	y := impl.Index{Op: x.Op, N: x.N}
	for _, kid := range x.Kids {
		y.Kids = append(y.Kids, copiedIndex(kid))
	}
	return y
}

// Values that are no index terms may be very deep, or use the same memory again
// and again, or be without end.
func TestSameIndicesAlwaysEnds(t *testing.T) {
	check := func(why string, x, y impl.Index, want bool) {
		if impl.SameIndices(x, y) != want || impl.SameIndices(y, x) != want {
			t.Errorf("%s: not %v", why, want)
		}
	}
	doubled := func(x impl.Index) impl.Index {
		for range 64 {
			x = apply(x, x)
		}
		return x
	}
	check("deep", funs(300000, bound(0)), funs(300000, bound(0)), true)
	check("deep and other", funs(300000, bound(0)), funs(300000, bound(1)), false)
	check("deep and deeper", funs(300000, bound(0)), funs(300001, bound(0)), false)
	check("shared", doubled(bound(0)), doubled(bound(0)), true)
	check("shared and other", doubled(bound(0)), doubled(bound(1)), false)
	check("in itself", indexInItself(3, 0, 1), indexInItself(3, 0, 1), true)
	check("in itself and other", indexInItself(3, 0, 1), indexInItself(3, 1, 1), false)
	check("in itself, more often", indexInItself(4, 0, 3), indexInItself(4, 0, 2), false)
	check("in itself and not", indexInItself(3, 0, 1), funs(1000, bound(0)), false)
	check("in itself, twice", indexInItself(4, 0, 2), indexInItself(4, 0, 2), true)
}
