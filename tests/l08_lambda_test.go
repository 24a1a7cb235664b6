package tests

import (
	"math"
	"strings"
	"testing"

	"loop.example/g03112/impl"
)

func TestLambdaConstants(t *testing.T) {
	got := []int{impl.MaxSteps, impl.MaxWhere, impl.LaFun, impl.LaApply, impl.InBound, impl.InFree, impl.InFun, impl.InApply}
	for i, want := range []int{30, 999, 1, 2, 1, 2, 3, 4} {
		if got[i] != want {
			t.Errorf("constant %d: %d", i, got[i])
		}
	}
}

func TestIsFunctionTerm(t *testing.T) {
	for _, text := range []string{
		"a0", "a999", "f1([a0]a0)", "f1([a0]a1)", "f1([a999]a999)", "f2(a0,a0)", "f2(f1([a0]a0),a1)", "f2(a1,f1([a0]a0))",
		"f1([a0]f1([a0]a0))", "f1([a0]f2(a0,f1([a1]f2(a0,a1))))", "f2(f2(a0,a1),f2(a2,f2(a3,a4)))",
		strings.Repeat("f1([a0]", 29) + "a0" + strings.Repeat(")", 29),
	} {
		if !impl.IsFunctionTerm(term(t, text)) {
			t.Errorf("%s is a function term", text)
		}
	}
	for why, x := range notFunctions(t) {
		if impl.IsFunctionTerm(x) {
			t.Errorf("%s: a function term", why)
		}
	}
	large := lambda(0, atom(0))
	for range 14 {
		large = applied(lambda(1, large), atom(2))
	}
	if impl.SizeOfTerm(large) != 59 || !impl.IsFunctionTerm(large) {
		t.Error("59 nodes are a function term")
	}
	if impl.IsFunctionTerm(applied(large, atom(0))) || impl.IsFunctionTerm(lambda(0, large)) {
		t.Error("61 nodes are none")
	}
}

func TestIsIndexTerm(t *testing.T) {
	for _, x := range []impl.Index{
		bound(0), bound(1), bound(999), free(0), free(999), fun(bound(0)), fun(bound(999)), fun(free(3)),
		apply(bound(0), bound(1)), apply(fun(bound(0)), fun(free(1))), apply(apply(free(0), free(0)), fun(apply(bound(0), bound(5)))),
		{Op: impl.InBound, Kids: []impl.Index{}}, {Op: impl.InFree, N: 2, Kids: []impl.Index{}},
		funs(59, bound(0)), fun(applies(29, free(7))), applies(29, bound(0)), apply(funs(57, bound(0)), free(0)),
	} {
		if !impl.IsIndexTerm(x) {
			t.Errorf("%s is an index term", indexText(x))
		}
	}
	for why, x := range notIndices() {
		if impl.IsIndexTerm(x) {
			t.Errorf("%s: an index term", why)
		}
	}
}

func TestIsClosed(t *testing.T) {
	for text, want := range map[string]bool{
		"a0": true, "a999": true, "0": false, "1": false, "999": false,
		"\\0": true, "\\1": false, "\\999": false, "\\a5": true,
		"\\\\0": true, "\\\\1": true, "\\\\2": false,
		"(a0 a1)": true, "(\\0 \\0)": true, "(\\0 0)": false, "(0 \\0)": false, "(\\1 \\0)": false,
		"\\(0 \\1)": true, "\\(1 \\1)": false, "\\(0 \\2)": false, "\\(\\1 0)": true, "\\(\\0 1)": false,
		"\\\\\\(2 (1 0))": true, "\\\\\\(3 (1 0))": false, "(\\\\1 \\\\1)": true, "(\\\\1 \\\\2)": false,
	} {
		if got := impl.IsClosed(index(t, text)); got != want {
			t.Errorf("%s: %v", text, got)
		}
	}
	if !impl.IsClosed(funs(59, bound(58))) || impl.IsClosed(funs(59, bound(59))) {
		t.Error("within 59 functions, 58 is closed, and 59 is not")
	}
	for why, x := range notIndices() {
		if impl.IsClosed(x) || impl.IsClosed(funs(3, x)) {
			t.Errorf("%s: closed", why)
		}
	}
}

func TestIndexOf(t *testing.T) {
	for text, want := range map[string]string{
		"a0":                                 "a0",
		"a999":                               "a999",
		"f2(a0,a1)":                          "(a0 a1)",
		"f1([a0]a0)":                         "\\0",
		"f1([a7]a7)":                         "\\0",
		"f1([a0]a1)":                         "\\a1",
		"f1([a0]f1([a1]a0))":                 "\\\\1",
		"f1([a0]f1([a1]a1))":                 "\\\\0",
		"f1([a0]f1([a0]a0))":                 "\\\\0", // the inner one binds
		"f1([a0]f1([a1]f1([a0]f2(a0,a1))))":  "\\\\\\(0 1)",
		"f1([a0]f2(a0,f1([a1]f2(a0,a1))))":   "\\(0 \\(1 0))",
		"f1([a0]f2(f1([a0]a0),a0))":          "\\(\\0 0)",
		"f2(f1([a0]a0),a0)":                  "(\\0 a0)", // free behind the function
		"f2(a0,f1([a0]f2(a0,a1)))":           "(a0 \\(0 a1))",
		"f1([a0]f1([a1]f2(a0,f2(a1,a2))))":   "\\\\(1 (0 a2))",
		"f1([a1]f1([a0]f2(a0,f2(a1,a2))))":   "\\\\(0 (1 a2))",
		"f2(f2(a1,a2),f1([a5]f2(a5,a6)))":    "((a1 a2) \\(0 a6))",
		"f1([a3]f1([a2]f1([a1]f1([a0]a3))))": "\\\\\\\\3",
	} {
		if got := toldIndex(impl.IndexOf(functionTerm(t, text))); got != want {
			t.Errorf("%s: %s instead of %s", text, got, want)
		}
	}
	deep := atom(1)
	for a := 29; a > 0; a-- {
		deep = lambda(a, deep)
	}
	if got := toldIndex(impl.IndexOf(deep)); got != strings.Repeat("\\", 29)+"28" {
		t.Error("59 nodes:", got)
	}
	for why, x := range notFunctions(t) {
		if got := toldIndex(impl.IndexOf(x)); got != "-" {
			t.Errorf("%s: %s", why, got)
		}
	}
}

func TestTermOf(t *testing.T) {
	for text, want := range map[string]string{
		"a0":                  "a0",
		"a999":                "a999",
		"(a0 a1)":             "f2(a0,a1)",
		"\\0":                 "f1([a0]a0)",
		"\\a1":                "f1([a0]a1)",
		"\\a0":                "f1([a1]a0)", // a0 is free below
		"\\(0 a0)":            "f1([a1]f2(a1,a0))",
		"\\(a0 (a1 (a3 0)))":  "f1([a2]f2(a0,f2(a1,f2(a3,a2))))",
		"(a0 \\0)":            "f2(a0,f1([a0]a0))", // a0 is free elsewhere
		"(\\a0 \\0)":          "f2(f1([a1]a0),f1([a0]a0))",
		"\\\\0":               "f1([a0]f1([a0]a0))", // the argument of the outer one does not occur
		"\\\\1":               "f1([a0]f1([a1]a0))",
		"\\\\(1 0)":           "f1([a0]f1([a1]f2(a0,a1)))",
		"\\(0 \\0)":           "f1([a0]f2(a0,f1([a0]a0)))", // it occurs, but not below the inner one
		"\\(\\0 0)":           "f1([a0]f2(f1([a0]a0),a0))",
		"\\(\\1 0)":           "f1([a0]f2(f1([a1]a0),a0))",
		"\\(a0 \\0)":          "f1([a1]f2(a0,f1([a0]a0)))",
		"\\(a0 \\1)":          "f1([a1]f2(a0,f1([a0]a1)))", // a0 is not free in the inner one
		"\\\\(1 a0)":          "f1([a1]f1([a2]f2(a1,a0)))",
		"\\\\(0 a0)":          "f1([a1]f1([a1]f2(a1,a0)))",
		"\\\\\\2":             "f1([a0]f1([a1]f1([a1]a0)))",
		"\\\\\\1":             "f1([a0]f1([a0]f1([a1]a0)))",
		"\\\\\\(2 0)":         "f1([a0]f1([a1]f1([a1]f2(a0,a1))))",
		"\\\\\\(1 0)":         "f1([a0]f1([a0]f1([a1]f2(a0,a1))))",
		"\\\\\\(2 (1 0))":     "f1([a0]f1([a1]f1([a2]f2(a0,f2(a1,a2)))))",
		"\\(\\\\(2 0) \\a1)":  "f1([a0]f2(f1([a1]f1([a1]f2(a0,a1))),f1([a0]a1)))",
		"\\\\\\\\(3 (a1 0))":  "f1([a0]f1([a2]f1([a2]f1([a2]f2(a0,f2(a1,a2))))))",
		"(\\(0 0) \\(0 0))":   "f2(f1([a0]f2(a0,a0)),f1([a0]f2(a0,a0)))",
		"\\\\(1 (0 a2))":      "f1([a0]f1([a1]f2(a0,f2(a1,a2))))",
		"\\(0 \\(1 \\(2 1)))": "f1([a0]f2(a0,f1([a1]f2(a0,f1([a2]f2(a0,a1))))))",
	} {
		if got := told(impl.TermOf(index(t, text))); got != want {
			t.Errorf("%s: %s instead of %s", text, got, want)
		}
	}
	for _, text := range []string{"0", "999", "\\1", "\\\\2", "(a0 0)", "(0 a0)", "(\\0 0)", "(0 \\0)", "\\(0 1)", "\\(1 0)", "\\(\\0 1)", "\\\\(2 0)"} {
		if got := told(impl.TermOf(index(t, text))); got != "-" {
			t.Errorf("%s is not closed: %s", text, got)
		}
	}
	for why, x := range notIndices() {
		if got := told(impl.TermOf(x)); got != "-" {
			t.Errorf("%s: %s", why, got)
		}
	}
}

// A function is two nodes of a term, and one of an index term.
func TestTermOfAtTheLimit(t *testing.T) {
	for _, c := range []struct {
		x    impl.Index
		size int
	}{
		{funs(28, bound(27)), 57},
		{funs(29, bound(28)), 59},
		{funs(30, bound(0)), -1},
		{funs(59, bound(0)), -1},
		{applies(29, free(0)), 59},
		{fun(applies(28, bound(0))), 59},
		{fun(applies(29, bound(0))), -1},
		{fun(apply(free(0), applies(28, bound(0)))), -1},
		{apply(funs(28, bound(3)), free(999)), 59},
		{apply(funs(29, bound(3)), free(999)), -1},
	} {
		x, ok := impl.TermOf(c.x)
		if ok != (c.size > 0) || ok && sizeOf(x) != c.size || !ok && !isZero(x) {
			t.Errorf("%s: %s, %v", indexText(c.x), told(x, ok), ok)
		}
	}
}

// stepCase is what a step makes of a term by names, and by indices.
type stepCase struct {
	x, next, index, nextIndex string
}

var stepCases = []stepCase{
	{"f2(f1([a0]a0),a1)", "a1", "(\\0 a1)", "a1"},
	{"f2(f1([a0]a2),a1)", "a2", "(\\a2 a1)", "a2"},
	{"f2(f1([a0]f2(a0,a0)),a1)", "f2(a1,a1)", "(\\(0 0) a1)", "(a1 a1)"},
	{"f2(f1([a0]a0),a0)", "a0", "(\\0 a0)", "a0"}, // free in the argument
	{"f2(f1([a0]f2(a0,a1)),f2(a0,a0))", "f2(f2(a0,a0),a1)", "(\\(0 a1) (a0 a0))", "((a0 a0) a1)"},
	{"f2(f1([a0]f1([a0]a0)),a1)", "f1([a0]a0)", "(\\\\0 a1)", "\\0"}, // the inner one binds
	{"f2(f1([a0]f1([a1]a0)),a2)", "f1([a1]a2)", "(\\\\1 a2)", "\\a2"},
	{"f2(f1([a0]f1([a1]a0)),a1)", "f1([a2]a1)", "(\\\\1 a1)", "\\a1"}, // it must not bind a1
	{"f2(f1([a0]f1([a1]f2(a0,a1))),a1)", "f1([a2]f2(a1,a2))", "(\\\\(1 0) a1)", "\\(a1 0)"},
	{"f2(f1([a0]f1([a1]f2(a0,a2))),f2(a1,a3))", "f1([a4]f2(f2(a1,a3),a2))", "(\\\\(1 a2) (a1 a3))", "\\((a1 a3) a2)"},
	{"f2(f1([a0]f1([a1]a1)),a1)", "f1([a1]a1)", "(\\\\0 a1)", "\\0"}, // nothing comes into it
	{"f2(f1([a0]a0),f1([a0]a0))", "f1([a0]a0)", "(\\0 \\0)", "\\0"},
	{"f2(f1([a0]f1([a1]f2(a0,a1))),f1([a2]f2(a1,a2)))", "f1([a2]f2(f1([a2]f2(a1,a2)),a2))", "(\\\\(1 0) \\(a1 0))", "\\(\\(a1 0) 0)"},
	// Under functions: what is bound outside is free in the redex.
	{"f1([a0]f2(f1([a1]a1),a0))", "f1([a0]a0)", "\\(\\0 0)", "\\0"},
	{"f1([a0]f2(f1([a1]a0),a2))", "f1([a0]a0)", "\\(\\1 a2)", "\\0"},
	{"f1([a0]f2(f1([a1]f1([a2]a1)),a0))", "f1([a0]f1([a2]a0))", "\\(\\\\1 0)", "\\\\1"},
	{"f1([a0]f2(f1([a1]f1([a0]a1)),a0))", "f1([a0]f1([a2]a0))", "\\(\\\\1 0)", "\\\\1"},
	{"f1([a0]f1([a1]f2(f1([a2]f2(a2,a0)),a1)))", "f1([a0]f1([a1]f2(a1,a0)))", "\\\\(\\(0 2) 0)", "\\\\(0 1)"},
	{"f1([a0]f1([a1]f2(f1([a2]f1([a3]f2(f2(a0,a1),f2(a2,a3)))),f1([a4]f2(a4,a0)))))", "f1([a0]f1([a1]f1([a3]f2(f2(a0,a1),f2(f1([a4]f2(a4,a0)),a3)))))",
		"\\\\(\\\\((3 2) (1 0)) \\(0 2))", "\\\\\\((2 1) (\\(0 3) 0))"},
	// The first redex: an application before what is in it, and the function before the argument.
	{"f2(f1([a0]a1),f2(f1([a0]a0),a2))", "a1", "(\\a1 (\\0 a2))", "a1"},
	{"f2(f1([a0]a0),f2(f1([a0]a0),a2))", "f2(f1([a0]a0),a2)", "(\\0 (\\0 a2))", "(\\0 a2)"},
	{"f2(f1([a0]f2(f1([a1]a1),a0)),a2)", "f2(f1([a1]a1),a2)", "(\\(\\0 0) a2)", "(\\0 a2)"},
	{"f2(f2(f1([a0]a0),a1),f2(f1([a0]a0),a2))", "f2(a1,f2(f1([a0]a0),a2))", "((\\0 a1) (\\0 a2))", "(a1 (\\0 a2))"},
	{"f2(f2(a0,f2(f1([a0]a0),a1)),f2(f1([a0]a0),a2))", "f2(f2(a0,a1),f2(f1([a0]a0),a2))", "((a0 (\\0 a1)) (\\0 a2))", "((a0 a1) (\\0 a2))"},
	{"f2(f2(f1([a0]f1([a1]a0)),a2),f2(f1([a0]a0),a3))", "f2(f1([a1]a2),f2(f1([a0]a0),a3))", "((\\\\1 a2) (\\0 a3))", "(\\a2 (\\0 a3))"},
	{"f2(a0,f2(f1([a0]a0),a1))", "f2(a0,a1)", "(a0 (\\0 a1))", "(a0 a1)"},
	{"f2(a0,f1([a1]f2(f1([a0]a0),a1)))", "f2(a0,f1([a1]a1))", "(a0 \\(\\0 0))", "(a0 \\0)"},
	{"f1([a0]f2(f2(f1([a1]a1),a2),f2(f1([a1]a1),a3)))", "f1([a0]f2(a2,f2(f1([a1]a1),a3)))", "\\((\\0 a2) (\\0 a3))", "\\(a2 (\\0 a3))"},
	// One step alone, also if it makes a redex.
	{"f2(f1([a0]f2(a0,a1)),f1([a0]a0))", "f2(f1([a0]a0),a1)", "(\\(0 a1) \\0)", "(\\0 a1)"},
	{"f2(f1([a0]f2(a0,a0)),f1([a0]f2(a0,a0)))", "f2(f1([a0]f2(a0,a0)),f1([a0]f2(a0,a0)))", "(\\(0 0) \\(0 0))", "(\\(0 0) \\(0 0))"},
	{"f2(f1([a0]f2(a0,a0)),f2(f1([a0]a0),a1))", "f2(f2(f1([a0]a0),a1),f2(f1([a0]a0),a1))", "(\\(0 0) (\\0 a1))", "((\\0 a1) (\\0 a1))"},
	// None.
	{"a0", "-", "a0", "-"},
	{"f1([a0]a0)", "-", "\\0", "-"},
	{"f2(a0,a1)", "-", "(a0 a1)", "-"},
	{"f2(a0,f1([a0]a0))", "-", "(a0 \\0)", "-"},
	{"f2(f2(a0,f1([a0]a0)),a1)", "-", "((a0 \\0) a1)", "-"},
	{"f1([a0]f2(a0,f1([a1]f2(a1,f1([a2]a2)))))", "-", "\\(0 \\(0 \\0))", "-"},
}

func TestStepNames(t *testing.T) {
	for _, c := range stepCases {
		if got := told(impl.StepNames(functionTerm(t, c.x))); got != c.next {
			t.Errorf("%s: %s instead of %s", c.x, got, c.next)
		}
	}
	for why, x := range notFunctions(t) {
		if got := told(impl.StepNames(x)); got != "-" {
			t.Errorf("%s: %s", why, got)
		}
	}
}

func TestStepIndices(t *testing.T) {
	for _, c := range stepCases {
		if got := toldIndex(impl.StepIndices(index(t, c.index))); got != c.nextIndex {
			t.Errorf("%s: %s instead of %s", c.index, got, c.nextIndex)
		}
		if got := toldIndex(impl.IndexOf(functionTerm(t, c.x))); got != c.index {
			t.Errorf("%s: %s instead of %s", c.x, got, c.index)
		}
	}
	for why, x := range notIndices() {
		if got := toldIndex(impl.StepIndices(x)); got != "-" {
			t.Errorf("%s: %s", why, got)
		}
	}
}

// Indices that lead out of the term.
func TestStepOpenIndices(t *testing.T) {
	for text, want := range map[string]string{
		"0":                               "-",
		"(0 1)":                           "-",
		"\\5":                             "-",
		"(\\0 0)":                         "0",
		"(\\0 5)":                         "5",
		"(\\1 5)":                         "0", // one function less around it
		"(\\7 5)":                         "6",
		"(\\(0 (1 2)) 5)":                 "(5 (0 1))",
		"(\\\\0 5)":                       "\\0",
		"(\\\\1 5)":                       "\\6", // within a function more
		"(\\\\2 5)":                       "\\1",
		"(\\\\(0 (1 2)) 0)":               "\\(0 (1 1))",
		"(\\\\\\2 5)":                     "\\\\7",
		"(\\(0 \\(1 \\2)) 5)":             "(5 \\(6 \\7))",
		"(\\0 \\0)":                       "\\0",
		"(\\0 \\1)":                       "\\1",
		"(\\\\1 \\0)":                     "\\\\0", // closed in the argument
		"(\\\\1 \\1)":                     "\\\\2", // leads out of it
		"(\\\\1 \\(0 1))":                 "\\\\(0 2)",
		"(\\\\1 \\\\(0 (1 (2 3))))":       "\\\\\\(0 (1 (3 4)))",
		"(\\\\\\2 \\(0 (1 \\(1 2))))":     "\\\\\\(0 (3 \\(1 4)))",
		"(\\\\(1 2) \\0)":                 "\\(\\0 1)",
		"(\\\\(2 1) 0)":                   "\\(1 1)",
		"\\(\\\\(2 (1 0)) 0)":             "\\\\(1 (1 0))",
		"\\(\\\\(3 (1 0)) 1)":             "\\\\(2 (2 0))",
		"\\\\(\\(0 (1 (2 3))) (0 (1 2)))": "\\\\((0 (1 2)) (0 (1 2)))",
		"(7 (\\(0 1) 2))":                 "(7 (2 0))",
		"((\\(0 1) 2) (\\0 3))":           "((2 0) (\\0 3))",
	} {
		if got := toldIndex(impl.StepIndices(index(t, text))); got != want {
			t.Errorf("%s: %s instead of %s", text, got, want)
		}
	}
}

func TestStepIndicesAtTheLimit(t *testing.T) {
	for text, want := range map[string]string{
		"(\\0 999)":           "999",
		"(\\\\1 998)":         "\\999",
		"(\\\\1 999)":         "-", // would be 1000
		"(\\\\1 \\999)":       "-",
		"(\\\\1 \\998)":       "\\\\999",
		"(\\\\\\2 998)":       "-",
		"(\\\\\\2 997)":       "\\\\999",
		"(\\\\0 999)":         "\\0", // does not come into it
		"(\\\\2 999)":         "\\1",
		"(\\(0 \\1) 999)":     "-",
		"(\\(0 \\0) 999)":     "(999 \\0)",
		"(\\999 a0)":          "998",
		"(\\\\999 a0)":        "\\998",
		"(\\(999 0) 999)":     "(998 999)",
		"(a0 (\\\\1 999))":    "-",
		"\\\\(\\\\1 999)":     "-",
		"((\\0 a0) \\\\999)":  "(a0 \\\\999)",
		"((\\\\1 a0) \\1)":    "(\\a0 \\1)",
		"(\\\\(1 1) (0 999))": "-",
	} {
		if got := toldIndex(impl.StepIndices(index(t, text))); got != want {
			t.Errorf("%s: %s instead of %s", text, got, want)
		}
	}
	twice := fun(apply(bound(0), bound(0)))
	for _, c := range []struct {
		x    impl.Index
		size int
	}{
		{fun(apply(twice, funs(28, bound(0)))), 60},
		{funs(2, apply(twice, funs(28, bound(0)))), -1},
		{apply(twice, funs(28, bound(0))), 59},
		{apply(twice, funs(29, bound(0))), -1},
		{apply(twice, funs(54, bound(0))), -1},
		{apply(fun(applies(27, bound(0))), free(0)), 55},
		{apply(fun(applies(27, bound(0))), fun(free(0))), -1},
		{apply(fun(applies(27, bound(1))), fun(free(0))), 55},
		{apply(free(1), apply(twice, funs(27, bound(40)))), 59},
		{apply(fun(free(1)), apply(twice, funs(51, bound(0)))), 1},
	} {
		x, ok := impl.StepIndices(c.x)
		if ok != (c.size > 0) || ok && indexSize(x) != c.size || !ok && toldIndex(x, ok) != "-" {
			t.Errorf("%s: %s, %v", indexText(c.x), toldIndex(x, ok), ok)
		}
	}
}

func TestStepNamesAtTheLimit(t *testing.T) {
	twice := lambda(0, applied(atom(0), atom(0)))
	some := func(count int) impl.Term {
		x := atom(1)
		for range count {
			x = applied(x, atom(1))
		}
		return x
	}
	for _, c := range []struct {
		x    impl.Term
		size int
	}{
		{applied(twice, some(14)), 59},
		{applied(twice, some(15)), -1}, // 63
		{applied(some(1), applied(twice, some(13))), 59},
		{applied(some(2), applied(twice, some(13))), -1}, // 61
		{lambda(1, applied(twice, some(13))), 57},
		{lambda(1, lambda(1, applied(twice, some(13)))), 59},
		{lambda(1, lambda(1, lambda(1, applied(twice, some(13))))), -1},
		{applied(lambda(0, atom(2)), some(27)), 1},
		{applied(lambda(0, some(27)), atom(0)), 55},
		{applied(applied(lambda(0, atom(0)), atom(1)), some(26)), 55},
	} {
		x, ok := impl.StepNames(c.x)
		if ok != (c.size > 0) || ok && sizeOf(x) != c.size || !ok && !isZero(x) {
			t.Errorf("%s: %s, %v", impl.FormatTerm(c.x), told(x, ok), ok)
		}
	}
}

// chain applies the function that gives back its argument, count times.
func chain(count int, x impl.Term) impl.Term {
	for range count {
		x = applied(lambda(0, atom(0)), x)
	}
	return x
}

// eightfold takes 24 steps: what is done twice, and this again, and again, gives
// back its argument.
func eightfold(t *testing.T) impl.Term {
	t.Helper()
	twice := "f1([a0]f1([a1]f2(a0,f2(a0,a1))))"
	thrice := "f1([a0]f1([a1]f2(a0,f2(a0,f2(a0,a1)))))"
	return functionTerm(t, "f2(f2(f2("+thrice+","+twice+"),f1([a0]a0)),a3)")
}

func TestRunNames(t *testing.T) {
	for _, c := range []struct {
		x, last string
		count   int
	}{
		{"a0", "a0", 0},
		{"f1([a7]f2(a7,a0))", "f1([a7]f2(a7,a0))", 0},
		{"f2(f1([a0]a0),a1)", "a1", 1},
		{"f2(f2(f1([a0]f1([a1]a0)),a2),a3)", "a2", 2},
		{"f2(f2(f1([a0]f1([a1]a0)),a1),a3)", "a1", 2},
		{"f2(f1([a0]f1([a1]f2(a0,a1))),f2(f1([a0]a0),a1))", "f1([a2]f2(a1,a2))", 2},
		{"f2(f1([a0]f2(a0,a0)),f2(f1([a0]a0),a1))", "f2(a1,a1)", 3},
		{"f2(f1([a0]f2(a0,a0)),f1([a0]a0))", "f1([a0]a0)", 2},
		{"f1([a0]f2(f1([a1]f2(a1,a0)),f2(f1([a1]a1),a0)))", "f1([a0]f2(a0,a0))", 2},
		{"f2(f1([a0]a1),f2(f1([a0]f2(a0,a0)),f1([a0]f2(a0,a0))))", "a1", 1}, // what would have no end is thrown away
	} {
		x := functionTerm(t, c.x)
		for _, most := range []int{0, 1, 2, 3, 4, 29, 30} {
			last, count, ok := impl.RunNames(x, most)
			if most < c.count {
				if ok || count != 0 || !isZero(last) {
					t.Errorf("%s in %d steps: %s, %d", c.x, most, told(last, ok), count)
				}
			} else if !ok || count != c.count || impl.FormatTerm(last) != c.last {
				t.Errorf("%s in %d steps: %s after %d", c.x, most, told(last, ok), count)
			}
		}
	}
}

func TestRunNamesAtTheLimit(t *testing.T) {
	for _, c := range []struct {
		x     impl.Term
		count int
	}{
		{chain(14, atom(3)), 14},
		{eightfold(t), 24},
		{chain(5, eightfold(t)), 29},
		{chain(6, eightfold(t)), 30},
	} {
		for _, most := range []int{c.count, impl.MaxSteps} {
			if last, count, ok := impl.RunNames(c.x, most); !ok || count != c.count || !same(last, atom(3)) {
				t.Errorf("%s in %d steps: %s after %d", impl.FormatTerm(c.x), most, told(last, ok), count)
			}
		}
		if last, count, ok := impl.RunNames(c.x, c.count-1); ok || count != 0 || !isZero(last) {
			t.Errorf("%s: %s after %d", impl.FormatTerm(c.x), told(last, ok), count)
		}
	}
	if last, count, ok := impl.RunNames(chain(7, eightfold(t)), impl.MaxSteps); ok || count != 0 || !isZero(last) {
		t.Errorf("31 steps: %s after %d", told(last, ok), count)
	}
}

func TestRunNamesInvalid(t *testing.T) {
	check := func(why string, x impl.Term, most int) {
		t.Helper()
		if last, count, ok := impl.RunNames(x, most); ok || count != 0 || !isZero(last) {
			t.Errorf("%s, at most %d: %s after %d", why, most, told(last, ok), count)
		}
	}
	for why, x := range notFunctions(t) {
		for _, most := range []int{-1, 0, 1, 30, 31} {
			check(why, x, most)
		}
	}
	for _, most := range []int{-1, 31, math.MinInt, math.MaxInt} {
		check("no redex", atom(0), most)
		check("a redex", chain(1, atom(0)), most)
	}
	for most := range 31 {
		check("no end", functionTerm(t, "f2(f1([a0]f2(a0,a0)),f1([a0]f2(a0,a0)))"), most)
		check("larger and larger", functionTerm(t, "f2(f1([a0]f2(f2(a0,a0),a0)),f1([a0]f2(f2(a0,a0),a0)))"), most)
		check("too large at once", applied(lambda(0, applied(atom(0), applied(atom(0), atom(0)))), chain(9, atom(1))), most)
	}
}
