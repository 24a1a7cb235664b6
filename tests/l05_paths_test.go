package tests

import (
	"math"
	"slices"
	"testing"

	"loop.example/g03112/impl"
)

func path(numbers ...int) []int {
	return numbers
}

func TestPathsOf(t *testing.T) {
	for _, c := range []struct {
		x    string
		want [][]int
	}{
		{"a0", [][]int{{}}},
		{"f0", [][]int{{}}},
		{"(0 1)X0", [][]int{{}}},
		{"[a0]a0", [][]int{{}, {0}}},
		{"f1(a0)", [][]int{{}, {0}}},
		{"f2([a0]a0,a1)", [][]int{{}, {0}, {0, 0}, {1}}},
		{"f3(a0,f2(a1,f1(X0)),f0)", [][]int{{}, {0}, {1}, {1, 0}, {1, 1}, {1, 1, 0}, {2}}},
		{"[a0][a0][a0]a0", [][]int{{}, {0}, {0, 0}, {0, 0, 0}}},
	} {
		if got := impl.PathsOf(term(t, c.x)); !sameLists(got, c.want) {
			t.Errorf("%s: %v", c.x, got)
		}
	}
	if got := impl.PathsOf(under(59, atom(0))); len(got) != 60 || len(got[59]) != 59 {
		t.Error("60 nodes:", got)
	}
	for why, x := range notTerms() {
		if got := impl.PathsOf(x); len(got) != 0 {
			t.Errorf("%s: %v", why, got)
		}
	}
}

// nowhere are paths that lead nowhere in f2([a0]f0,a1).
func nowhere() [][]int {
	return [][]int{
		path(-1), path(2), path(math.MinInt), path(math.MaxInt), path(0, -1), path(0, 1), path(0, 0, 0), path(1, 0), path(2, 0), path(-1, 0), path(0, -1, 0),
		path(1, -1), slices.Repeat(path(0), 100000),
	}
}

func TestTermAt(t *testing.T) {
	for _, c := range []struct {
		x    string
		path []int
		want string
	}{
		{"a0", nil, "a0"},
		{"a0", path(), "a0"},
		{"f2([a0]a0,a1)", path(), "f2([a0]a0,a1)"},
		{"f2([a0]a0,a1)", path(0), "[a0]a0"},
		{"f2([a0]a0,a1)", path(0, 0), "a0"}, // free now
		{"f2([a0]a0,a1)", path(1), "a1"},
		{"f3(a0,a1,f3(a2,[a3]f1((0 1)X0),a4))", path(2, 1), "[a3]f1((0 1)X0)"},
		{"f3(a0,a1,f3(a2,[a3]f1((0 1)X0),a4))", path(2, 1, 0, 0), "(0 1)X0"},
		{"f3(a0,a1,f3(a2,[a3]f1((0 1)X0),a4))", path(2, 2), "a4"},
	} {
		if got, ok := impl.TermAt(term(t, c.x), c.path); !ok || !same(got, term(t, c.want)) {
			t.Errorf("%v of %s: %s, %v", c.path, c.x, impl.FormatTerm(got), ok)
		}
	}
	if got, ok := impl.TermAt(under(59, atom(7)), slices.Repeat(path(0), 59)); !ok || !same(got, atom(7)) {
		t.Error("59 places:", got)
	}
	for _, p := range nowhere() {
		if got, ok := impl.TermAt(term(t, "f2([a0]f0,a1)"), p); ok || !isZero(got) {
			t.Errorf("%v: %v", p[:min(3, len(p))], got)
		}
	}
	for why, x := range notTerms() {
		for _, p := range [][]int{nil, {0}, {0, 0}, {1}, {7}} {
			if got, ok := impl.TermAt(x, p); ok || !isZero(got) {
				t.Errorf("%s: %v", why, got)
			}
		}
	}
}

func TestPutAt(t *testing.T) {
	for _, c := range []struct {
		x    string
		path []int
		u    string
		want string
	}{
		{"a0", nil, "f1(X1)", "f1(X1)"},
		{"f2([a0]a0,a1)", path(), "a5", "a5"},
		{"f2([a0]a0,a1)", path(0), "a5", "f2(a5,a1)"},
		{"f2([a0]a0,a1)", path(1), "f2(a5,a6)", "f2([a0]a0,f2(a5,a6))"},
		{"f2([a0]a0,a1)", path(0, 0), "a5", "f2([a0]a5,a1)"},
		{"f2([a0]a1,a1)", path(0, 0), "a0", "f2([a0]a0,a1)"}, // the binder around it binds it
		{"f2([a0]a1,a1)", path(0, 0), "[a0](0 1)X0", "f2([a0][a0](0 1)X0,a1)"},
		{"f3(X0,(0 1)X0,f3(a2,[a3]f1((0 2)X0),a4))", path(2, 1, 0, 0), "X1", "f3(X0,(0 1)X0,f3(a2,[a3]f1(X1),a4))"},
		{"f3(X0,(0 1)X0,f3(a2,[a3]f1((0 2)X0),a4))", path(1), "(1 2)X3", "f3(X0,(1 2)X3,f3(a2,[a3]f1((0 2)X0),a4))"},
		{"f3(a0,a0,a0)", path(1), "f3(a0,a0,a0)", "f3(a0,f3(a0,a0,a0),a0)"},
	} {
		if got, ok := impl.PutAt(term(t, c.x), c.path, term(t, c.u)); !ok || !same(got, term(t, c.want)) {
			t.Errorf("%s at %v of %s: %s, %v", c.u, c.path, c.x, impl.FormatTerm(got), ok)
		}
	}
}

func TestPutAtTheLimit(t *testing.T) {
	x, deep := under(29, atom(0)), slices.Repeat(path(0), 29)
	if got, ok := impl.PutAt(x, deep, under(30, atom(1))); !ok || !same(got, under(59, atom(1))) {
		t.Error("60 nodes:", got)
	}
	if got, ok := impl.PutAt(x, deep, under(31, atom(1))); ok || !isZero(got) {
		t.Error("61 nodes:", got)
	}
	if got, ok := impl.PutAt(wide(19, atom(0)), path(), under(59, atom(1))); !ok || !same(got, under(59, atom(1))) {
		t.Error("nothing is left of the first one:", got)
	}
	if got, ok := impl.PutAt(under(59, atom(0)), path(0), node(0)); !ok || !same(got, node(1, node(0))) {
		t.Error("less than before:", got)
	}
}

func TestPutAtInvalid(t *testing.T) {
	for _, p := range nowhere() {
		if got, ok := impl.PutAt(term(t, "f2([a0]f0,a1)"), p, atom(0)); ok || !isZero(got) {
			t.Errorf("%v: %v", p[:min(3, len(p))], got)
		}
	}
	for why, x := range notTerms() {
		for _, p := range [][]int{nil, {0}, {0, 0}, {1}} {
			for _, both := range [][2]impl.Term{{x, node(0)}, {x, hole(0)}, {node(2, atom(0), atom(1)), x}, {x, x}} {
				if got, ok := impl.PutAt(both[0], p, both[1]); ok || !isZero(got) {
					t.Errorf("%s: %v", why, got)
				}
			}
		}
	}
}
