package tests

import (
	"math"
	"math/rand"
	"slices"
	"testing"

	"loop.example/g03112/impl"
)

// read is the permutation with the text; the text must have one.
func read(t *testing.T, text string) []impl.Pair {
	t.Helper()
	p, ok := impl.ParsePermutation(text)
	if !ok {
		t.Fatalf("no permutation with the text %q", text)
	}
	return p
}

// pairs makes a list of pairs of From, To, From, To and so on.
func pairs(numbers ...int) []impl.Pair {
	l := []impl.Pair{}
	for i := 0; i < len(numbers); i += 2 {
		l = append(l, impl.Pair{From: numbers[i], To: numbers[i+1]})
	}
	return l
}

// rotation is the one cycle of count atoms from first on.
func rotation(first, count int) []impl.Pair {
	l := []impl.Pair{}
	for i := range count {
		l = append(l, impl.Pair{From: first + i, To: first + (i+1)%count})
	}
	return l
}

// notPermutations tells, for each way in which a list of pairs can fail to be
// a permutation, one that fails in this way alone where that is possible.
func notPermutations() map[string][]impl.Pair {
	return map[string][]impl.Pair{
		"From below the atoms":  pairs(-1, 0, 0, -1),
		"atoms above the last":  pairs(999, 1000, 1000, 999),
		"least numbers":         pairs(math.MinInt, math.MaxInt, math.MaxInt, math.MinInt),
		"To above the last":     pairs(0, 1000),
		"an atom to itself":     pairs(0, 0),
		"one to itself of many": pairs(0, 1, 1, 0, 5, 5),
		"descending":            pairs(1, 0, 0, 1),
		"From twice":            pairs(0, 1, 0, 1, 1, 0),
		"all twice":             pairs(0, 1, 0, 1),
		"two given by one atom": pairs(0, 1, 0, 2, 1, 0, 2, 0),
		"To of no pair":         pairs(0, 1),
		"To is no From":         pairs(0, 1, 1, 2),
		"To twice":              pairs(0, 1, 1, 0, 2, 0),
		"an atom never given":   pairs(0, 1, 1, 2, 2, 1),
		"too many moved":        rotation(0, impl.MaxMoved+1),
	}
}

// somePermutations are random ones, from few atoms so that they often move the
// same, and some that reach the limits.
func somePermutations(count int) [][]impl.Pair {
	random := rand.New(rand.NewSource(1))
	l := [][]impl.Pair{{}, rotation(0, impl.MaxMoved), rotation(impl.MaxAtom+1-impl.MaxMoved, impl.MaxMoved)}
	for len(l) < count {
		base := random.Perm(2 + random.Intn(24))
		spread := 1 + random.Intn(40)
		p := []impl.Pair{}
		for a, b := range base {
			if a != b {
				p = append(p, impl.Pair{From: a * spread, To: b * spread})
			}
		}
		l = append(l, p)
	}
	return l
}

// tableOf writes a permutation out for all atoms, without the functions of
// the program.
func tableOf(p []impl.Pair) [impl.MaxAtom + 1]int {
	var table [impl.MaxAtom + 1]int
	for a := range table {
		table[a] = a
	}
	for _, pair := range p {
		table[pair.From] = pair.To
	}
	return table
}

// pairsOf is what tableOf comes of.
func pairsOf(table [impl.MaxAtom + 1]int) []impl.Pair {
	p := []impl.Pair{}
	for a, b := range table {
		if a != b {
			p = append(p, impl.Pair{From: a, To: b})
		}
	}
	return p
}

// readAll are the permutations with the texts.
func readAll(t *testing.T, texts ...string) [][]impl.Pair {
	t.Helper()
	l := [][]impl.Pair{}
	for _, text := range texts {
		l = append(l, read(t, text))
	}
	return l
}

func sameLists[T comparable](l, m [][]T) bool {
	return slices.EqualFunc(l, m, func(x, y []T) bool { return slices.Equal(x, y) })
}

// toEachNear checks what comes of a text by leaving its end or a letter out, or
// by putting one of the letters in.
func toEachNear(text, letters string, check func(string)) {
	for i := range text {
		check(text[:i])
		check(text[:i] + text[i+1:])
		for _, c := range letters {
			check(text[:i] + string(c) + text[i+1:])
			check(text[:i] + string(c) + text[i:])
		}
	}
}

// toEachText checks what comes of a text by putting up to more letters behind.
func toEachText(text, letters string, more int, check func(string)) {
	check(text)
	if more > 0 {
		for _, c := range letters {
			toEachText(text+string(c), letters, more-1, check)
		}
	}
}
