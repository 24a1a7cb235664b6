package tests

import (
	"math/rand"
	"slices"
	"strings"
	"testing"

	"loop.example/g03112/impl"
)

// Promise 9: a session does what its parts do.
func TestSessionsDoWhatTheirPartsDo(t *testing.T) {
	random := rand.New(rand.NewSource(120))
	answers := map[string]map[string]int{}
	for range 700 {
		s := someSession(random)
		for range 30 {
			line := someLine(random, s)
			if random.Intn(8) == 0 {
				line = spoiltLine(random, line)
			}
			next, got := impl.SessionLine(s, line)
			after, want := lineByHand(s, line)
			if got != want || !sameSessions(next, after) {
				t.Fatalf("%q in %s: %q and %s instead of %q and %s", line, sessionText(s), got, sessionText(next), want, sessionText(after))
			}
			if !impl.IsSession(next) {
				t.Fatalf("%q in %s leads to what is no session: %s", line, sessionText(s), sessionText(next))
			}
			countAnswer(answers, line, got)
			s = next
		}
	}
	for _, word := range []string{"canon", "step", "beta", "equal", "unify", "match", "same", "index", "act", "replace", "fresh", "rule"} {
		if no := answers[word]["no"]; word != "act" && no < 20 || answers[word]["another"] < 50 {
			t.Errorf("%s: answered with no %d times, and else %d times", word, no, answers[word]["another"])
		}
	}
}

func countAnswer(answers map[string]map[string]int, line, got string) {
	word, _, _ := strings.Cut(line, " ")
	if answers[word] == nil {
		answers[word] = map[string]int{}
	}
	if got != "no" && got != "what" {
		got = "another"
	}
	answers[word][got]++
}

// spoiltLine is a line with one letter more, one less, or another one.
func spoiltLine(random *rand.Rand, line string) string {
	letters := "01aelfX#()[,- \n"
	i, more := random.Intn(len(line)+1), string(letters[random.Intn(len(letters))])
	switch {
	case random.Intn(2) == 0 || i == len(line):
		return line[:i] + more + line[i:]
	case random.Intn(2) == 0:
		more = ""
	}
	return line[:i] + more + line[i+1:]
}

// A text is done line by line, from a new session on.
func TestTextsAreDoneLineByLine(t *testing.T) {
	random := rand.New(rand.NewSource(121))
	count := 0
	for range 1500 {
		lines, want := []string{}, []string{}
		s := newSession()
		for range 1 + random.Intn(42) {
			line := someLine(random, s)
			switch random.Intn(12) {
			case 0:
				line = ""
			case 1:
				line = "#" + line
			}
			next, got := lineByHand(s, line)
			lines, want, s = append(lines, line), append(want, got), next
		}
		text := strings.Join(lines, "\n")
		if len(lines) > impl.MaxLines || len(text) > impl.MaxText {
			want = nil
		} else {
			count++
		}
		if got := impl.SessionText(text); !slices.Equal(got, want) {
			t.Fatalf("%q: %q instead of %q", text, got, want)
		}
	}
	if count < 1000 || count > 1480 {
		t.Error("texts within the limits:", count)
	}
}

// What a session has written is read back.
func TestSessionsReadBack(t *testing.T) {
	random := rand.New(rand.NewSource(122))
	for range 1000 {
		s := someSession(random)
		lines := []string{"term " + impl.FormatTerm(s.Term), "ok", "show", impl.FormatTerm(s.Term), "other " + impl.FormatTerm(s.Other), "ok"}
		for i, r := range s.Rules {
			lines = append(lines, ruleLine(r), "ok", "rules", string(rune('1'+i)))
		}
		if back := talk(t, newSession(), lines...); !sameSessions(back, s) {
			t.Fatalf("%s became %s", sessionText(s), sessionText(back))
		}
	}
}

// What is done may be undone, and done by other lines too.
func TestLinesTogether(t *testing.T) {
	random := rand.New(rand.NewSource(123))
	for range 1000 {
		s := someSession(random)
		talk(t, s, "swap", "ok", "swap", "ok", "show", impl.FormatTerm(s.Term))
		p := somePermutationOf(random, 6)
		back, _ := impl.InversePermutation(p)
		x, ok := impl.ActOn(p, s.Term)
		if !ok {
			t.Fatal("no longer a term")
		}
		after := talk(t, s, "act "+impl.FormatPermutation(p), "ok", "show", impl.FormatTerm(x), "act "+impl.FormatPermutation(back), "ok")
		if !sameSessions(after, s) {
			t.Fatalf("%s, acted on and back: %s", sessionText(s), sessionText(after))
		}
		if hasHoles(s.Term) || hasHoles(s.Other) {
			continue
		}
		_, same := impl.SessionLine(s, "same")
		_, equal := impl.SessionLine(s, "equal")
		_, unify := impl.SessionLine(s, "unify")
		if (same == "yes") != (equal == "-") || (same == "yes") != (unify == "-") {
			t.Fatalf("%s: %q, %q and %q", sessionText(s), same, equal, unify)
		}
	}
}
