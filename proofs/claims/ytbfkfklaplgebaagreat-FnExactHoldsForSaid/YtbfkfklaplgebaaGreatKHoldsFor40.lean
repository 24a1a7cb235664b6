/-
  Whether a solution holds for a problem: plain words, no program is walked here.
-/
import Derived.Test.YtbfkfklaplgebaaGreatKHoldsFor27
import Derived.Test.YtbfkfklaplgebaaGreatKHoldsFor38
import Derived.Test.YtbfkfklaplgebaaGreatKHoldsFor39
namespace Go.Proofs.YtbfkfklaplgebaaGreat
open Go.RowKit Go.Sort
set_option linter.unusedVariables false

/-- Whether both sides of an equation become equal. -/
def hAt (l : List RBinding) (c : List (Int × Int)) (e : REquation) : Bool := eqInB c (orT (doT l e.f0) (doB l e.f0)) (orT (doT l e.f1) (doB l e.f1))
def hAll (es : List REquation) (l : List RBinding) (c : List (Int × Int)) : Bool := (List.range es.length).all fun i => hAt l c (atREquation es i)
def hldB (es : List REquation) (l : List RBinding) (c : List (Int × Int)) : Bool := probB es && (subB l && (ctxB c && hAll es l c))
theorem hAll_no {es : List REquation} {l : List RBinding} {c : List (Int × Int)} {i : Nat} (hi : i < es.length) (h : hAt l c (atREquation es i) = false) : hAll es l c = false := by
  cases hc : hAll es l c with
  | false => rfl
  | true =>
    unfold hAll at hc
    rw [List.all_eq_true] at hc
    have := hc i (List.mem_range.2 hi)
    rw [h] at this
    cases this
theorem hAll_yes {es : List REquation} {l : List RBinding} {c : List (Int × Int)} (h : ∀ j, j < es.length → hAt l c (atREquation es j) = true) : hAll es l c = true := by
  unfold hAll
  rw [List.all_eq_true]
  exact fun j hj => h j (List.mem_range.1 hj)
theorem hld_no1 {es : List REquation} {l : List RBinding} {c : List (Int × Int)} (h : probB es = false) : hldB es l c = false := by simp [hldB, h]
theorem hld_no2 {es : List REquation} {l : List RBinding} {c : List (Int × Int)} (h : subB l = false) : hldB es l c = false := by simp [hldB, h]
theorem hld_no3 {es : List REquation} {l : List RBinding} {c : List (Int × Int)} (h : ctxB c = false) : hldB es l c = false := by simp [hldB, h]
theorem hld_no4 {es : List REquation} {l : List RBinding} {c : List (Int × Int)} (h : hAll es l c = false) : hldB es l c = false := by simp [hldB, h]
theorem hld_yes {es : List REquation} {l : List RBinding} {c : List (Int × Int)} (h1 : probB es = true) (h2 : subB l = true) (h3 : ctxB c = true) (h4 : hAll es l c = true) : hldB es l c = true := by simp [hldB, h1, h2, h3, h4]
theorem hAt_no0 {l : List RBinding} {c : List (Int × Int)} {e : REquation} (h : doB l e.f0 = false) : hAt l c e = false := by
  have h0 : isTermB tm0 = false := by rfl
  unfold hAt eqInB
  rw [h, orT_no, (eqn_no1 h0).2]; rfl
theorem hAt_no1 {l : List RBinding} {c : List (Int × Int)} {e : REquation} (h : doB l e.f1 = false) : hAt l c e = false := by
  have h0 : isTermB tm0 = false := by rfl
  unfold hAt eqInB
  rw [h, orT_no, (eqn_no2 h0).2]; rfl
theorem next_all {p : Nat → Bool} {k : Nat} (h : ∀ j, j < k → p j = true) (hk : p k = true) : ∀ j, j < k + 1 → p j = true := by
  intro j hj
  rcases Nat.lt_or_ge j k with h1 | h1
  · exact h j h1
  · rw [show j = k by omega]; exact hk
theorem or_cnt {l : List RBinding} {t : Tm} : cntT (orT (doT l t) (doB l t)) ≤ 1048576 := by
  cases h : doB l t with
  | false => rw [orT_no]; decide
  | true => rw [orT_yes]; have := cnt_term (doB_term h); omega
end Go.Proofs.YtbfkfklaplgebaaGreat
