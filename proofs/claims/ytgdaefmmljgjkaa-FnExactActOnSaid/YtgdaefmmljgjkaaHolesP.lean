/-
  The holes of a term, and the terms within it: plain words.
-/
import Derived.Test.YtgdaefmmljgjkaaHolesS
import Derived.Test.YtgdaefmmljgjkaaAtoms
namespace Go.Proofs.Ytgdaefmmljgjkaa
open Go.RowKit Go.Sort

mutual
theorem nodesT_len : ∀ t : Tm, (nodesT t).length = szT t
  | .mk o n p ks => by rw [nodesT, List.length_cons, nodesTs_len ks, szT]; omega
theorem nodesTs_len : ∀ ts : List Tm, (nodesTs ts).length = szTs ts
  | [] => by simp [nodesTs, szTs]
  | t :: r => by rw [nodesTs, List.length_append, nodesT_len t, nodesTs_len r, szTs]
end

theorem term_size {t : Tm} (h : isTermB t = true) : szT t ≤ 60 := by
  rw [isTermB, Bool.and_eq_true, decide_eq_true_eq] at h
  exact h.2
theorem term_good {t : Tm} (h : isTermB t = true) : goodT t = true := by
  rw [isTermB, Bool.and_eq_true] at h
  exact h.1
theorem kid_term {t : Tm} {i : Nat} (h : isTermB t = true) (hi : i < t.kids.length) : isTermB (tmAt t.kids i) = true := by
  have h1 := term_good h
  have h2 := term_size h
  rw [goodT_eq, Bool.and_eq_true] at h1
  have h3 := szT_at hi
  rw [szT_eq] at h2
  rw [isTermB, goodTs_at h1.2 hi, Bool.true_and, decide_eq_true_eq]
  omega

theorem cntT_at : ∀ {ts : List Tm} {i : Nat}, i < ts.length → cntT (tmAt ts i) ≤ sumT ts
  | [], i, h => by simp at h
  | t :: r, 0, _ => by rw [sumT, tmAt_cons_zero]; omega
  | t :: r, i + 1, h => by
    have := cntT_at (ts := r) (i := i) (by simpa using h)
    rw [sumT, tmAt_cons_succ]; omega

/-- The holes of some terms, ascending. -/
def holesK (ts : List Tm) : List Int := insAll [] (holesIn (nodesTs ts))
theorem asc_holesK (ts : List Tm) : AscP (holesK ts) := asc_insAll _ _ List.Pairwise.nil
theorem asc_holesL (t : Tm) : AscP (holesL t) := by
  unfold holesL
  split
  · exact asc_insAll _ _ List.Pairwise.nil
  · exact List.Pairwise.nil
theorem holesK_len (ts : List Tm) : (holesK ts).length ≤ szTs ts := by
  have h1 := length_insAll [] (holesIn (nodesTs ts))
  have h2 := holesIn_len (nodesTs ts)
  rw [nodesTs_len] at h2
  unfold holesK
  rw [List.length_nil] at h1
  omega
theorem holesL_len {t : Tm} (h : isTermB t = true) : (holesL t).length ≤ 60 := by
  have h1 := length_insAll [] (holesIn (nodesT t))
  have h2 := holesIn_len (nodesT t)
  have h3 := term_size h
  rw [nodesT_len] at h2
  rw [List.length_nil] at h1
  rw [holesL, if_pos h]
  omega
theorem holesK_next {ts : List Tm} {k : Nat} (h : k < ts.length) (ht : isTermB (tmAt ts k) = true) : insAll (holesK (ts.take k)) (holesL (tmAt ts k)) = holesK (ts.take (k + 1)) := by
  refine asc_same _ _ (asc_insAll _ _ (asc_holesK _)) (asc_holesK _) fun a => ?_
  rw [holesL, if_pos ht, tm_take_next h]
  simp only [holesK, mem_insAll, nodesTs_append, nodesTs, List.append_nil, holesIn_app, List.mem_append, List.not_mem_nil, false_or]
theorem holesL_node {t : Tm} (ht : isTermB t = true) (h4 : ¬ t.op = 4) : holesL t = holesK t.kids := by
  rw [holesL, if_pos ht, nodesT_eq, holesK]
  congr 1
  simp [holesIn, h4]
theorem holesL_hole {t : Tm} (ht : isTermB t = true) (h4 : t.op = 4) : holesL t = [t.num] := by
  have h1 := term_good ht
  rw [goodT_eq, Bool.and_eq_true] at h1
  have h2 := h1.1
  rw [shapeB, if_neg (by omega), if_neg (by omega), if_neg (by omega), if_pos h4] at h2
  simp only [Bool.and_eq_true, decide_eq_true_eq] at h2
  have h3 : t.kids = [] := List.length_eq_zero_iff.1 h2.2.2
  rw [holesL, if_pos ht, nodesT_eq, h3]
  simp [holesIn, nodesTs, h4, insAll, insL]
theorem holesL_none {t : Tm} (ht : isTermB t = false) : holesL t = [] := by simp [holesL, ht]

end Go.Proofs.Ytgdaefmmljgjkaa
