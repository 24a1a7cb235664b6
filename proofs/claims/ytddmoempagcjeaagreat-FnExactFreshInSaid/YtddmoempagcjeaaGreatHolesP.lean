/-
  The holes of a term, and the terms within it: plain words. Acting with a permutation on a term: plain words, no program is walked here.
-/
import Derived.Test.YtddmoempagcjeaaGreatHolesS
import Derived.Test.YtddmoempagcjeaaGreatAtoms
import Derived.Test.YtddmoempagcjeaaGreatPMath
namespace Go.Proofs.YtddmoempagcjeaaGreat
section
open Go.RowKit Go.Sort

mutual
theorem nodesT_len : ∀ t : Tm, (nodesT t).length = szT t
  | .mk o n p ks => by rw [nodesT, List.length_cons, nodesTs_len ks, szT]; omega
theorem nodesTs_len : ∀ ts : List Tm, (nodesTs ts).length = szTs ts
  | [] => by simp [nodesTs, szTs]
  | t :: r => by rw [nodesTs, List.length_append, nodesT_len t, nodesTs_len r, szTs]
end

theorem term_size {t : Tm} (h : isTermB t = true) : szT t ≤ 60 := by
  rw [isTermB, Bool.and_eq_true, decide_eq_true_eq] at h
  exact h.2
theorem term_good {t : Tm} (h : isTermB t = true) : goodT t = true := by
  rw [isTermB, Bool.and_eq_true] at h
  exact h.1
theorem kid_term {t : Tm} {i : Nat} (h : isTermB t = true) (hi : i < t.kids.length) : isTermB (tmAt t.kids i) = true := by
  have h1 := term_good h
  have h2 := term_size h
  rw [goodT_eq, Bool.and_eq_true] at h1
  have h3 := szT_at hi
  rw [szT_eq] at h2
  rw [isTermB, goodTs_at h1.2 hi, Bool.true_and, decide_eq_true_eq]
  omega

theorem cntT_at : ∀ {ts : List Tm} {i : Nat}, i < ts.length → cntT (tmAt ts i) ≤ sumT ts
  | [], i, h => by simp at h
  | t :: r, 0, _ => by rw [sumT, tmAt_cons_zero]; omega
  | t :: r, i + 1, h => by
    have := cntT_at (ts := r) (i := i) (by simpa using h)
    rw [sumT, tmAt_cons_succ]; omega

/-- The holes of some terms, ascending. -/
def holesK (ts : List Tm) : List Int := insAll [] (holesIn (nodesTs ts))
theorem asc_holesK (ts : List Tm) : AscP (holesK ts) := asc_insAll _ _ List.Pairwise.nil
theorem asc_holesL (t : Tm) : AscP (holesL t) := by
  unfold holesL
  split
  · exact asc_insAll _ _ List.Pairwise.nil
  · exact List.Pairwise.nil
theorem holesK_len (ts : List Tm) : (holesK ts).length ≤ szTs ts := by
  have h1 := length_insAll [] (holesIn (nodesTs ts))
  have h2 := holesIn_len (nodesTs ts)
  rw [nodesTs_len] at h2
  unfold holesK
  rw [List.length_nil] at h1
  omega
theorem holesL_len {t : Tm} (h : isTermB t = true) : (holesL t).length ≤ 60 := by
  have h1 := length_insAll [] (holesIn (nodesT t))
  have h2 := holesIn_len (nodesT t)
  have h3 := term_size h
  rw [nodesT_len] at h2
  rw [List.length_nil] at h1
  rw [holesL, if_pos h]
  omega
theorem holesK_next {ts : List Tm} {k : Nat} (h : k < ts.length) (ht : isTermB (tmAt ts k) = true) : insAll (holesK (ts.take k)) (holesL (tmAt ts k)) = holesK (ts.take (k + 1)) := by
  refine asc_same _ _ (asc_insAll _ _ (asc_holesK _)) (asc_holesK _) fun a => ?_
  rw [holesL, if_pos ht, tm_take_next h]
  simp only [holesK, mem_insAll, nodesTs_append, nodesTs, List.append_nil, holesIn_app, List.mem_append, List.not_mem_nil, false_or]
theorem holesL_node {t : Tm} (ht : isTermB t = true) (h4 : ¬ t.op = 4) : holesL t = holesK t.kids := by
  rw [holesL, if_pos ht, nodesT_eq, holesK]
  congr 1
  simp [holesIn, h4]
theorem holesL_hole {t : Tm} (ht : isTermB t = true) (h4 : t.op = 4) : holesL t = [t.num] := by
  have h1 := term_good ht
  rw [goodT_eq, Bool.and_eq_true] at h1
  have h2 := h1.1
  rw [shapeB, if_neg (by omega), if_neg (by omega), if_neg (by omega), if_pos h4] at h2
  simp only [Bool.and_eq_true, decide_eq_true_eq] at h2
  have h3 : t.kids = [] := List.length_eq_zero_iff.1 h2.2.2
  rw [holesL, if_pos ht, nodesT_eq, h3]
  simp [holesIn, nodesTs, h4, insAll, insL]
theorem holesL_none {t : Tm} (ht : isTermB t = false) : holesL t = [] := by simp [holesL, ht]
end

section
open Go.RowKit Go.Sort
set_option linter.unusedVariables false

mutual
/-- What acting makes of a term, whatever permutations come out. -/
def actT (p : List (Int × Int)) : Tm → Tm
  | .mk o n r ks => .mk o (if o = 1 ∨ o = 3 then imgL p n else n) (if o = 4 then thenL p r else r) (actTs p ks)
def actTs (p : List (Int × Int)) : List Tm → List Tm
  | [] => []
  | t :: r => actT p t :: actTs p r
end
mutual
/-- All permutations within are in order, and none is longer than a bound. -/
def OkP (M : Nat) : Tm → Prop
  | .mk _ _ p ks => Asc p ∧ p.length ≤ M ∧ OkPs M ks
def OkPs (M : Nat) : List Tm → Prop
  | [] => True
  | t :: r => OkP M t ∧ OkPs M r
end
theorem actTs_len (p : List (Int × Int)) : ∀ ts : List Tm, (actTs p ts).length = ts.length
  | [] => rfl
  | t :: r => by rw [actTs, List.length_cons, List.length_cons, actTs_len p r]
theorem actTs_at (p : List (Int × Int)) : ∀ {ts : List Tm} {i : Nat}, i < ts.length → tmAt (actTs p ts) i = actT p (tmAt ts i)
  | [], i, h => by simp at h
  | t :: r, 0, _ => rfl
  | t :: r, i + 1, h => by rw [actTs, tmAt_cons_succ, tmAt_cons_succ]; exact actTs_at p (by simpa using h)
theorem actTs_append (p : List (Int × Int)) : ∀ a b : List Tm, actTs p (a ++ b) = actTs p a ++ actTs p b
  | [], b => rfl
  | t :: r, b => by rw [List.cons_append, actTs, actTs, actTs_append p r b, List.cons_append]
theorem actTs_next {p : List (Int × Int)} {ts : List Tm} {k : Nat} (h : k < ts.length) : actTs p (ts.take (k + 1)) = actTs p (ts.take k) ++ [actT p (tmAt ts k)] := by
  rw [tm_take_next h, actTs_append]; rfl
mutual
theorem szT_actT (p : List (Int × Int)) : ∀ t : Tm, szT (actT p t) = szT t
  | .mk o n r ks => by rw [actT, szT, szT, szTs_actTs p ks]
theorem szTs_actTs (p : List (Int × Int)) : ∀ ts : List Tm, szTs (actTs p ts) = szTs ts
  | [] => rfl
  | t :: r => by rw [actTs, szTs, szTs, szT_actT p t, szTs_actTs p r]
end
theorem okP_at {M : Nat} : ∀ {ts : List Tm} {i : Nat}, OkPs M ts → i < ts.length → OkP M (tmAt ts i)
  | [], i, _, h => by simp at h
  | t :: r, 0, h, _ => h.1
  | t :: r, i + 1, h, hi => by rw [tmAt_cons_succ]; exact okP_at h.2 (by simpa using hi)
theorem asc_nil : Asc [] := by
  intro i j _ h
  simp at h
theorem thenL_asc (p q : List (Int × Int)) : Asc (thenL p q) := asc_list (asc_thenL p q)
mutual
theorem okP_act {M : Nat} (p : List (Int × Int)) : ∀ {t : Tm}, OkP M t → OkP (M + p.length) (actT p t)
  | .mk o n r ks, h => by
    rw [OkP] at h
    rw [actT, OkP]
    refine ⟨?_, ?_, okPs_act p h.2.2⟩
    · split
      · exact thenL_asc p r
      · exact h.1
    · split
      · have := thenL_len p r; omega
      · omega
theorem okPs_act {M : Nat} (p : List (Int × Int)) : ∀ {ts : List Tm}, OkPs M ts → OkPs (M + p.length) (actTs p ts)
  | [], _ => trivial
  | t :: r, h => ⟨okP_act p h.1, okPs_act p h.2⟩
end
mutual
theorem okP_le {M N : Nat} (hMN : M ≤ N) : ∀ {t : Tm}, OkP M t → OkP N t
  | .mk o n r ks, h => ⟨h.1, Nat.le_trans h.2.1 hMN, okPs_le hMN h.2.2⟩
theorem okPs_le {M N : Nat} (hMN : M ≤ N) : ∀ {ts : List Tm}, OkPs M ts → OkPs N ts
  | [], _ => trivial
  | t :: r, h => ⟨okP_le hMN h.1, okPs_le hMN h.2⟩
end
theorem asc_perm {l : List (Int × Int)} (h : permB l = true) : Asc l := asc_list (isP_of h).asc
theorem shape_perm {t : Tm} (h : shapeB t = true) : Asc t.perm ∧ t.perm.length ≤ 40 := by
  have hn : t.perm.length = 0 → Asc t.perm ∧ t.perm.length ≤ 40 := by
    intro h0
    rw [List.length_eq_zero_iff.1 h0]
    exact ⟨asc_nil, by simp⟩
  unfold shapeB at h
  by_cases e1 : t.op = 1
  · rw [if_pos e1] at h; simp only [Bool.and_eq_true, decide_eq_true_eq] at h; exact hn h.2.1
  rw [if_neg e1] at h
  by_cases e2 : t.op = 2
  · rw [if_pos e2] at h; simp only [Bool.and_eq_true, decide_eq_true_eq] at h; exact hn h.2.1
  rw [if_neg e2] at h
  by_cases e3 : t.op = 3
  · rw [if_pos e3] at h; simp only [Bool.and_eq_true, decide_eq_true_eq] at h; exact hn h.2.1
  rw [if_neg e3] at h
  by_cases e4 : t.op = 4
  · rw [if_pos e4] at h; simp only [Bool.and_eq_true, decide_eq_true_eq] at h
    exact ⟨asc_perm h.2.1, (permB_parts h.2.1).1⟩
  · rw [if_neg e4] at h
    simp at h
mutual
theorem okP_good : ∀ {t : Tm}, goodT t = true → OkP 40 t
  | .mk o n p ks, h => by
    rw [goodT_eq, Bool.and_eq_true] at h
    have h1 := shape_perm h.1
    exact ⟨h1.1, h1.2, okPs_good h.2⟩
theorem okPs_good : ∀ {ts : List Tm}, goodTs ts = true → OkPs 40 ts
  | [], _ => trivial
  | t :: r, h => by
    rw [goodTs, Bool.and_eq_true] at h
    exact ⟨okP_good h.1, okPs_good h.2⟩
end

theorem actT_1 (p : List (Int × Int)) (n : Int) : actT p (.mk 1 n [] []) = .mk 1 (imgL p n) [] [] := by simp [actT, actTs]
theorem actT_2 (p : List (Int × Int)) (n : Int) (ks : List Tm) : actT p (.mk 2 n [] ks) = .mk 2 n [] (actTs p ks) := by simp [actT]
theorem actT_3 (p : List (Int × Int)) (n : Int) (k : Tm) : actT p (.mk 3 n [] [k]) = .mk 3 (imgL p n) [] [actT p k] := by simp [actT, actTs]
theorem actT_4 (p r : List (Int × Int)) (n : Int) : actT p (.mk 4 n r []) = .mk 4 n (thenL p r) [] := by simp [actT, actTs]
end
end Go.Proofs.YtddmoempagcjeaaGreat
