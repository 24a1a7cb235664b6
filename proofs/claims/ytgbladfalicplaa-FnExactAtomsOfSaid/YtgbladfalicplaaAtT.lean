/-
  All atoms of a term: plain words.
-/
import Derived.Test.YtgbladfalicplaaHolesM
namespace Go.Proofs.Ytgbladfalicplaa
open Go.RowKit Go.Sort

/-- The atoms that a node itself names. -/
def atIn (y : Tm) : List Int := if y.op = 1 ∨ y.op = 3 then [y.num] else if y.op = 4 then froms y.perm else []
def atomsIn : List Tm → List Int
  | [] => []
  | y :: r => atIn y ++ atomsIn r
theorem atomsIn_app : ∀ a b : List Tm, atomsIn (a ++ b) = atomsIn a ++ atomsIn b
  | [], b => rfl
  | y :: r, b => by rw [List.cons_append, atomsIn, atomsIn, atomsIn_app r b, List.append_assoc]
theorem atomsIn_next {F : List Tm} {k : Nat} (h : k < F.length) : atomsIn (F.take (k + 1)) = atomsIn (F.take k) ++ atIn (tmAt F k) := by
  rw [tm_take_next h, atomsIn_app, atomsIn, atomsIn, List.append_nil]
theorem mem_atomsIn (a : Int) : ∀ F : List Tm, a ∈ atomsIn F ↔ ∃ y, y ∈ F ∧ a ∈ atIn y
  | [] => by simp [atomsIn]
  | y :: r => by rw [atomsIn, List.mem_append, mem_atomsIn a r]; simp
theorem atIn_len (y : Tm) : (atIn y).length ≤ 1 + y.perm.length := by
  unfold atIn
  split
  · simp
  · split
    · rw [froms_len]; omega
    · simp
theorem atomsIn_len {M : Nat} : ∀ F : List Tm, (∀ y, y ∈ F → y.perm.length ≤ M) → (atomsIn F).length ≤ F.length * (1 + M)
  | [], _ => by simp [atomsIn]
  | y :: r, h => by
    have h1 := atIn_len y
    have h2 := h y List.mem_cons_self
    have h3 := atomsIn_len r fun z hz => h z (List.mem_cons_of_mem _ hz)
    rw [atomsIn, List.length_append, List.length_cons, Nat.succ_mul]
    omega
mutual
theorem atomsT_len : ∀ t : Tm, (atomsIn (nodesT t)).length ≤ szT t + cntT t
  | .mk o n p ks => by
    have h1 := atIn_len (.mk o n p ks)
    have h2 := atomsTs_len ks
    rw [perm_mk] at h1
    rw [nodesT, atomsIn, List.length_append, szT, cntT]
    omega
theorem atomsTs_len : ∀ ts : List Tm, (atomsIn (nodesTs ts)).length ≤ szTs ts + sumT ts
  | [] => by simp [nodesTs, atomsIn]
  | t :: r => by
    have h1 := atomsT_len t
    have h2 := atomsTs_len r
    rw [nodesTs, atomsIn_app, List.length_append, szTs, sumT]
    omega
end
mutual
theorem node_perm : ∀ (t y : Tm), y ∈ nodesT t → y.perm.length ≤ cntT t
  | .mk o n p ks, y, h => by
    rw [nodesT, List.mem_cons] at h
    rw [cntT]
    rcases h with rfl | h
    · rw [perm_mk]; omega
    · have := node_perms ks y h; omega
theorem node_perms : ∀ (ts : List Tm) (y : Tm), y ∈ nodesTs ts → y.perm.length ≤ sumT ts
  | [], y, h => by simp [nodesTs] at h
  | t :: r, y, h => by
    rw [nodesTs, List.mem_append] at h
    rw [sumT]
    rcases h with h | h
    · have := node_perm t y h; omega
    · have := node_perms r y h; omega
end

/-- All atoms of a term, ascending; of what is no term: none. -/
def atU (t : Tm) : List Int := insAll [] (atomsIn (nodesT t))
def atomsT (t : Tm) : List Int := if isTermB t then atU t else []
theorem atomsT_yes {t : Tm} (h : isTermB t = true) : atomsT t = atU t := by rw [atomsT, if_pos h]
theorem atomsT_no {t : Tm} (h : isTermB t = false) : atomsT t = [] := by simp [atomsT, h]
theorem atomsT_same {F : List Tm} {t : Tm} (h : ∀ y, y ∈ F ↔ isTermB t = true ∧ y ∈ nodesT t) : insAll [] (atomsIn F) = atomsT t := by
  by_cases ht : isTermB t = true
  · rw [atomsT_yes ht]
    refine asc_same _ _ (asc_insAll _ _ List.Pairwise.nil) (asc_insAll _ _ List.Pairwise.nil) fun a => ?_
    simp only [atU, mem_insAll, mem_atomsIn, h, ht, true_and]
  · rw [atomsT, if_neg ht]
    have : F = [] := List.eq_nil_iff_forall_not_mem.2 fun y hy => ht ((h y).1 hy).1
    subst this
    rfl
/-- .. of a node and its first kids. -/
def atK (t : Tm) (k : Nat) : List Int := insAll [] (atIn t ++ atomsIn (nodesTs (t.kids.take k)))
theorem asc_atK (t : Tm) (k : Nat) : AscP (atK t k) := asc_insAll _ _ List.Pairwise.nil
theorem atU_len (t : Tm) : (atU t).length ≤ szT t + cntT t := by
  have h1 := length_insAll [] (atomsIn (nodesT t))
  have h2 := atomsT_len t
  rw [List.length_nil] at h1
  unfold atU
  omega
theorem atK_len (t : Tm) (k : Nat) : (atK t k).length ≤ szT t + cntT t := by
  have h1 := length_insAll [] (atIn t ++ atomsIn (nodesTs (t.kids.take k)))
  have h2 := atomsTs_len (t.kids.take k)
  have h3 := szTs_take t.kids k
  have h4 := sumT_take t.kids k
  have h5 := atIn_len t
  rw [List.length_nil, List.length_append] at h1
  rw [szT_eq, cntT_eq]
  unfold atK
  omega
theorem atK_next {t : Tm} {k : Nat} (h : k < t.kids.length) : insAll (atK t k) (atU (tmAt t.kids k)) = atK t (k + 1) := by
  refine asc_same _ _ (asc_insAll _ _ (asc_atK _ _)) (asc_atK _ _) fun a => ?_
  rw [atK, atU, atK, tm_take_next h]
  simp only [mem_insAll, nodesTs_append, nodesTs, List.append_nil, atomsIn_app, List.mem_append, List.not_mem_nil, false_or]
  constructor
  · rintro ((h | h) | h)
    · exact .inl h
    · exact .inr (.inl h)
    · exact .inr (.inr h)
  · rintro (h | h | h)
    · exact .inl (.inl h)
    · exact .inl (.inr h)
    · exact .inr h
theorem atK_zero (t : Tm) : atK t 0 = insAll [] (atIn t) := by simp [atK, nodesTs, atomsIn]
theorem atK_all {t : Tm} {k : Nat} (h : t.kids.length ≤ k) : atK t k = atU t := by
  rw [atK, atU, List.take_of_length_le h, nodesT_eq, atomsIn]
theorem atK_named {t : Tm} (h : t.op = 1 ∨ t.op = 3) : atK t 0 = [t.num] := by
  rw [atK_zero, atIn, if_pos h]
  rfl
theorem atK_else {t : Tm} (hs : shapeB t = true) (h1 : ¬ t.op = 1) (h3 : ¬ t.op = 3) : atK t 0 = atomsL t.perm [] := by
  rw [atK_zero, atIn, if_neg (by omega)]
  by_cases h4 : t.op = 4
  · rw [if_pos h4]; rfl
  · rw [if_neg h4]
    rw [shapeB, if_neg h1] at hs
    by_cases h2 : t.op = 2
    · rw [if_pos h2] at hs
      simp only [Bool.and_eq_true, decide_eq_true_eq] at hs
      have h5 : t.perm = [] := List.length_eq_zero_iff.1 hs.2.1
      rw [h5]; rfl
    · rw [if_neg h2, if_neg h3, if_neg h4] at hs
      cases hs
theorem perm_named {t : Tm} (hs : shapeB t = true) (h : t.op = 1 ∨ t.op = 3) : atomsL t.perm [] = [] := by
  have h5 : t.perm = [] := by
    rw [shapeB] at hs
    rcases h with h | h
    · rw [if_pos h] at hs
      simp only [Bool.and_eq_true, decide_eq_true_eq] at hs
      exact List.length_eq_zero_iff.1 hs.2.1
    · rw [if_neg (by omega), if_neg (by omega), if_pos h] at hs
      simp only [Bool.and_eq_true, decide_eq_true_eq] at hs
      exact List.length_eq_zero_iff.1 hs.2.1
  rw [h5]; rfl

end Go.Proofs.Ytgbladfalicplaa
