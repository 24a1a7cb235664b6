/-
  The holes of a term, in plain words; whether a term has holes and whether it is ground, in the model, as contracts.
-/
import Derived.Test.YtddmoempagcjeaaTermI
import Derived.Test.YtddmoempagcjeaaUnion
namespace Go.Proofs.Ytddmoempagcjeaa
open Go.RowKit Go.Sort

def holesIn (ts : List Tm) : List Int := (ts.filter fun y => decide (y.op = 4)).map Tm.num
theorem holesIn_app (a b : List Tm) : holesIn (a ++ b) = holesIn a ++ holesIn b := by simp [holesIn]
theorem holesIn_yes {F : List Tm} {k : Nat} (h : k < F.length) (h4 : (tmAt F k).op = 4) : holesIn (F.take (k + 1)) = holesIn (F.take k) ++ [(tmAt F k).num] := by
  rw [tm_take_next h, holesIn_app]; congr 1; simp [holesIn, h4]
theorem holesIn_no {F : List Tm} {k : Nat} (h : k < F.length) (h4 : ¬ (tmAt F k).op = 4) : holesIn (F.take (k + 1)) = holesIn (F.take k) := by
  rw [tm_take_next h, holesIn_app]; simp [holesIn, h4]
theorem holesIn_len (F : List Tm) : (holesIn F).length ≤ F.length := by
  rw [holesIn, List.length_map]; exact List.length_filter_le _ _
theorem holesIn_take (F : List Tm) (k : Nat) : (holesIn (F.take k)).length ≤ F.length := by
  have h1 := holesIn_len (F.take k)
  rw [List.length_take] at h1; omega
theorem mem_holesIn (F : List Tm) (a : Int) : a ∈ holesIn F ↔ ∃ y, y ∈ F ∧ y.op = 4 ∧ y.num = a := by
  simp only [holesIn, List.mem_map, List.mem_filter, decide_eq_true_eq, and_assoc]

/-- The holes of a term, ascending; of what is no term: none. -/
def holesL (t : Tm) : List Int := if isTermB t then insAll [] (holesIn (nodesT t)) else []
theorem holesL_same {F : List Tm} {t : Tm} (h : ∀ y, y ∈ F ↔ isTermB t = true ∧ y ∈ nodesT t) : insAll [] (holesIn F) = holesL t := by
  by_cases ht : isTermB t = true
  · rw [holesL, if_pos ht]
    refine asc_same _ _ (asc_insAll _ _ List.Pairwise.nil) (asc_insAll _ _ List.Pairwise.nil) fun a => ?_
    simp only [mem_insAll, mem_holesIn, h, ht, true_and]
  · rw [holesL, if_neg ht]
    have : F = [] := List.eq_nil_iff_forall_not_mem.2 fun y hy => ht ((h y).1 hy).1
    subst this
    rfl

mutual
def holesB : Tm → Bool
  | .mk o _ _ ks => holesBs ks || decide (o = 4)
def holesBs : List Tm → Bool
  | [] => false
  | t :: r => holesB t || holesBs r
end

theorem holesB_eq (t : Tm) : holesB t = (holesBs t.kids || decide (t.op = 4)) := by cases t; rw [holesB]; rfl
theorem holesBs_append : ∀ a b : List Tm, holesBs (a ++ b) = (holesBs a || holesBs b)
  | [], b => by simp [holesBs]
  | t :: r, b => by rw [List.cons_append, holesBs, holesBs, holesBs_append r b, Bool.or_assoc]
theorem holesBs_next {ts : List Tm} {k : Nat} (h : k < ts.length) : holesBs (ts.take (k + 1)) = (holesBs (ts.take k) || holesB (tmAt ts k)) := by
  rw [tm_take_next h, holesBs_append]
  simp [holesBs]
theorem holesBs_yes : ∀ {ts : List Tm} {i : Nat}, i < ts.length → holesB (tmAt ts i) = true → holesBs ts = true
  | [], i, h, _ => by simp at h
  | t :: r, 0, _, h => by rw [tmAt_cons_zero] at h; simp [holesBs, h]
  | t :: r, i + 1, hi, h => by
    rw [tmAt_cons_succ] at h
    simp [holesBs, holesBs_yes (by simpa using hi) h]
mutual
theorem holesB_nodes : ∀ t : Tm, holesB t = (nodesT t).any fun y => decide (y.op = 4)
  | .mk o n p ks => by
    rw [holesB, nodesT, List.any_cons, holesBs_nodes ks, Bool.or_comm]; rfl
theorem holesBs_nodes : ∀ ts : List Tm, holesBs ts = (nodesTs ts).any fun y => decide (y.op = 4)
  | [] => by simp [holesBs, nodesTs]
  | t :: r => by rw [holesBs, nodesTs, List.any_append, holesB_nodes t, holesBs_nodes r]
end

def groundB (t : Tm) : Bool := isTermB t && !holesB t
theorem ground_len {t : Tm} (h : isTermB t = true) : groundB t = decide ((holesL t).length = 0) := by
  rw [groundB, h, Bool.true_and, holesB_nodes, holesL, if_pos h]
  rw [Bool.eq_iff_iff]
  simp only [Bool.not_eq_true', List.any_eq_false, decide_eq_true_eq, List.length_eq_zero_iff]
  constructor
  · intro h1
    refine List.eq_nil_iff_forall_not_mem.2 fun a ha => ?_
    rw [mem_insAll, mem_holesIn] at ha
    rcases ha with ha | ⟨y, hy, h4, _⟩
    · simp at ha
    · exact h1 y hy h4
  · intro h1 y hy h4
    have : y.num ∈ insAll [] (holesIn (nodesT t)) := by rw [mem_insAll, mem_holesIn]; exact .inr ⟨y, hy, h4, rfl⟩
    rw [h1] at this
    simp at this

end Go.Proofs.Ytddmoempagcjeaa
