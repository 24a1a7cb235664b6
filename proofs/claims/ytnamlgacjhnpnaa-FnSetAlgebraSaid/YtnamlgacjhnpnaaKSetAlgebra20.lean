/-
  When an orbit set can be told by more constants: plain words, no program is walked here. What is in one of two orbit sets, or in both: plain words, no program is walked here. The two function literals that tell which patterns are kept, in the program, as contracts.
-/
import Derived.Test.YtnamlgacjhnpnaaKSetAlgebra17
import Derived.Test.YtnamlgacjhnpnaaKSetAlgebra19
import Derived.Test.YtnamlgacjhnpnaaKSetAlgebra15
section
namespace Go.Proofs.Ytnamlgacjhnpnaa
open Go.RowKit
set_option linter.unusedVariables false

theorem ascP_of {l : List Int} (h : ascB l = true) : AscP l := List.pairwise_iff_getElem.2 fun i j hi hj hij => by
  have := asc_lt h j i hij hj
  rwa [itAt_get l i hi, itAt_get l j hj] at this
theorem const_asc {l : List Int} (h : constB l = true) : AscP l := by
  unfold constB at h
  simp only [Bool.and_eq_true] at h
  exact ascP_of h.2.2
end Go.Proofs.Ytnamlgacjhnpnaa
end

section
namespace Go.Proofs.Ytnamlgacjhnpnaa
open Go.RowKit
set_option linter.unusedVariables false

def bothB (one p q : Bool) : Bool := (p && q) || (one && (p || q))
/-- Both tables, by codes. -/
def bothF (one : Bool) (x y : List (List Int)) (c : Nat) : Bool := bothB one (tabOf x c) (tabOf y c)
def bothL (one : Bool) (n : Nat) (k : Int) (x y : List (List Int)) : List (List Int) := (allP n k).filter fun p => bothB one (thereB x p) (thereB y p)
theorem bothB_or {one p q : Bool} (h : bothB one p q = true) : p = true ∨ q = true := by
  cases p <;> cases q <;> simp [bothB] at h ⊢
theorem both_pats {one : Bool} {n : Nat} {k : Int} (hk : 0 ≤ k) (hk3 : k ≤ 3) (hn : n ≤ 4) {x y : List (List Int)} (hx : ∀ p ∈ x, p ∈ allP n k) (hy : ∀ p ∈ y, p ∈ allP n k) : patsOf n (bothF one x y) = bothL one n k x y := by
  have ht : tabOk n k (bothF one x y) := fun c hc hf => by
    rcases bothB_or hf with h | h
    · exact tabOf_ok hx c hc h
    · exact tabOf_ok hy c hc h
  rw [patsOf_eq hk hk3 hn ht]
  refine List.filter_congr fun p hp => ?_
  unfold bothF
  rw [tabOf_has hk hk3 hn hx hp, tabOf_has hk hk3 hn hy hp]
/-- The constants of both, and whether two sets can be made one. -/
def bothC (l1 l2 : List Int) : List Int := unB l1 l2
def bothOk (z1 : Int) (l1 : List Int) (m1 : List (List Int)) (z2 : Int) (l2 : List Int) (m2 : List (List Int)) : Bool := orbB z1 l1 m1 && (orbB z2 l2 m2 && (decide (z1 = z2) && constB (bothC l1 l2)))
def bothM (one : Bool) (z1 : Int) (l1 : List Int) (m1 : List (List Int)) (l2 : List Int) (m2 : List (List Int)) : List (List Int) :=
  bothL one z1.toNat (bothC l1 l2).length (extL z1.toNat l1 m1 (bothC l1 l2)) (extL z1.toNat l2 m2 (bothC l1 l2))
end Go.Proofs.Ytnamlgacjhnpnaa
end

section
namespace Go.Proofs.Ytnamlgacjhnpnaa
open Go.RowKit Go.Sort
set_option linter.unusedVariables false

theorem keepOr_any (p q : Bool) (w : World) :
    Calls Try.prog 72 #[.bool p, .bool q] w fun e w' => e = .returned (.bool (bothB true p q)) ∧ w = w' := by
  cases p <;> cases q
  all_goals
    go_enter Try.func72, Try.ntmps72
    go_wp2
    go_ret
    exact ⟨rfl, rfl⟩
theorem keepAnd_any (p q : Bool) (w : World) :
    Calls Try.prog 73 #[.bool p, .bool q] w fun e w' => e = .returned (.bool (bothB false p q)) ∧ w = w' := by
  cases p <;> cases q
  all_goals
    go_enter Try.func73, Try.ntmps73
    go_wp2
    go_ret
    exact ⟨rfl, rfl⟩
end Go.Proofs.Ytnamlgacjhnpnaa
end

