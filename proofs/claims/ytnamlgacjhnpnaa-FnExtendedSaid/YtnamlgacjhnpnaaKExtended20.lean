/-
  When an orbit set can be told by more constants: plain words, no program is walked here. What is in one of two orbit sets, or in both: plain words, no program is walked here. The two function literals that tell which patterns are kept, in the program, as contracts.
-/
import Derived.Test.YtnamlgacjhnpnaaKExtended17
import Derived.Test.YtnamlgacjhnpnaaKExtended19
import Derived.Test.YtnamlgacjhnpnaaKExtended15
section
namespace Go.Proofs.Ytnamlgacjhnpnaa
open Go.RowKit
set_option linter.unusedVariables false

theorem among_iff {p q : List Int} : amongB p q = true ↔ ∀ x ∈ p, x ∈ q := by
  unfold amongB
  rw [List.all_eq_true]
  constructor
  · intro h x hx
    obtain ⟨n, hn, rfl⟩ := List.getElem_of_mem hx
    have := h n (List.mem_range.2 hn)
    rw [itAt_get p n hn] at this
    exact hasB_mem.1 this
  · intro h i hi
    have hi' := List.mem_range.1 hi
    rw [itAt_get p i hi']
    exact hasB_mem.2 (h _ (List.getElem_mem hi'))
theorem ascP_of {l : List Int} (h : ascB l = true) : AscP l := List.pairwise_iff_getElem.2 fun i j hi hj hij => by
  have := asc_lt h j i hij hj
  rwa [itAt_get l i hi, itAt_get l j hj] at this
theorem const_asc {l : List Int} (h : constB l = true) : AscP l := by
  unfold constB at h
  simp only [Bool.and_eq_true] at h
  exact ascP_of h.2.2
theorem insAll_same (cs : List Int) (h : AscP cs) : ∀ l : List Int, (∀ x ∈ l, x ∈ cs) → insAll cs l = cs
  | [], _ => rfl
  | x :: r, hm => by
    show insAll (insL cs x) r = cs
    rw [insL_there cs x h (hm x (by simp))]
    exact insAll_same cs h r fun y hy => hm y (by simp [hy])
theorem insL_new : ∀ (l : List Int) (n : Int), n ∉ l → (insL l n).length = l.length + 1
  | [], n, _ => by simp [insL]
  | x :: r, n, h => by
    have h1 : ¬ n = x := fun e => h (by simp [e])
    have h2 : n ∉ r := fun e => h (by simp [e])
    unfold insL
    split
    · simp
    · first
        | rw [if_neg h1, List.length_cons, insL_new r n h2, List.length_cons]
        | rw [List.length_cons, insL_new r n h2, List.length_cons]
theorem insL_ge : ∀ (l : List Int) (n : Int), l.length ≤ (insL l n).length
  | [], n => by simp
  | x :: r, n => by
    have h := insL_ge r n
    unfold insL
    split
    · simp
    · split
      · simp
      · simp; omega
theorem insAll_ge : ∀ (l cs : List Int), cs.length ≤ (insAll cs l).length
  | [], cs => Nat.le_refl _
  | x :: r, cs => Nat.le_trans (insL_ge cs x) (insAll_ge r (insL cs x))
theorem insAll_gt : ∀ (l cs : List Int), (∃ x ∈ l, x ∉ cs) → cs.length < (insAll cs l).length
  | [], cs, h => by simp at h
  | x :: r, cs, h => by
    show cs.length < (insAll (insL cs x) r).length
    by_cases hx : x ∈ cs
    · obtain ⟨y, hy, hn⟩ := h
      have hne : y ≠ x := fun e => hn (e ▸ hx)
      have hy' : y ∈ r := by simpa [hne] using hy
      have h1 := insAll_gt r (insL cs x) ⟨y, hy', fun hm => by
        rcases (mem_insL cs x y).1 hm with e | e
        · exact hne e
        · exact hn e⟩
      exact Nat.lt_of_le_of_lt (insL_ge cs x) h1
    · have h1 := insL_new cs x hx
      have h2 := insAll_ge r (insL cs x)
      omega
/-- Whether a set can be told by the constants of a list. -/
def extOk (z : Int) (l : List Int) (m : List (List Int)) (cs : List Int) : Bool := orbB z l m && (constB cs && amongB l cs)
theorem union_len {cs l : List Int} (h : AscP cs) : (((insAll cs l).length : Int) != (cs.length : Int)) = !amongB l cs := by
  cases ha : amongB l cs with
  | true =>
    rw [insAll_same cs h l (among_iff.1 ha)]
    simp
  | false =>
    rw [Bool.not_false, bne_iff_ne]
    intro e
    have e' : (insAll cs l).length = cs.length := by omega
    have hex : ∃ x ∈ l, x ∉ cs := by
      rcases Classical.em (∃ x ∈ l, x ∉ cs) with h1 | h1
      · exact h1
      · have := among_iff.2 fun x hx => by
          rcases Classical.em (x ∈ cs) with h2 | h2
          · exact h2
          · exact absurd ⟨x, hx, h2⟩ h1
        rw [ha] at this
        cases this
    have := insAll_gt l cs hex
    omega
def extM (z : Int) (l : List Int) (m : List (List Int)) (cs : List Int) : List (List Int) := extL z.toNat l m cs
end Go.Proofs.Ytnamlgacjhnpnaa
end

section
namespace Go.Proofs.Ytnamlgacjhnpnaa
open Go.RowKit
set_option linter.unusedVariables false

end Go.Proofs.Ytnamlgacjhnpnaa
end

section
namespace Go.Proofs.Ytnamlgacjhnpnaa
open Go.RowKit Go.Sort
set_option linter.unusedVariables false

end Go.Proofs.Ytnamlgacjhnpnaa
end

