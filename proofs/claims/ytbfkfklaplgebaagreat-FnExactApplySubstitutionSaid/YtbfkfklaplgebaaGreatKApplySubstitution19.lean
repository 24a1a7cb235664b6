/-
  What must be known for an atom to be fresh for a term: plain words.
-/
import Derived.Test.YtbfkfklaplgebaaGreatKApplySubstitution12
import Derived.Test.YtbfkfklaplgebaaGreatKApplySubstitution6
import Derived.Test.YtbfkfklaplgebaaGreatKApplySubstitution11
import Derived.Test.YtbfkfklaplgebaaGreatKApplySubstitution18
namespace Go.Proofs.YtbfkfklaplgebaaGreat
open Go.RowKit Go.Sort
set_option linter.unusedVariables false

mutual
/-- Whether an atom can be fresh for a term. -/
def okT (a : Int) : Tm → Bool
  | .mk o n p ks => if o = 1 then n != a else if o = 4 then true else if o = 3 ∧ n = a then true else okTs a ks
def okTs (a : Int) : List Tm → Bool
  | [] => true
  | t :: r => okT a t && okTs a r
end
mutual
/-- The elements that are needed, in the order in which they are met. -/
def ndT (a : Int) : Tm → List (Int × Int)
  | .mk o n p ks => if o = 1 then [] else if o = 4 then [(backL p a, n)] else if o = 3 ∧ n = a then [] else ndTs a ks
def ndTs (a : Int) : List Tm → List (Int × Int)
  | [] => []
  | t :: r => ndT a t ++ ndTs a r
end

mutual
theorem ndT_len (a : Int) : ∀ t : Tm, (ndT a t).length ≤ szT t
  | .mk o n p ks => by
    have h := ndTs_len a ks
    rw [ndT, szT]
    split
    · simp
    · split
      · simp
      · split
        · simp
        · omega
theorem ndTs_len (a : Int) : ∀ ts : List Tm, (ndTs a ts).length ≤ szTs ts
  | [] => by simp [ndTs]
  | t :: r => by
    have h1 := ndT_len a t
    have h2 := ndTs_len a r
    rw [ndTs, List.length_append, szTs]
    omega
end

theorem backL_cases : ∀ (l : List (Int × Int)) (a : Int), backL l a = a ∨ ∃ x ∈ l, backL l a = x.1
  | [], a => .inl rfl
  | p :: r, a => by
    unfold backL
    split
    · exact .inr ⟨p, by simp, rfl⟩
    · rcases backL_cases r a with h | ⟨x, hx, h⟩
      · exact .inl h
      · exact .inr ⟨x, List.mem_cons_of_mem _ hx, h⟩

theorem backL_atom {p : List (Int × Int)} (hp : permB p = true) {a : Int} (ha : atomB a = true) : atomB (backL p a) = true := by
  rcases backL_cases p a with h | ⟨x, hx, h⟩
  · rw [h]; exact ha
  · rw [h]
    have := (isP_of hp).dom x.1 (List.mem_map.2 ⟨x, hx, rfl⟩)
    simp [atomB]; omega

mutual
/-- What a term needs are elements of contexts. -/
theorem ndT_right {a : Int} (ha : atomB a = true) : ∀ t : Tm, goodT t = true → ∀ x ∈ ndT a t, atomB x.1 = true ∧ holeB x.2 = true
  | .mk o n p ks, hg => by
    rw [goodT, Bool.and_eq_true] at hg
    have hk := ndTs_right ha ks hg.2
    intro x hx
    rw [ndT] at hx
    by_cases h1 : o = 1
    · rw [if_pos h1] at hx; cases hx
    · rw [if_neg h1] at hx
      by_cases h4 : o = 4
      · rw [if_pos h4] at hx
        have hs := hg.1
        unfold shapeB at hs
        rw [op_mk, num_mk, perm_mk, if_neg (by omega), if_neg (by omega), if_neg (by omega), if_pos h4, Bool.and_eq_true, Bool.and_eq_true] at hs
        simp only [List.mem_singleton] at hx
        subst hx
        exact ⟨backL_atom hs.2.1 ha, hs.1⟩
      · rw [if_neg h4] at hx
        split at hx
        · cases hx
        · exact hk x hx
theorem ndTs_right {a : Int} (ha : atomB a = true) : ∀ ts : List Tm, goodTs ts = true → ∀ x ∈ ndTs a ts, atomB x.1 = true ∧ holeB x.2 = true
  | [], _ => by simp [ndTs]
  | t :: r, hg => by
    rw [goodTs, Bool.and_eq_true] at hg
    have h1 := ndT_right ha t hg.1
    have h2 := ndTs_right ha r hg.2
    intro x hx
    rw [ndTs] at hx
    exact (List.mem_append.1 hx).elim (h1 x) (h2 x)
end

end Go.Proofs.YtbfkfklaplgebaaGreat
