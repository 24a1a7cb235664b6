/-
  A substitution done on a term, in the model, as contracts.
-/
import Derived.Test.YtbfkfklaplgebaaGreatKContextUnder24
import Derived.Test.YtbfkfklaplgebaaGreatKContextUnder33
import Derived.Test.YtbfkfklaplgebaaGreatKContextUnder32
namespace Go.Proofs.YtbfkfklaplgebaaGreat
open Go.RowKit Go.Sort
set_option linter.unusedVariables false

/-- The place of the binding of a hole. -/
def findI : List RBinding → Int → Int
  | [], _ => -1
  | r :: rs, h => if r.f0 = h then 0 else if findI rs h < 0 then -1 else findI rs h + 1
theorem findI_at : ∀ {rs : List RBinding} {h : Int} {i : Nat}, i < rs.length → (∀ j, j < i → ¬ (atRBinding rs j).f0 = h) → (atRBinding rs i).f0 = h → findI rs h = (i : Int)
  | [], h, i, hi, _, _ => by simp at hi
  | r :: rs, h, 0, _, _, e => by rw [atRBinding_zero] at e; rw [findI, if_pos e]; rfl
  | r :: rs, h, i + 1, hi, hn, e => by
    have h0 := hn 0 (by omega)
    rw [atRBinding_zero] at h0
    rw [atRBinding_succ] at e
    rw [findI, if_neg h0, findI_at (i := i) (by simpa using hi) (fun j hj => by have := hn (j + 1) (by omega); rwa [atRBinding_succ] at this) e, if_neg (by omega)]
    omega
theorem findI_none : ∀ {rs : List RBinding} {h : Int}, (∀ j, j < rs.length → ¬ (atRBinding rs j).f0 = h) → findI rs h = -1
  | [], h, _ => rfl
  | r :: rs, h, hn => by
    have h0 := hn 0 (by simp)
    rw [atRBinding_zero] at h0
    rw [findI, if_neg h0, findI_none fun j hj => by have := hn (j + 1) (by simpa using hj); rwa [atRBinding_succ] at this, if_pos (by omega)]
/-- Either the hole is bound, at a place, or it is not. -/
theorem find_cases (rs : List RBinding) (h : Int) : (∃ i, i < rs.length ∧ findI rs h = (i : Int) ∧ findB rs h = some (atRBinding rs i).f1) ∨ (findI rs h = -1 ∧ findB rs h = none) := by
  cases hf : findB rs h with
  | none =>
    refine .inr ⟨findI_none fun j hj e => ?_, rfl⟩
    have : ∀ {rs : List RBinding} {j : Nat}, j < rs.length → (atRBinding rs j).f0 = h → findB rs h ≠ none := by
      intro rs
      induction rs with
      | nil => intro j hj; simp at hj
      | cons r rs ih =>
        intro j hj e
        rw [findB]
        split
        · simp
        · rename_i h0
          cases j with
          | zero => exact absurd e h0
          | succ j => rw [atRBinding_succ] at e; exact ih (by simpa using hj) e
    exact this hj e hf
  | some u =>
    refine .inl ?_
    have : ∀ {rs : List RBinding} {u : Tm}, findB rs h = some u → ∃ i, i < rs.length ∧ findI rs h = (i : Int) ∧ some u = some (atRBinding rs i).f1 := by
      intro rs
      induction rs with
      | nil => intro u e; cases e
      | cons r rs ih =>
        intro u e
        rw [findB] at e
        split at e
        · rename_i h0
          exact ⟨0, by simp, by rw [findI, if_pos h0]; rfl, by rw [atRBinding_zero]; exact e.symm⟩
        · rename_i h0
          obtain ⟨i, hi, h1, h2⟩ := ih e
          exact ⟨i + 1, by simpa using hi, by rw [findI, if_neg h0, h1, if_neg (by omega)]; omega, by rw [atRBinding_succ]; exact h2⟩
    exact this hf

set_option maxRecDepth 100000 in
set_option maxHeartbeats 2000000 in
theorem l3Find_any (rs : List RBinding) (h : Int) (x : Value) (w : World) (hx : RBindingsIn w x rs) (hl : rs.length ≤ 1048576) :
    Calls Tryz.prog 88 #[x, .int .i64 h] w (IntPost (findI rs h) w) := by
  obtain ⟨C, cc, rfl, hg⟩ := hx
  go_enter Tryz.func88, Tryz.ntmps88
  go_wp2
  go_loopw [9] (fun i wr => ∃ k : Nat, k ≤ rs.length ∧ i = .int .i64 k ∧ Hid (∀ j, j < k → ¬ (atRBinding rs j).f0 = h) ∧ Below w.heap.size w wr) (fun i _ => rs.length - (intOf i).toNat)
  case atStart => exact ⟨0, Nat.zero_le _, rfl, fun j hj => absurd hj (by omega), Below.refl _ _⟩
  case round =>
    obtain ⟨k, hk, rfl, hq, hb⟩ := hrel
    by_cases hlt : k < rs.length
    · obtain ⟨b1, o1, rfl, hb1, hget⟩ := hg (by omega)
      obtain ⟨A1, c1, B1, d1, e0, e1, e2, e3, e4, ht⟩ := (hget k hlt).below hb1 hb
      have hbW := hb.alloc hb.size (.cells #[.int .i64 (atRBinding rs k).f0, .int .i64 (atRBinding rs k).f1.op, .int .i64 (atRBinding rs k).f1.num, .slice A1 (atRBinding rs k).f1.perm.length c1, .slice B1 (atRBinding rs k).f1.kids.length d1] 112)
      by_cases hf : (atRBinding rs k).f0 = h
      · have hn : Hid (findI rs h = (k : Int)) := Lib.hid (findI_at hlt hq hf)
        have heq : ((atRBinding rs k).f0 == h) = true := by simp [hf]
        clear hf hget hg hq ht hb
        generalize atRBinding rs k = r at e0 e1 e2 e3 e4 hbW heq
        go_wp2
        go_ret
        exact ⟨by rw [hn.out]; (try rfl), hbW⟩
      · have hq2 : Hid (∀ j, j < k + 1 → ¬ (atRBinding rs j).f0 = h) := Lib.hid (fun j hj => by
          by_cases e : j = k
          · rw [e]; exact hf
          · exact hq j (by omega))
        have heq : ((atRBinding rs k).f0 == h) = false := by simp [hf]
        clear hf hget hg hq ht hb
        generalize atRBinding rs k = r at e0 e1 e2 e3 e4 hbW heq
        go_wp2
        refine ⟨⟨k + 1, by omega, by go_num, hq2, hbW⟩, ?_⟩
        simp only [intOf]
        omega
    · have hn : Hid (findI rs h = -1) := Lib.hid (findI_none fun j hj => hq j (by omega))
      clear hg hq
      go_wp2
      go_ret
      exact ⟨by rw [hn.out]; (try rfl), hb⟩

end Go.Proofs.YtbfkfklaplgebaaGreat
