/-
  Whether a list of equations is a problem, in the program and in the model, as contracts.
-/
import Derived.Test.YtbfkfklaplgebaaGreatKHoldsFor10
import Derived.Test.YtbfkfklaplgebaaGreatKHoldsFor12
import Derived.Test.YtbfkfklaplgebaaGreatKHoldsFor6
namespace Go.Proofs.YtbfkfklaplgebaaGreat
open Go.RowKit Go.Sort
set_option linter.unusedVariables false

def eqTB (r : REquation) : Bool := isTermB r.f0 && isTermB r.f1
def eqAll (rs : List REquation) : Bool := (List.range rs.length).all fun i => eqTB (atREquation rs i)
/-- A list of equations is a problem. -/
def probB (rs : List REquation) : Bool := eqAll rs && decide (rs.length ≤ 8)
theorem eqAll_no {rs : List REquation} {i : Nat} (hi : i < rs.length) (h : eqTB (atREquation rs i) = false) : eqAll rs = false := by
  unfold eqAll
  cases hc : (List.range rs.length).all fun i => eqTB (atREquation rs i) with
  | false => rfl
  | true =>
    rw [List.all_eq_true] at hc
    have := hc i (List.mem_range.2 hi)
    rw [h] at this
    exact absurd this (by simp)
theorem eqAll_yes {rs : List REquation} (h : ∀ j, j < rs.length → eqTB (atREquation rs j) = true) : eqAll rs = true := by
  unfold eqAll
  rw [List.all_eq_true]
  exact fun j hj => h j (List.mem_range.1 hj)
theorem eqAll_at {rs : List REquation} (h : eqAll rs = true) {i : Nat} (hi : i < rs.length) : eqTB (atREquation rs i) = true := by
  unfold eqAll at h
  rw [List.all_eq_true] at h
  exact h i (List.mem_range.2 hi)
theorem pr_next {p : Nat → Bool} {k : Nat} (h : ∀ j, j < k → p j = true) (hk : p k = true) : ∀ j, j < k + 1 → p j = true := by
  intro j hj
  rcases Nat.lt_or_ge j k with h1 | h1
  · exact h j h1
  · rw [show j = k by omega]; exact hk

set_option maxRecDepth 100000 in
set_option maxHeartbeats 4000000 in
theorem isProb_spec (rs : List REquation) (x : Value) (w : World) (hx : REquationsIn w x rs) (hl : rs.length ≤ 1048576) (hcn : ∀ k, k < rs.length → cntREquation (atREquation rs k) ≤ 1048576) :
    Calls Tryz.prog 94 #[x] w (BoolPost (probB rs) w) := by
  obtain ⟨C, cc, rfl, hg⟩ := hx
  go_enter Tryz.func94, Tryz.ntmps94
  go_wp2
  go_loopw [7] (fun i wr => ∃ k : Nat, k ≤ rs.length ∧ i = .int .i64 k ∧ Hid (∀ j, j < k → eqTB (atREquation rs j) = true) ∧ Below w.heap.size w wr) (fun i _ => rs.length - (intOf i).toNat)
  case atStart => exact ⟨0, Nat.zero_le _, rfl, fun j hj => absurd hj (by omega), Below.refl _ _⟩
  case round =>
    obtain ⟨k, hk, rfl, hq, hb⟩ := hrel
    by_cases hlt : k < rs.length
    · obtain ⟨b1, o1, rfl, hb1, hget⟩ := hg (by omega)
      obtain ⟨A0, c0, B0, d0, A1, c1, B1, d1, e0, e1, e2, e3, e4, e5, e6, e7, ht0, ht1⟩ := (hget k hlt).below hb1 hb
      have hcnt := hcn k hlt
      have hbs := hb.size
      cases hterm0 : isTermB (atREquation rs k).f0 with
      | false =>
        have hn : Hid (probB rs = false) := by show probB rs = false; unfold probB; rw [eqAll_no hlt (by unfold eqTB; rw [hterm0]; rfl)]; rfl
        generalize atREquation rs k = r at e0 e1 e2 e3 e4 e5 e6 e7 ht0 ht1 hterm0 hcnt
        clear hget hg hcn hq
        have hbx : Below wr.heap.size wr (wr.alloc (.cells #[.int .i64 r.f0.op, .int .i64 r.f0.num, .slice A0 r.f0.perm.length c0, .slice B0 r.f0.kids.length d0, .int .i64 r.f1.op, .int .i64 r.f1.num, .slice A1 r.f1.perm.length c1, .slice B1 r.f1.kids.length d1] 125)) := (Below.refl _ _).alloc (Nat.le_refl _) _
        have hk1 := heap_alloc_new wr (.cells #[.int .i64 r.f0.op, .int .i64 r.f0.num, .slice A0 r.f0.perm.length c0, .slice B0 r.f0.kids.length d0, .int .i64 r.f1.op, .int .i64 r.f1.num, .slice A1 r.f1.perm.length c1, .slice B1 r.f1.kids.length d1] 125)
        have hbW := hb.trans (hbx.mono hb.size)
        have hi0 := isTerm_spec r.f0 _ _ (ht0.below hbx) (by unfold cntREquation at hcnt; omega)
        rw [hterm0] at hi0
        have m0 : (wr.alloc (.cells #[.int .i64 r.f0.op, .int .i64 r.f0.num, .slice A0 r.f0.perm.length c0, .slice B0 r.f0.kids.length d0, .int .i64 r.f1.op, .int .i64 r.f1.num, .slice A1 r.f1.perm.length c1, .slice B1 r.f1.kids.length d1] 125)).cell? ⟨wr.heap.size, 0, none⟩ = some (.int .i64 r.f0.op) := by rw [cell_of_row _ _ 0 _ _ _ hk1]; rfl
        have m1 : (wr.alloc (.cells #[.int .i64 r.f0.op, .int .i64 r.f0.num, .slice A0 r.f0.perm.length c0, .slice B0 r.f0.kids.length d0, .int .i64 r.f1.op, .int .i64 r.f1.num, .slice A1 r.f1.perm.length c1, .slice B1 r.f1.kids.length d1] 125)).cell? ⟨wr.heap.size, 1, none⟩ = some (.int .i64 r.f0.num) := by rw [cell_of_row _ _ 1 _ _ _ hk1]; rfl
        have m2 : (wr.alloc (.cells #[.int .i64 r.f0.op, .int .i64 r.f0.num, .slice A0 r.f0.perm.length c0, .slice B0 r.f0.kids.length d0, .int .i64 r.f1.op, .int .i64 r.f1.num, .slice A1 r.f1.perm.length c1, .slice B1 r.f1.kids.length d1] 125)).cell? ⟨wr.heap.size, 2, none⟩ = some (.slice A0 r.f0.perm.length c0) := by rw [cell_of_row _ _ 2 _ _ _ hk1]; rfl
        have m3 : (wr.alloc (.cells #[.int .i64 r.f0.op, .int .i64 r.f0.num, .slice A0 r.f0.perm.length c0, .slice B0 r.f0.kids.length d0, .int .i64 r.f1.op, .int .i64 r.f1.num, .slice A1 r.f1.perm.length c1, .slice B1 r.f1.kids.length d1] 125)).cell? ⟨wr.heap.size, 3, none⟩ = some (.slice B0 r.f0.kids.length d0) := by rw [cell_of_row _ _ 3 _ _ _ hk1]; rfl
        have m4 : (wr.alloc (.cells #[.int .i64 r.f0.op, .int .i64 r.f0.num, .slice A0 r.f0.perm.length c0, .slice B0 r.f0.kids.length d0, .int .i64 r.f1.op, .int .i64 r.f1.num, .slice A1 r.f1.perm.length c1, .slice B1 r.f1.kids.length d1] 125)).cell? ⟨wr.heap.size, 4, none⟩ = some (.int .i64 r.f1.op) := by rw [cell_of_row _ _ 4 _ _ _ hk1]; rfl
        have m5 : (wr.alloc (.cells #[.int .i64 r.f0.op, .int .i64 r.f0.num, .slice A0 r.f0.perm.length c0, .slice B0 r.f0.kids.length d0, .int .i64 r.f1.op, .int .i64 r.f1.num, .slice A1 r.f1.perm.length c1, .slice B1 r.f1.kids.length d1] 125)).cell? ⟨wr.heap.size, 5, none⟩ = some (.int .i64 r.f1.num) := by rw [cell_of_row _ _ 5 _ _ _ hk1]; rfl
        have m6 : (wr.alloc (.cells #[.int .i64 r.f0.op, .int .i64 r.f0.num, .slice A0 r.f0.perm.length c0, .slice B0 r.f0.kids.length d0, .int .i64 r.f1.op, .int .i64 r.f1.num, .slice A1 r.f1.perm.length c1, .slice B1 r.f1.kids.length d1] 125)).cell? ⟨wr.heap.size, 6, none⟩ = some (.slice A1 r.f1.perm.length c1) := by rw [cell_of_row _ _ 6 _ _ _ hk1]; rfl
        have m7 : (wr.alloc (.cells #[.int .i64 r.f0.op, .int .i64 r.f0.num, .slice A0 r.f0.perm.length c0, .slice B0 r.f0.kids.length d0, .int .i64 r.f1.op, .int .i64 r.f1.num, .slice A1 r.f1.perm.length c1, .slice B1 r.f1.kids.length d1] 125)).cell? ⟨wr.heap.size, 7, none⟩ = some (.slice B1 r.f1.kids.length d1) := by rw [cell_of_row _ _ 7 _ _ _ hk1]; rfl
        go_wp2_with fail
        refine hi0.mono ?_
        rintro e w2 ⟨rfl, hb2⟩
        have hb3 := hbW.trans (hb2.mono hbW.size)
        have hpost : BoolPost (probB rs) w (.returned (.bool false)) w2 := ⟨by rw [hn.out], hb3⟩
        clear hi0 hbx hbW hk1 hb2 ht0 ht1 e0 e1 e2 e3 e4 e5 e6 e7 m0 m1 m2 m3 m4 m5 m6 m7 hb hcnt hb3 hn
        go_wp2
        go_ret
        exact hpost
      | true =>
        cases hterm1 : isTermB (atREquation rs k).f1 with
        | false =>
          have hn : Hid (probB rs = false) := by show probB rs = false; unfold probB; rw [eqAll_no hlt (by unfold eqTB; rw [hterm0, hterm1]; rfl)]; rfl
          generalize atREquation rs k = r at e0 e1 e2 e3 e4 e5 e6 e7 ht0 ht1 hterm0 hterm1 hcnt
          clear hget hg hcn hq
          have hbx : Below wr.heap.size wr (wr.alloc (.cells #[.int .i64 r.f0.op, .int .i64 r.f0.num, .slice A0 r.f0.perm.length c0, .slice B0 r.f0.kids.length d0, .int .i64 r.f1.op, .int .i64 r.f1.num, .slice A1 r.f1.perm.length c1, .slice B1 r.f1.kids.length d1] 125)) := (Below.refl _ _).alloc (Nat.le_refl _) _
          have hk1 := heap_alloc_new wr (.cells #[.int .i64 r.f0.op, .int .i64 r.f0.num, .slice A0 r.f0.perm.length c0, .slice B0 r.f0.kids.length d0, .int .i64 r.f1.op, .int .i64 r.f1.num, .slice A1 r.f1.perm.length c1, .slice B1 r.f1.kids.length d1] 125)
          have hbW := hb.trans (hbx.mono hb.size)
          have hi0 := isTerm_spec r.f0 _ _ (ht0.below hbx) (by unfold cntREquation at hcnt; omega)
          rw [hterm0] at hi0
          have m0 : (wr.alloc (.cells #[.int .i64 r.f0.op, .int .i64 r.f0.num, .slice A0 r.f0.perm.length c0, .slice B0 r.f0.kids.length d0, .int .i64 r.f1.op, .int .i64 r.f1.num, .slice A1 r.f1.perm.length c1, .slice B1 r.f1.kids.length d1] 125)).cell? ⟨wr.heap.size, 0, none⟩ = some (.int .i64 r.f0.op) := by rw [cell_of_row _ _ 0 _ _ _ hk1]; rfl
          have m1 : (wr.alloc (.cells #[.int .i64 r.f0.op, .int .i64 r.f0.num, .slice A0 r.f0.perm.length c0, .slice B0 r.f0.kids.length d0, .int .i64 r.f1.op, .int .i64 r.f1.num, .slice A1 r.f1.perm.length c1, .slice B1 r.f1.kids.length d1] 125)).cell? ⟨wr.heap.size, 1, none⟩ = some (.int .i64 r.f0.num) := by rw [cell_of_row _ _ 1 _ _ _ hk1]; rfl
          have m2 : (wr.alloc (.cells #[.int .i64 r.f0.op, .int .i64 r.f0.num, .slice A0 r.f0.perm.length c0, .slice B0 r.f0.kids.length d0, .int .i64 r.f1.op, .int .i64 r.f1.num, .slice A1 r.f1.perm.length c1, .slice B1 r.f1.kids.length d1] 125)).cell? ⟨wr.heap.size, 2, none⟩ = some (.slice A0 r.f0.perm.length c0) := by rw [cell_of_row _ _ 2 _ _ _ hk1]; rfl
          have m3 : (wr.alloc (.cells #[.int .i64 r.f0.op, .int .i64 r.f0.num, .slice A0 r.f0.perm.length c0, .slice B0 r.f0.kids.length d0, .int .i64 r.f1.op, .int .i64 r.f1.num, .slice A1 r.f1.perm.length c1, .slice B1 r.f1.kids.length d1] 125)).cell? ⟨wr.heap.size, 3, none⟩ = some (.slice B0 r.f0.kids.length d0) := by rw [cell_of_row _ _ 3 _ _ _ hk1]; rfl
          have m4 : (wr.alloc (.cells #[.int .i64 r.f0.op, .int .i64 r.f0.num, .slice A0 r.f0.perm.length c0, .slice B0 r.f0.kids.length d0, .int .i64 r.f1.op, .int .i64 r.f1.num, .slice A1 r.f1.perm.length c1, .slice B1 r.f1.kids.length d1] 125)).cell? ⟨wr.heap.size, 4, none⟩ = some (.int .i64 r.f1.op) := by rw [cell_of_row _ _ 4 _ _ _ hk1]; rfl
          have m5 : (wr.alloc (.cells #[.int .i64 r.f0.op, .int .i64 r.f0.num, .slice A0 r.f0.perm.length c0, .slice B0 r.f0.kids.length d0, .int .i64 r.f1.op, .int .i64 r.f1.num, .slice A1 r.f1.perm.length c1, .slice B1 r.f1.kids.length d1] 125)).cell? ⟨wr.heap.size, 5, none⟩ = some (.int .i64 r.f1.num) := by rw [cell_of_row _ _ 5 _ _ _ hk1]; rfl
          have m6 : (wr.alloc (.cells #[.int .i64 r.f0.op, .int .i64 r.f0.num, .slice A0 r.f0.perm.length c0, .slice B0 r.f0.kids.length d0, .int .i64 r.f1.op, .int .i64 r.f1.num, .slice A1 r.f1.perm.length c1, .slice B1 r.f1.kids.length d1] 125)).cell? ⟨wr.heap.size, 6, none⟩ = some (.slice A1 r.f1.perm.length c1) := by rw [cell_of_row _ _ 6 _ _ _ hk1]; rfl
          have m7 : (wr.alloc (.cells #[.int .i64 r.f0.op, .int .i64 r.f0.num, .slice A0 r.f0.perm.length c0, .slice B0 r.f0.kids.length d0, .int .i64 r.f1.op, .int .i64 r.f1.num, .slice A1 r.f1.perm.length c1, .slice B1 r.f1.kids.length d1] 125)).cell? ⟨wr.heap.size, 7, none⟩ = some (.slice B1 r.f1.kids.length d1) := by rw [cell_of_row _ _ 7 _ _ _ hk1]; rfl
          go_wp2_with fail
          refine hi0.mono ?_
          rintro e w2 ⟨rfl, hb2⟩
          have hb3 := hbW.trans (hb2.mono hbW.size)
          have hk2 := (hb2.block wr.heap.size (by rw [World.size_alloc]; exact Nat.lt_succ_self _)).trans hk1
          have hi1 := isTerm_spec r.f1 _ w2 ((ht1.below hbx).below hb2) (by unfold cntREquation at hcnt; omega)
          rw [hterm1] at hi1
          have n0 : w2.cell? ⟨wr.heap.size, 0, none⟩ = some (.int .i64 r.f0.op) := by rw [cell_of_row _ _ 0 _ _ _ hk2]; rfl
          have n1 : w2.cell? ⟨wr.heap.size, 1, none⟩ = some (.int .i64 r.f0.num) := by rw [cell_of_row _ _ 1 _ _ _ hk2]; rfl
          have n2 : w2.cell? ⟨wr.heap.size, 2, none⟩ = some (.slice A0 r.f0.perm.length c0) := by rw [cell_of_row _ _ 2 _ _ _ hk2]; rfl
          have n3 : w2.cell? ⟨wr.heap.size, 3, none⟩ = some (.slice B0 r.f0.kids.length d0) := by rw [cell_of_row _ _ 3 _ _ _ hk2]; rfl
          have n4 : w2.cell? ⟨wr.heap.size, 4, none⟩ = some (.int .i64 r.f1.op) := by rw [cell_of_row _ _ 4 _ _ _ hk2]; rfl
          have n5 : w2.cell? ⟨wr.heap.size, 5, none⟩ = some (.int .i64 r.f1.num) := by rw [cell_of_row _ _ 5 _ _ _ hk2]; rfl
          have n6 : w2.cell? ⟨wr.heap.size, 6, none⟩ = some (.slice A1 r.f1.perm.length c1) := by rw [cell_of_row _ _ 6 _ _ _ hk2]; rfl
          have n7 : w2.cell? ⟨wr.heap.size, 7, none⟩ = some (.slice B1 r.f1.kids.length d1) := by rw [cell_of_row _ _ 7 _ _ _ hk2]; rfl
          clear hi0 hbx hbW hk1 hk2 hb2 ht0 ht1 e0 e1 e2 e3 e4 e5 e6 e7 m0 m1 m2 m3 m4 m5 m6 m7 hb hcnt
          go_wp2_with fail
          refine hi1.mono ?_
          rintro e w3 ⟨rfl, hb4⟩
          have hb5 := hb3.trans (hb4.mono hb3.size)
          have hpost : BoolPost (probB rs) w (.returned (.bool false)) w3 := ⟨by rw [hn.out], hb5⟩
          clear hi1 n0 n1 n2 n3 n4 n5 n6 n7 hb3 hb4 hb5 hn
          go_wp2
          go_ret
          exact hpost
        | true =>
          have hn : Hid (∀ q, q < k + 1 → eqTB (atREquation rs q) = true) := pr_next hq.out (by unfold eqTB; rw [hterm0, hterm1]; rfl)
          generalize atREquation rs k = r at e0 e1 e2 e3 e4 e5 e6 e7 ht0 ht1 hterm0 hterm1 hcnt
          clear hget hg hcn hq
          have hbx : Below wr.heap.size wr (wr.alloc (.cells #[.int .i64 r.f0.op, .int .i64 r.f0.num, .slice A0 r.f0.perm.length c0, .slice B0 r.f0.kids.length d0, .int .i64 r.f1.op, .int .i64 r.f1.num, .slice A1 r.f1.perm.length c1, .slice B1 r.f1.kids.length d1] 125)) := (Below.refl _ _).alloc (Nat.le_refl _) _
          have hk1 := heap_alloc_new wr (.cells #[.int .i64 r.f0.op, .int .i64 r.f0.num, .slice A0 r.f0.perm.length c0, .slice B0 r.f0.kids.length d0, .int .i64 r.f1.op, .int .i64 r.f1.num, .slice A1 r.f1.perm.length c1, .slice B1 r.f1.kids.length d1] 125)
          have hbW := hb.trans (hbx.mono hb.size)
          have hi0 := isTerm_spec r.f0 _ _ (ht0.below hbx) (by unfold cntREquation at hcnt; omega)
          rw [hterm0] at hi0
          have m0 : (wr.alloc (.cells #[.int .i64 r.f0.op, .int .i64 r.f0.num, .slice A0 r.f0.perm.length c0, .slice B0 r.f0.kids.length d0, .int .i64 r.f1.op, .int .i64 r.f1.num, .slice A1 r.f1.perm.length c1, .slice B1 r.f1.kids.length d1] 125)).cell? ⟨wr.heap.size, 0, none⟩ = some (.int .i64 r.f0.op) := by rw [cell_of_row _ _ 0 _ _ _ hk1]; rfl
          have m1 : (wr.alloc (.cells #[.int .i64 r.f0.op, .int .i64 r.f0.num, .slice A0 r.f0.perm.length c0, .slice B0 r.f0.kids.length d0, .int .i64 r.f1.op, .int .i64 r.f1.num, .slice A1 r.f1.perm.length c1, .slice B1 r.f1.kids.length d1] 125)).cell? ⟨wr.heap.size, 1, none⟩ = some (.int .i64 r.f0.num) := by rw [cell_of_row _ _ 1 _ _ _ hk1]; rfl
          have m2 : (wr.alloc (.cells #[.int .i64 r.f0.op, .int .i64 r.f0.num, .slice A0 r.f0.perm.length c0, .slice B0 r.f0.kids.length d0, .int .i64 r.f1.op, .int .i64 r.f1.num, .slice A1 r.f1.perm.length c1, .slice B1 r.f1.kids.length d1] 125)).cell? ⟨wr.heap.size, 2, none⟩ = some (.slice A0 r.f0.perm.length c0) := by rw [cell_of_row _ _ 2 _ _ _ hk1]; rfl
          have m3 : (wr.alloc (.cells #[.int .i64 r.f0.op, .int .i64 r.f0.num, .slice A0 r.f0.perm.length c0, .slice B0 r.f0.kids.length d0, .int .i64 r.f1.op, .int .i64 r.f1.num, .slice A1 r.f1.perm.length c1, .slice B1 r.f1.kids.length d1] 125)).cell? ⟨wr.heap.size, 3, none⟩ = some (.slice B0 r.f0.kids.length d0) := by rw [cell_of_row _ _ 3 _ _ _ hk1]; rfl
          have m4 : (wr.alloc (.cells #[.int .i64 r.f0.op, .int .i64 r.f0.num, .slice A0 r.f0.perm.length c0, .slice B0 r.f0.kids.length d0, .int .i64 r.f1.op, .int .i64 r.f1.num, .slice A1 r.f1.perm.length c1, .slice B1 r.f1.kids.length d1] 125)).cell? ⟨wr.heap.size, 4, none⟩ = some (.int .i64 r.f1.op) := by rw [cell_of_row _ _ 4 _ _ _ hk1]; rfl
          have m5 : (wr.alloc (.cells #[.int .i64 r.f0.op, .int .i64 r.f0.num, .slice A0 r.f0.perm.length c0, .slice B0 r.f0.kids.length d0, .int .i64 r.f1.op, .int .i64 r.f1.num, .slice A1 r.f1.perm.length c1, .slice B1 r.f1.kids.length d1] 125)).cell? ⟨wr.heap.size, 5, none⟩ = some (.int .i64 r.f1.num) := by rw [cell_of_row _ _ 5 _ _ _ hk1]; rfl
          have m6 : (wr.alloc (.cells #[.int .i64 r.f0.op, .int .i64 r.f0.num, .slice A0 r.f0.perm.length c0, .slice B0 r.f0.kids.length d0, .int .i64 r.f1.op, .int .i64 r.f1.num, .slice A1 r.f1.perm.length c1, .slice B1 r.f1.kids.length d1] 125)).cell? ⟨wr.heap.size, 6, none⟩ = some (.slice A1 r.f1.perm.length c1) := by rw [cell_of_row _ _ 6 _ _ _ hk1]; rfl
          have m7 : (wr.alloc (.cells #[.int .i64 r.f0.op, .int .i64 r.f0.num, .slice A0 r.f0.perm.length c0, .slice B0 r.f0.kids.length d0, .int .i64 r.f1.op, .int .i64 r.f1.num, .slice A1 r.f1.perm.length c1, .slice B1 r.f1.kids.length d1] 125)).cell? ⟨wr.heap.size, 7, none⟩ = some (.slice B1 r.f1.kids.length d1) := by rw [cell_of_row _ _ 7 _ _ _ hk1]; rfl
          go_wp2_with fail
          refine hi0.mono ?_
          rintro e w2 ⟨rfl, hb2⟩
          have hb3 := hbW.trans (hb2.mono hbW.size)
          have hk2 := (hb2.block wr.heap.size (by rw [World.size_alloc]; exact Nat.lt_succ_self _)).trans hk1
          have hi1 := isTerm_spec r.f1 _ w2 ((ht1.below hbx).below hb2) (by unfold cntREquation at hcnt; omega)
          rw [hterm1] at hi1
          have n0 : w2.cell? ⟨wr.heap.size, 0, none⟩ = some (.int .i64 r.f0.op) := by rw [cell_of_row _ _ 0 _ _ _ hk2]; rfl
          have n1 : w2.cell? ⟨wr.heap.size, 1, none⟩ = some (.int .i64 r.f0.num) := by rw [cell_of_row _ _ 1 _ _ _ hk2]; rfl
          have n2 : w2.cell? ⟨wr.heap.size, 2, none⟩ = some (.slice A0 r.f0.perm.length c0) := by rw [cell_of_row _ _ 2 _ _ _ hk2]; rfl
          have n3 : w2.cell? ⟨wr.heap.size, 3, none⟩ = some (.slice B0 r.f0.kids.length d0) := by rw [cell_of_row _ _ 3 _ _ _ hk2]; rfl
          have n4 : w2.cell? ⟨wr.heap.size, 4, none⟩ = some (.int .i64 r.f1.op) := by rw [cell_of_row _ _ 4 _ _ _ hk2]; rfl
          have n5 : w2.cell? ⟨wr.heap.size, 5, none⟩ = some (.int .i64 r.f1.num) := by rw [cell_of_row _ _ 5 _ _ _ hk2]; rfl
          have n6 : w2.cell? ⟨wr.heap.size, 6, none⟩ = some (.slice A1 r.f1.perm.length c1) := by rw [cell_of_row _ _ 6 _ _ _ hk2]; rfl
          have n7 : w2.cell? ⟨wr.heap.size, 7, none⟩ = some (.slice B1 r.f1.kids.length d1) := by rw [cell_of_row _ _ 7 _ _ _ hk2]; rfl
          clear hi0 hbx hbW hk1 hk2 hb2 ht0 ht1 e0 e1 e2 e3 e4 e5 e6 e7 m0 m1 m2 m3 m4 m5 m6 m7 hb hcnt
          go_wp2_with fail
          refine hi1.mono ?_
          rintro e w3 ⟨rfl, hb4⟩
          have hb5 := hb3.trans (hb4.mono hb3.size)
          clear hi1 n0 n1 n2 n3 n4 n5 n6 n7 hb3 hb4
          go_wp2
          refine ⟨⟨k + 1, by omega, by go_num, hn, hb5⟩, ?_⟩
          simp only [intOf]
          omega
    · have e : k = rs.length := by omega
      have hr : Hid (eqAll rs = true) := eqAll_yes (fun j hj => hq.out j (by omega))
      have hpost : BoolPost (probB rs) w (.returned (.bool (decide ((rs.length : Int) ≤ 8)))) wr := ⟨by unfold probB; rw [hr.out, Bool.true_and]; congr 2; exact decide_eq_decide.2 (by omega), hb⟩
      clear hg hcn hr hb
      go_wp2
      go_ret
      exact hpost

set_option maxRecDepth 100000 in
set_option maxHeartbeats 4000000 in
theorem isProb_impl (rs : List REquation) (x : Value) (w : World) (hx : REquationsIn w x rs) (hl : rs.length ≤ 1048576) (hcn : ∀ k, k < rs.length → cntREquation (atREquation rs k) ≤ 1048576) :
    Calls Tryz.prog 96 #[x] w (BoolPost (probB rs) w) := by
  obtain ⟨C, cc, rfl, hg⟩ := hx
  by_cases h8 : 8 < rs.length
  · have k0 : 8 < (rs.length : Int) := by omega
    have hpost : BoolPost (probB rs) w (.returned (.bool false)) w := ⟨by unfold probB; rw [decide_eq_false (show ¬ rs.length ≤ 8 by omega), Bool.and_false], Below.refl _ _⟩
    clear hg
    go_enter Tryz.func96, Tryz.ntmps96
    go_wp2
    go_ret
    exact hpost
  have k0 : ¬ 8 < (rs.length : Int) := by omega
  go_enter Tryz.func96, Tryz.ntmps96
  go_wp2
  go_loopw [10] (fun i wr => ∃ k : Nat, k ≤ rs.length ∧ i = .int .i64 k ∧ Hid (∀ j, j < k → eqTB (atREquation rs j) = true) ∧ Below w.heap.size w wr) (fun i _ => rs.length - (intOf i).toNat)
  case atStart => exact ⟨0, Nat.zero_le _, rfl, fun j hj => absurd hj (by omega), Below.refl _ _⟩
  case round =>
    obtain ⟨k, hk, rfl, hq, hb⟩ := hrel
    by_cases hlt : k < rs.length
    · obtain ⟨b1, o1, rfl, hb1, hget⟩ := hg (by omega)
      obtain ⟨A0, c0, B0, d0, A1, c1, B1, d1, e0, e1, e2, e3, e4, e5, e6, e7, ht0, ht1⟩ := (hget k hlt).below hb1 hb
      have hcnt := hcn k hlt
      have hbs := hb.size
      cases hterm0 : isTermB (atREquation rs k).f0 with
      | false =>
        have hn : Hid (probB rs = false) := by show probB rs = false; unfold probB; rw [eqAll_no hlt (by unfold eqTB; rw [hterm0]; rfl)]; rfl
        generalize atREquation rs k = r at e0 e1 e2 e3 e4 e5 e6 e7 ht0 ht1 hterm0 hcnt
        clear hget hg hcn hq
        have hbx : Below wr.heap.size wr (wr.alloc (.cells #[.int .i64 r.f0.op, .int .i64 r.f0.num, .slice A0 r.f0.perm.length c0, .slice B0 r.f0.kids.length d0, .int .i64 r.f1.op, .int .i64 r.f1.num, .slice A1 r.f1.perm.length c1, .slice B1 r.f1.kids.length d1] 125)) := (Below.refl _ _).alloc (Nat.le_refl _) _
        have hk1 := heap_alloc_new wr (.cells #[.int .i64 r.f0.op, .int .i64 r.f0.num, .slice A0 r.f0.perm.length c0, .slice B0 r.f0.kids.length d0, .int .i64 r.f1.op, .int .i64 r.f1.num, .slice A1 r.f1.perm.length c1, .slice B1 r.f1.kids.length d1] 125)
        have hbW := hb.trans (hbx.mono hb.size)
        have hi0 := isTerm_impl r.f0 _ _ (ht0.below hbx) (fit_of _ (by unfold cntREquation at hcnt; omega))
        rw [hterm0] at hi0
        have m0 : (wr.alloc (.cells #[.int .i64 r.f0.op, .int .i64 r.f0.num, .slice A0 r.f0.perm.length c0, .slice B0 r.f0.kids.length d0, .int .i64 r.f1.op, .int .i64 r.f1.num, .slice A1 r.f1.perm.length c1, .slice B1 r.f1.kids.length d1] 125)).cell? ⟨wr.heap.size, 0, none⟩ = some (.int .i64 r.f0.op) := by rw [cell_of_row _ _ 0 _ _ _ hk1]; rfl
        have m1 : (wr.alloc (.cells #[.int .i64 r.f0.op, .int .i64 r.f0.num, .slice A0 r.f0.perm.length c0, .slice B0 r.f0.kids.length d0, .int .i64 r.f1.op, .int .i64 r.f1.num, .slice A1 r.f1.perm.length c1, .slice B1 r.f1.kids.length d1] 125)).cell? ⟨wr.heap.size, 1, none⟩ = some (.int .i64 r.f0.num) := by rw [cell_of_row _ _ 1 _ _ _ hk1]; rfl
        have m2 : (wr.alloc (.cells #[.int .i64 r.f0.op, .int .i64 r.f0.num, .slice A0 r.f0.perm.length c0, .slice B0 r.f0.kids.length d0, .int .i64 r.f1.op, .int .i64 r.f1.num, .slice A1 r.f1.perm.length c1, .slice B1 r.f1.kids.length d1] 125)).cell? ⟨wr.heap.size, 2, none⟩ = some (.slice A0 r.f0.perm.length c0) := by rw [cell_of_row _ _ 2 _ _ _ hk1]; rfl
        have m3 : (wr.alloc (.cells #[.int .i64 r.f0.op, .int .i64 r.f0.num, .slice A0 r.f0.perm.length c0, .slice B0 r.f0.kids.length d0, .int .i64 r.f1.op, .int .i64 r.f1.num, .slice A1 r.f1.perm.length c1, .slice B1 r.f1.kids.length d1] 125)).cell? ⟨wr.heap.size, 3, none⟩ = some (.slice B0 r.f0.kids.length d0) := by rw [cell_of_row _ _ 3 _ _ _ hk1]; rfl
        have m4 : (wr.alloc (.cells #[.int .i64 r.f0.op, .int .i64 r.f0.num, .slice A0 r.f0.perm.length c0, .slice B0 r.f0.kids.length d0, .int .i64 r.f1.op, .int .i64 r.f1.num, .slice A1 r.f1.perm.length c1, .slice B1 r.f1.kids.length d1] 125)).cell? ⟨wr.heap.size, 4, none⟩ = some (.int .i64 r.f1.op) := by rw [cell_of_row _ _ 4 _ _ _ hk1]; rfl
        have m5 : (wr.alloc (.cells #[.int .i64 r.f0.op, .int .i64 r.f0.num, .slice A0 r.f0.perm.length c0, .slice B0 r.f0.kids.length d0, .int .i64 r.f1.op, .int .i64 r.f1.num, .slice A1 r.f1.perm.length c1, .slice B1 r.f1.kids.length d1] 125)).cell? ⟨wr.heap.size, 5, none⟩ = some (.int .i64 r.f1.num) := by rw [cell_of_row _ _ 5 _ _ _ hk1]; rfl
        have m6 : (wr.alloc (.cells #[.int .i64 r.f0.op, .int .i64 r.f0.num, .slice A0 r.f0.perm.length c0, .slice B0 r.f0.kids.length d0, .int .i64 r.f1.op, .int .i64 r.f1.num, .slice A1 r.f1.perm.length c1, .slice B1 r.f1.kids.length d1] 125)).cell? ⟨wr.heap.size, 6, none⟩ = some (.slice A1 r.f1.perm.length c1) := by rw [cell_of_row _ _ 6 _ _ _ hk1]; rfl
        have m7 : (wr.alloc (.cells #[.int .i64 r.f0.op, .int .i64 r.f0.num, .slice A0 r.f0.perm.length c0, .slice B0 r.f0.kids.length d0, .int .i64 r.f1.op, .int .i64 r.f1.num, .slice A1 r.f1.perm.length c1, .slice B1 r.f1.kids.length d1] 125)).cell? ⟨wr.heap.size, 7, none⟩ = some (.slice B1 r.f1.kids.length d1) := by rw [cell_of_row _ _ 7 _ _ _ hk1]; rfl
        go_wp2_with fail
        refine hi0.mono ?_
        rintro e w2 ⟨rfl, hb2⟩
        have hb3 := hbW.trans (hb2.mono hbW.size)
        have hpost : BoolPost (probB rs) w (.returned (.bool false)) w2 := ⟨by rw [hn.out], hb3⟩
        clear hi0 hbx hbW hk1 hb2 ht0 ht1 e0 e1 e2 e3 e4 e5 e6 e7 m0 m1 m2 m3 m4 m5 m6 m7 hb hcnt hb3 hn
        go_wp2
        go_ret
        exact hpost
      | true =>
        cases hterm1 : isTermB (atREquation rs k).f1 with
        | false =>
          have hn : Hid (probB rs = false) := by show probB rs = false; unfold probB; rw [eqAll_no hlt (by unfold eqTB; rw [hterm0, hterm1]; rfl)]; rfl
          generalize atREquation rs k = r at e0 e1 e2 e3 e4 e5 e6 e7 ht0 ht1 hterm0 hterm1 hcnt
          clear hget hg hcn hq
          have hbx : Below wr.heap.size wr (wr.alloc (.cells #[.int .i64 r.f0.op, .int .i64 r.f0.num, .slice A0 r.f0.perm.length c0, .slice B0 r.f0.kids.length d0, .int .i64 r.f1.op, .int .i64 r.f1.num, .slice A1 r.f1.perm.length c1, .slice B1 r.f1.kids.length d1] 125)) := (Below.refl _ _).alloc (Nat.le_refl _) _
          have hk1 := heap_alloc_new wr (.cells #[.int .i64 r.f0.op, .int .i64 r.f0.num, .slice A0 r.f0.perm.length c0, .slice B0 r.f0.kids.length d0, .int .i64 r.f1.op, .int .i64 r.f1.num, .slice A1 r.f1.perm.length c1, .slice B1 r.f1.kids.length d1] 125)
          have hbW := hb.trans (hbx.mono hb.size)
          have hi0 := isTerm_impl r.f0 _ _ (ht0.below hbx) (fit_of _ (by unfold cntREquation at hcnt; omega))
          rw [hterm0] at hi0
          have m0 : (wr.alloc (.cells #[.int .i64 r.f0.op, .int .i64 r.f0.num, .slice A0 r.f0.perm.length c0, .slice B0 r.f0.kids.length d0, .int .i64 r.f1.op, .int .i64 r.f1.num, .slice A1 r.f1.perm.length c1, .slice B1 r.f1.kids.length d1] 125)).cell? ⟨wr.heap.size, 0, none⟩ = some (.int .i64 r.f0.op) := by rw [cell_of_row _ _ 0 _ _ _ hk1]; rfl
          have m1 : (wr.alloc (.cells #[.int .i64 r.f0.op, .int .i64 r.f0.num, .slice A0 r.f0.perm.length c0, .slice B0 r.f0.kids.length d0, .int .i64 r.f1.op, .int .i64 r.f1.num, .slice A1 r.f1.perm.length c1, .slice B1 r.f1.kids.length d1] 125)).cell? ⟨wr.heap.size, 1, none⟩ = some (.int .i64 r.f0.num) := by rw [cell_of_row _ _ 1 _ _ _ hk1]; rfl
          have m2 : (wr.alloc (.cells #[.int .i64 r.f0.op, .int .i64 r.f0.num, .slice A0 r.f0.perm.length c0, .slice B0 r.f0.kids.length d0, .int .i64 r.f1.op, .int .i64 r.f1.num, .slice A1 r.f1.perm.length c1, .slice B1 r.f1.kids.length d1] 125)).cell? ⟨wr.heap.size, 2, none⟩ = some (.slice A0 r.f0.perm.length c0) := by rw [cell_of_row _ _ 2 _ _ _ hk1]; rfl
          have m3 : (wr.alloc (.cells #[.int .i64 r.f0.op, .int .i64 r.f0.num, .slice A0 r.f0.perm.length c0, .slice B0 r.f0.kids.length d0, .int .i64 r.f1.op, .int .i64 r.f1.num, .slice A1 r.f1.perm.length c1, .slice B1 r.f1.kids.length d1] 125)).cell? ⟨wr.heap.size, 3, none⟩ = some (.slice B0 r.f0.kids.length d0) := by rw [cell_of_row _ _ 3 _ _ _ hk1]; rfl
          have m4 : (wr.alloc (.cells #[.int .i64 r.f0.op, .int .i64 r.f0.num, .slice A0 r.f0.perm.length c0, .slice B0 r.f0.kids.length d0, .int .i64 r.f1.op, .int .i64 r.f1.num, .slice A1 r.f1.perm.length c1, .slice B1 r.f1.kids.length d1] 125)).cell? ⟨wr.heap.size, 4, none⟩ = some (.int .i64 r.f1.op) := by rw [cell_of_row _ _ 4 _ _ _ hk1]; rfl
          have m5 : (wr.alloc (.cells #[.int .i64 r.f0.op, .int .i64 r.f0.num, .slice A0 r.f0.perm.length c0, .slice B0 r.f0.kids.length d0, .int .i64 r.f1.op, .int .i64 r.f1.num, .slice A1 r.f1.perm.length c1, .slice B1 r.f1.kids.length d1] 125)).cell? ⟨wr.heap.size, 5, none⟩ = some (.int .i64 r.f1.num) := by rw [cell_of_row _ _ 5 _ _ _ hk1]; rfl
          have m6 : (wr.alloc (.cells #[.int .i64 r.f0.op, .int .i64 r.f0.num, .slice A0 r.f0.perm.length c0, .slice B0 r.f0.kids.length d0, .int .i64 r.f1.op, .int .i64 r.f1.num, .slice A1 r.f1.perm.length c1, .slice B1 r.f1.kids.length d1] 125)).cell? ⟨wr.heap.size, 6, none⟩ = some (.slice A1 r.f1.perm.length c1) := by rw [cell_of_row _ _ 6 _ _ _ hk1]; rfl
          have m7 : (wr.alloc (.cells #[.int .i64 r.f0.op, .int .i64 r.f0.num, .slice A0 r.f0.perm.length c0, .slice B0 r.f0.kids.length d0, .int .i64 r.f1.op, .int .i64 r.f1.num, .slice A1 r.f1.perm.length c1, .slice B1 r.f1.kids.length d1] 125)).cell? ⟨wr.heap.size, 7, none⟩ = some (.slice B1 r.f1.kids.length d1) := by rw [cell_of_row _ _ 7 _ _ _ hk1]; rfl
          go_wp2_with fail
          refine hi0.mono ?_
          rintro e w2 ⟨rfl, hb2⟩
          have hb3 := hbW.trans (hb2.mono hbW.size)
          have hk2 := (hb2.block wr.heap.size (by rw [World.size_alloc]; exact Nat.lt_succ_self _)).trans hk1
          have hi1 := isTerm_impl r.f1 _ w2 ((ht1.below hbx).below hb2) (fit_of _ (by unfold cntREquation at hcnt; omega))
          rw [hterm1] at hi1
          have n0 : w2.cell? ⟨wr.heap.size, 0, none⟩ = some (.int .i64 r.f0.op) := by rw [cell_of_row _ _ 0 _ _ _ hk2]; rfl
          have n1 : w2.cell? ⟨wr.heap.size, 1, none⟩ = some (.int .i64 r.f0.num) := by rw [cell_of_row _ _ 1 _ _ _ hk2]; rfl
          have n2 : w2.cell? ⟨wr.heap.size, 2, none⟩ = some (.slice A0 r.f0.perm.length c0) := by rw [cell_of_row _ _ 2 _ _ _ hk2]; rfl
          have n3 : w2.cell? ⟨wr.heap.size, 3, none⟩ = some (.slice B0 r.f0.kids.length d0) := by rw [cell_of_row _ _ 3 _ _ _ hk2]; rfl
          have n4 : w2.cell? ⟨wr.heap.size, 4, none⟩ = some (.int .i64 r.f1.op) := by rw [cell_of_row _ _ 4 _ _ _ hk2]; rfl
          have n5 : w2.cell? ⟨wr.heap.size, 5, none⟩ = some (.int .i64 r.f1.num) := by rw [cell_of_row _ _ 5 _ _ _ hk2]; rfl
          have n6 : w2.cell? ⟨wr.heap.size, 6, none⟩ = some (.slice A1 r.f1.perm.length c1) := by rw [cell_of_row _ _ 6 _ _ _ hk2]; rfl
          have n7 : w2.cell? ⟨wr.heap.size, 7, none⟩ = some (.slice B1 r.f1.kids.length d1) := by rw [cell_of_row _ _ 7 _ _ _ hk2]; rfl
          clear hi0 hbx hbW hk1 hk2 hb2 ht0 ht1 e0 e1 e2 e3 e4 e5 e6 e7 m0 m1 m2 m3 m4 m5 m6 m7 hb hcnt
          go_wp2_with fail
          refine hi1.mono ?_
          rintro e w3 ⟨rfl, hb4⟩
          have hb5 := hb3.trans (hb4.mono hb3.size)
          have hpost : BoolPost (probB rs) w (.returned (.bool false)) w3 := ⟨by rw [hn.out], hb5⟩
          clear hi1 n0 n1 n2 n3 n4 n5 n6 n7 hb3 hb4 hb5 hn
          go_wp2
          go_ret
          exact hpost
        | true =>
          have hn : Hid (∀ q, q < k + 1 → eqTB (atREquation rs q) = true) := pr_next hq.out (by unfold eqTB; rw [hterm0, hterm1]; rfl)
          generalize atREquation rs k = r at e0 e1 e2 e3 e4 e5 e6 e7 ht0 ht1 hterm0 hterm1 hcnt
          clear hget hg hcn hq
          have hbx : Below wr.heap.size wr (wr.alloc (.cells #[.int .i64 r.f0.op, .int .i64 r.f0.num, .slice A0 r.f0.perm.length c0, .slice B0 r.f0.kids.length d0, .int .i64 r.f1.op, .int .i64 r.f1.num, .slice A1 r.f1.perm.length c1, .slice B1 r.f1.kids.length d1] 125)) := (Below.refl _ _).alloc (Nat.le_refl _) _
          have hk1 := heap_alloc_new wr (.cells #[.int .i64 r.f0.op, .int .i64 r.f0.num, .slice A0 r.f0.perm.length c0, .slice B0 r.f0.kids.length d0, .int .i64 r.f1.op, .int .i64 r.f1.num, .slice A1 r.f1.perm.length c1, .slice B1 r.f1.kids.length d1] 125)
          have hbW := hb.trans (hbx.mono hb.size)
          have hi0 := isTerm_impl r.f0 _ _ (ht0.below hbx) (fit_of _ (by unfold cntREquation at hcnt; omega))
          rw [hterm0] at hi0
          have m0 : (wr.alloc (.cells #[.int .i64 r.f0.op, .int .i64 r.f0.num, .slice A0 r.f0.perm.length c0, .slice B0 r.f0.kids.length d0, .int .i64 r.f1.op, .int .i64 r.f1.num, .slice A1 r.f1.perm.length c1, .slice B1 r.f1.kids.length d1] 125)).cell? ⟨wr.heap.size, 0, none⟩ = some (.int .i64 r.f0.op) := by rw [cell_of_row _ _ 0 _ _ _ hk1]; rfl
          have m1 : (wr.alloc (.cells #[.int .i64 r.f0.op, .int .i64 r.f0.num, .slice A0 r.f0.perm.length c0, .slice B0 r.f0.kids.length d0, .int .i64 r.f1.op, .int .i64 r.f1.num, .slice A1 r.f1.perm.length c1, .slice B1 r.f1.kids.length d1] 125)).cell? ⟨wr.heap.size, 1, none⟩ = some (.int .i64 r.f0.num) := by rw [cell_of_row _ _ 1 _ _ _ hk1]; rfl
          have m2 : (wr.alloc (.cells #[.int .i64 r.f0.op, .int .i64 r.f0.num, .slice A0 r.f0.perm.length c0, .slice B0 r.f0.kids.length d0, .int .i64 r.f1.op, .int .i64 r.f1.num, .slice A1 r.f1.perm.length c1, .slice B1 r.f1.kids.length d1] 125)).cell? ⟨wr.heap.size, 2, none⟩ = some (.slice A0 r.f0.perm.length c0) := by rw [cell_of_row _ _ 2 _ _ _ hk1]; rfl
          have m3 : (wr.alloc (.cells #[.int .i64 r.f0.op, .int .i64 r.f0.num, .slice A0 r.f0.perm.length c0, .slice B0 r.f0.kids.length d0, .int .i64 r.f1.op, .int .i64 r.f1.num, .slice A1 r.f1.perm.length c1, .slice B1 r.f1.kids.length d1] 125)).cell? ⟨wr.heap.size, 3, none⟩ = some (.slice B0 r.f0.kids.length d0) := by rw [cell_of_row _ _ 3 _ _ _ hk1]; rfl
          have m4 : (wr.alloc (.cells #[.int .i64 r.f0.op, .int .i64 r.f0.num, .slice A0 r.f0.perm.length c0, .slice B0 r.f0.kids.length d0, .int .i64 r.f1.op, .int .i64 r.f1.num, .slice A1 r.f1.perm.length c1, .slice B1 r.f1.kids.length d1] 125)).cell? ⟨wr.heap.size, 4, none⟩ = some (.int .i64 r.f1.op) := by rw [cell_of_row _ _ 4 _ _ _ hk1]; rfl
          have m5 : (wr.alloc (.cells #[.int .i64 r.f0.op, .int .i64 r.f0.num, .slice A0 r.f0.perm.length c0, .slice B0 r.f0.kids.length d0, .int .i64 r.f1.op, .int .i64 r.f1.num, .slice A1 r.f1.perm.length c1, .slice B1 r.f1.kids.length d1] 125)).cell? ⟨wr.heap.size, 5, none⟩ = some (.int .i64 r.f1.num) := by rw [cell_of_row _ _ 5 _ _ _ hk1]; rfl
          have m6 : (wr.alloc (.cells #[.int .i64 r.f0.op, .int .i64 r.f0.num, .slice A0 r.f0.perm.length c0, .slice B0 r.f0.kids.length d0, .int .i64 r.f1.op, .int .i64 r.f1.num, .slice A1 r.f1.perm.length c1, .slice B1 r.f1.kids.length d1] 125)).cell? ⟨wr.heap.size, 6, none⟩ = some (.slice A1 r.f1.perm.length c1) := by rw [cell_of_row _ _ 6 _ _ _ hk1]; rfl
          have m7 : (wr.alloc (.cells #[.int .i64 r.f0.op, .int .i64 r.f0.num, .slice A0 r.f0.perm.length c0, .slice B0 r.f0.kids.length d0, .int .i64 r.f1.op, .int .i64 r.f1.num, .slice A1 r.f1.perm.length c1, .slice B1 r.f1.kids.length d1] 125)).cell? ⟨wr.heap.size, 7, none⟩ = some (.slice B1 r.f1.kids.length d1) := by rw [cell_of_row _ _ 7 _ _ _ hk1]; rfl
          go_wp2_with fail
          refine hi0.mono ?_
          rintro e w2 ⟨rfl, hb2⟩
          have hb3 := hbW.trans (hb2.mono hbW.size)
          have hk2 := (hb2.block wr.heap.size (by rw [World.size_alloc]; exact Nat.lt_succ_self _)).trans hk1
          have hi1 := isTerm_impl r.f1 _ w2 ((ht1.below hbx).below hb2) (fit_of _ (by unfold cntREquation at hcnt; omega))
          rw [hterm1] at hi1
          have n0 : w2.cell? ⟨wr.heap.size, 0, none⟩ = some (.int .i64 r.f0.op) := by rw [cell_of_row _ _ 0 _ _ _ hk2]; rfl
          have n1 : w2.cell? ⟨wr.heap.size, 1, none⟩ = some (.int .i64 r.f0.num) := by rw [cell_of_row _ _ 1 _ _ _ hk2]; rfl
          have n2 : w2.cell? ⟨wr.heap.size, 2, none⟩ = some (.slice A0 r.f0.perm.length c0) := by rw [cell_of_row _ _ 2 _ _ _ hk2]; rfl
          have n3 : w2.cell? ⟨wr.heap.size, 3, none⟩ = some (.slice B0 r.f0.kids.length d0) := by rw [cell_of_row _ _ 3 _ _ _ hk2]; rfl
          have n4 : w2.cell? ⟨wr.heap.size, 4, none⟩ = some (.int .i64 r.f1.op) := by rw [cell_of_row _ _ 4 _ _ _ hk2]; rfl
          have n5 : w2.cell? ⟨wr.heap.size, 5, none⟩ = some (.int .i64 r.f1.num) := by rw [cell_of_row _ _ 5 _ _ _ hk2]; rfl
          have n6 : w2.cell? ⟨wr.heap.size, 6, none⟩ = some (.slice A1 r.f1.perm.length c1) := by rw [cell_of_row _ _ 6 _ _ _ hk2]; rfl
          have n7 : w2.cell? ⟨wr.heap.size, 7, none⟩ = some (.slice B1 r.f1.kids.length d1) := by rw [cell_of_row _ _ 7 _ _ _ hk2]; rfl
          clear hi0 hbx hbW hk1 hk2 hb2 ht0 ht1 e0 e1 e2 e3 e4 e5 e6 e7 m0 m1 m2 m3 m4 m5 m6 m7 hb hcnt
          go_wp2_with fail
          refine hi1.mono ?_
          rintro e w3 ⟨rfl, hb4⟩
          have hb5 := hb3.trans (hb4.mono hb3.size)
          clear hi1 n0 n1 n2 n3 n4 n5 n6 n7 hb3 hb4
          go_wp2
          refine ⟨⟨k + 1, by omega, by go_num, hn, hb5⟩, ?_⟩
          simp only [intOf]
          omega
    · have e : k = rs.length := by omega
      have hr : Hid (eqAll rs = true) := eqAll_yes (fun j hj => hq.out j (by omega))
      have hpost : BoolPost (probB rs) w (.returned (.bool true)) wr := ⟨by unfold probB; rw [hr.out, Bool.true_and, decide_eq_true (show rs.length ≤ 8 by omega)], hb⟩
      clear hg hcn hr hb
      go_wp2
      go_ret
      exact hpost

end Go.Proofs.YtbfkfklaplgebaaGreat
