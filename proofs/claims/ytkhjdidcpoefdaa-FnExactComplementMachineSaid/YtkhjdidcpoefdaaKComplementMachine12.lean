/-
  Whether a machine is valid, as the model decides it: a contract.
-/
import Derived.Test.YtkhjdidcpoefdaaKComplementMachine10
namespace Go.Proofs.Ytkhjdidcpoefdaa
open Go.RowKit Go.Sort
set_option linter.unusedVariables false

theorem inR_is (a lo hi : Int) (b : Bool) (h : b = decide (lo ≤ a ∧ a ≤ hi)) (w : World) :
    Calls Try.prog 53 #[.int .i64 a, .int .i64 lo, .int .i64 hi] w fun e w' => e = .returned (.bool b) ∧ w = w' := by
  by_cases h1 : lo ≤ a
  · by_cases h2 : a ≤ hi
    · have hb : Hid (b = true) := by rw [h]; show decide _ = true; simp [h1, h2]
      clear h
      go_enter Try.func53, Try.ntmps53
      go_wp2
      go_ret
      exact ⟨bool_end hb.out.symm, rfl⟩
    · have k3 : hi < a := by omega
      have hb : Hid (b = false) := by rw [h]; show decide _ = false; simp; omega
      clear h2 h
      go_enter Try.func53, Try.ntmps53
      go_wp2
      go_ret
      exact ⟨bool_end ((decide_eq_false (by omega)).trans hb.out.symm), rfl⟩
  · have k1 : a < lo := by omega
    have hb : Hid (b = false) := by rw [h]; show decide _ = false; simp; omega
    clear h1 h
    go_enter Try.func53, Try.ntmps53
    go_wp2
    go_ret
    exact ⟨bool_end hb.out.symm, rfl⟩
theorem inR_below (a lo hi : Int) (b : Bool) (h : b = decide (lo ≤ a ∧ a ≤ hi)) (w : World) :
    Calls Try.prog 53 #[.int .i64 a, .int .i64 lo, .int .i64 hi] w fun e w' => e = .returned (.bool b) ∧ Below w.heap.size w w' :=
  (inR_is a lo hi b h w).mono fun e w' h => ⟨h.1, by rw [← h.2]; exact Below.refl _ _⟩

set_option maxRecDepth 100000 in
set_option maxHeartbeats 2000000 in
theorem l7Cases_any (st rg : Int) (x y : Value) (w : World) (h0 : 0 ≤ rg) (h3 : rg ≤ 3) :
    Calls Try.prog 54 #[.agg #[.int .i64 st, .int .i64 rg, x, y]] w fun e w' => e = .returned (.int .i64 (casZ rg)) ∧ Below w.heap.size w w' := by
  have hbW : Below w.heap.size w (w.alloc (.cells #[.int .i64 st, .int .i64 rg, x, y] 30)) := (Below.refl _ _).alloc (Nat.le_refl _) _
  have hc := Lib.hid (casZ_of h0 h3)
  go_enter Try.func54, Try.ntmps54
  go_wp2
  go_loop [3, 4] (fun n i => ∃ k : Nat, (k : Int) ≤ rg ∧ i = .int .i64 k ∧ n = .int .i64 ((2 ^ k : Nat) : Int)) (fun _ i => rg.toNat - (intOf i).toNat)
  case atStart => exact ⟨0, by omega, rfl, rfl⟩
  case round =>
    obtain ⟨k, hk, rfl, rfl⟩ := hrel
    by_cases hlt : (k : Int) < rg
    · have hp : ((2 ^ k : Nat) : Int) ≤ 8 := by
        have : k = 0 ∨ k = 1 ∨ k = 2 := by omega
        rcases this with rfl | rfl | rfl <;> decide
      have hp0 : (0 : Int) ≤ ((2 ^ k : Nat) : Int) := Int.natCast_nonneg _
      have hnx : Hid (((2 ^ (k + 1) : Nat) : Int) = 2 * ((2 ^ k : Nat) : Int)) := Lib.hid (by rw [Nat.pow_succ]; omega)
      generalize ((2 ^ k : Nat) : Int) = n at hp hp0 hnx
      go_wp2
      refine ⟨⟨k + 1, by omega, by go_num, by rw [hnx.out]⟩, ?_⟩
      simp only [intOf]
      omega
    · have e : rg.toNat = k := by omega
      have hn : Hid (((2 ^ k : Nat) : Int) = casZ rg) := Lib.hid (by unfold casZ; rw [e])
      go_wp2
      go_ret
      exact ⟨int_end hn.out, hbW⟩

end Go.Proofs.Ytkhjdidcpoefdaa
