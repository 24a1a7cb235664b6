/-
  Swapping two atoms: the program's function and the model's, as contracts.
-/
import Derived.Test.YtcginiklekdbgaaKRun2
import Derived.WalkLawsBesides
import Derived.WalkSpells
import Derived.BigQuiet
namespace Go.Proofs.Ytcginiklekdbgaa
open Go.RowKit

/-- The pairs of a swap. -/
def swapL (a b : Int) : List (Int × Int) := if a = b ∨ a < 0 ∨ 999 < a ∨ b < 0 ∨ 999 < b then [] else if a < b then [(a, b), (b, a)] else [(b, a), (a, b)]

theorem swapL_none {a b : Int} (h : a = b ∨ a < 0 ∨ 999 < a ∨ b < 0 ∨ 999 < b) : swapL a b = [] := by rw [swapL, if_pos h]
theorem swapL_up {a b : Int} (h1 : 0 ≤ a) (h2 : b ≤ 999) (h3 : a < b) : swapL a b = [(a, b), (b, a)] := by
  rw [swapL, if_neg (by omega), if_pos h3]
theorem swapL_down {a b : Int} (h1 : 0 ≤ b) (h2 : a ≤ 999) (h3 : b < a) : swapL a b = [(b, a), (a, b)] := by
  rw [swapL, if_neg (by omega), if_neg (by omega)]

set_option maxHeartbeats 400000 in
theorem swapOf_spec (a b : Int) (w : World) :
    Calls Try.prog 39 #[.int .i64 a, .int .i64 b] w (NewPairs (swapL a b) w) := by
  have hcase : a < 0 ∨ 999 < a ∨ (0 ≤ a ∧ a ≤ 999 ∧ b < 0) ∨ (0 ≤ a ∧ a ≤ 999 ∧ 999 < b) ∨ (0 ≤ a ∧ a ≤ 999 ∧ a = b) ∨ (0 ≤ a ∧ b ≤ 999 ∧ a < b) ∨ (0 ≤ b ∧ a ≤ 999 ∧ b < a) := by omega
  have hempty := newPairs_nil w
  rcases hcase with h1 | h1 | ⟨h1, h2, h3⟩ | ⟨h1, h2, h3⟩ | ⟨h1, h2, rfl⟩ | ⟨h1, h2, h3⟩ | ⟨h1, h2, h3⟩
  · rw [swapL_none (by omega)]
    go_enter Try.func39, Try.ntmps39
    go_wp2
    go_ret
    exact hempty
  · rw [swapL_none (by omega)]
    have k1 : 0 ≤ a := by omega
    have k2 : decide (a ≤ 999) = false := by simp; omega
    go_enter Try.func39, Try.ntmps39
    go_wp2
    go_ret
    exact hempty
  · rw [swapL_none (by omega)]
    go_enter Try.func39, Try.ntmps39
    go_wp2
    go_ret
    exact hempty
  · rw [swapL_none (by omega)]
    have k1 : 0 ≤ b := by omega
    have k2 : decide (b ≤ 999) = false := by simp; omega
    go_enter Try.func39, Try.ntmps39
    go_wp2
    go_ret
    exact hempty
  · rw [swapL_none (by omega)]
    have k0 : (a == a) = true := by simp
    go_enter Try.func39, Try.ntmps39
    go_wp2
    go_ret
    exact hempty
  · rw [swapL_up h1 h2 h3]
    have k0 : (a == b) = false := by simp; omega
    have k1 : a ≤ 999 := by omega
    have k2 : 0 ≤ b := by omega
    have hpost := newPairs_lit [(a, b), (b, a)] 2 #[.int .i64 a, .int .i64 b, .int .i64 b, .int .i64 a] w rfl (by decide) rfl rfl
    go_enter Try.func39, Try.ntmps39
    go_wp2
    go_ret
    exact hpost
  · rw [swapL_down h1 h2 h3]
    have k0 : (a == b) = false := by simp; omega
    have k1 : b ≤ 999 := by omega
    have k2 : 0 ≤ a := by omega
    have hpost := newPairs_lit [(b, a), (a, b)] 2 #[.int .i64 b, .int .i64 a, .int .i64 a, .int .i64 b] w rfl (by decide) rfl rfl
    go_enter Try.func39, Try.ntmps39
    go_wp2
    go_ret
    exact hpost
end Go.Proofs.Ytcginiklekdbgaa
