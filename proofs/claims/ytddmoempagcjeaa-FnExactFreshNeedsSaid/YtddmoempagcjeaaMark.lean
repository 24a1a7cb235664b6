/-
  Numbering the cells of a list of pairs, and looking whether they are still numbered so, as contracts.
-/
import Derived.Test.YtddmoempagcjeaaPlain
import Derived.WalkLawsBesides
import Derived.WalkSpells
namespace Go.Proofs.Ytddmoempagcjeaa
open Go.RowKit

set_option maxHeartbeats 400000 in
theorem markPairS_row (base g n cap : Nat) (xs : List Value) (k : Int) (w : World) (hown : w.ownsRow base 81 2 (.slice (some ⟨g, 0, none⟩) n cap) n xs) (hk0 : 0 ≤ k) (hk1 : k + n * 2 ≤ 9223372036854775807) (hn : n ≤ 9223372036854775807) :
    Calls Try.prog 15 #[.slice (some ⟨g, 0, none⟩) n cap, .int .i64 k] w
      fun e w' => e = .returned (.int .i64 (k + n * 2)) ∧ w'.ownsRow base 81 2 (.slice (some ⟨g, 0, none⟩) n cap) n (marked k (n * 2)) ∧ w.grownBy w' (some g) := by
  have hlen := Lib.hid hown.1
  have hm0 := markTo_zero k xs
  go_enter Try.func15, Try.ntmps15
  go_wp2
  go_loopw [1, 5] (fun kk i wr => ∃ j : Nat, j ≤ n ∧ i = .int .i64 j ∧ kk = .int .i64 (k + j * 2) ∧ wr.ownsRow base 81 2 (.slice (some ⟨g, 0, none⟩) n cap) n (markTo k (j * 2) xs) ∧ w.grownBy wr (some g)) (fun _ i _ => n - (intOf i).toNat)
  case atStart => exact ⟨0, Nat.zero_le _, rfl, by simp, by simpa [hm0] using hown, World.grownBy.refl _ _⟩
  case round =>
    obtain ⟨j, hj, rfl, rfl, ho, hg⟩ := hrel
    have hl2 : (markTo k (j * 2) xs).length = n * 2 := by rw [markTo_len]; exact hlen.out
    by_cases hlt : j < n
    · have c0 := ho.cellAt (j * 2) (by omega)
      have c1 := ho.cellAt (j * 2 + 1) (by omega)
      have f0 := ho.frozenAt (j * 2)
      have f1 := ho.frozenAt (j * 2 + 1)
      rw [markTo_at k _ xs _ (by rw [hlen.out]; omega)] at c0 c1
      obtain ⟨v0, e0⟩ : ∃ v, wr.cell? ⟨g, j * 2, none⟩ = some v := ⟨_, c0⟩
      obtain ⟨v1, e1⟩ : ∃ v, wr.cell? ⟨g, j * 2 + 1, none⟩ = some v := ⟨_, c1⟩
      clear c0 c1
      obtain ⟨ho1, hg1⟩ := ho.stored (j * 2) (.int .i64 (k + j * 2))
      obtain ⟨ho2, hg2⟩ := ho1.stored (j * 2 + 1) (.int .i64 (k + j * 2 + 1))
      have n1 : k + (j : Int) * 2 = k + (j * 2 : Nat) := by omega
      have n2 : k + (j : Int) * 2 + 1 = k + (j * 2 + 1 : Nat) := by omega
      have es : ((markTo k (j * 2) xs).set (j * 2) (.int .i64 (k + j * 2))).set (j * 2 + 1) (.int .i64 (k + j * 2 + 1)) = markTo k ((j + 1) * 2) xs := by
        rw [n2, n1, markTo_set, markTo_set]; congr 1; omega
      rw [es] at ho2
      clear es n1 n2
      have hg3 := grownBy_trans hg (grownBy_trans hg1 hg2)
      clear ho1 hg1 hg2 hg ho hl2
      go_wp2
      refine ⟨⟨j + 1, by omega, by go_num, by go_num, ho2, hg3⟩, ?_⟩
      simp [intOf]; omega
    · have ej : j = n := by omega
      subst ej
      rw [markTo_all k _ xs hlen.out] at ho
      go_wp2
      go_ret
      exact ⟨rfl, ho, hg⟩

set_option maxHeartbeats 400000 in
theorem heldPairS_row (base g n cap : Nat) (k : Int) (w : World) (hown : w.ownsRow base 81 2 (.slice (some ⟨g, 0, none⟩) n cap) n (marked k (n * 2))) (hk0 : 0 ≤ k) (hk1 : k + n * 2 ≤ 9223372036854775807) (hn : n ≤ 9223372036854775807) :
    Calls Try.prog 16 #[.slice (some ⟨g, 0, none⟩) n cap, .int .i64 k] w
      fun e w' => e = .returned (.int .i64 (k + n * 2)) ∧ w = w' := by
  go_enter Try.func16, Try.ntmps16
  go_wp2
  go_loop [1, 5] (fun kk i => ∃ j : Nat, j ≤ n ∧ i = .int .i64 j ∧ kk = .int .i64 (k + j * 2)) (fun _ i => n - (intOf i).toNat)
  case atStart => exact ⟨0, Nat.zero_le _, rfl, by simp⟩
  case round =>
    obtain ⟨j, hj, rfl, rfl⟩ := hrel
    by_cases hlt : j < n
    · have c0 := hown.cellAt (j * 2) (by omega)
      have c1 := hown.cellAt (j * 2 + 1) (by omega)
      rw [marked_at k _ _ (by omega)] at c0 c1
      have n1 : k + (j * 2 : Nat) = k + (j : Int) * 2 := by omega
      have n2 : k + (j * 2 + 1 : Nat) = k + (j : Int) * 2 + 1 := by omega
      rw [n1] at c0
      rw [n2] at c1
      clear n1 n2 hown
      have t0 : (k + (j : Int) * 2 != k + (j : Int) * 2) = false := by simp
      have t1 : (k + (j : Int) * 2 + 1 != k + (j : Int) * 2 + 1) = false := by simp
      go_wp2
      go_round
      case rel => exact ⟨j + 1, by omega, by go_num, by go_num⟩
      case measure => simp [intOf]; omega
    · have ej : j = n := by omega
      subst ej
      clear hown
      go_wp2
      go_ret
      exact ⟨rfl, rfl⟩

theorem markPairS_none (k : Int) (w : World) :
    Calls Try.prog 15 #[.slice none 0 0, .int .i64 k] w fun e w' => e = .returned (.int .i64 k) ∧ w = w' := by
  go_enter Try.func15, Try.ntmps15
  go_wp2
  go_loop [1, 5] (fun kk i => kk = .int .i64 k ∧ i = .int .i64 0) (fun _ _ => 0)
  case atStart => exact ⟨rfl, rfl⟩
  case round =>
    obtain ⟨rfl, rfl⟩ := hrel
    go_wp2
    go_ret
    exact ⟨rfl, rfl⟩

theorem heldPairS_none (k : Int) (w : World) :
    Calls Try.prog 16 #[.slice none 0 0, .int .i64 k] w fun e w' => e = .returned (.int .i64 k) ∧ w = w' := by
  go_enter Try.func16, Try.ntmps16
  go_wp2
  go_loop [1, 5] (fun kk i => kk = .int .i64 k ∧ i = .int .i64 0) (fun _ _ => 0)
  case atStart => exact ⟨rfl, rfl⟩
  case round =>
    obtain ⟨rfl, rfl⟩ := hrel
    go_wp2
    go_ret
    exact ⟨rfl, rfl⟩

/-- Both, for whatever slice of the call's own. -/
theorem markPairS_own (base n : Nat) (v : Value) (xs : List Value) (k : Int) (w : World) (hown : w.ownsRow base 81 2 v n xs) (hk0 : 0 ≤ k) (hk1 : k + n * 2 ≤ 9223372036854775807) :
    Calls Try.prog 15 #[v, .int .i64 k] w
      fun e w' => e = .returned (.int .i64 (k + n * 2)) ∧ w'.ownsRow base 81 2 v n (marked k (n * 2)) ∧ w.grownBy w' v.ownBlock := by
  rcases hown.2 with ⟨rfl, rfl⟩ | ⟨g, cap, cur, rfl, _⟩
  · refine (markPairS_none k w).mono ?_
    rintro e w' ⟨rfl, rfl⟩
    exact ⟨int_end (by simp), by simpa [marked] using World.ownsRow_nil w base _ 2, World.grownBy.refl _ _⟩
  · exact markPairS_row base g n cap xs k w hown hk0 hk1 (by omega)

theorem heldPairS_own (base n : Nat) (v : Value) (k : Int) (w : World) (hown : w.ownsRow base 81 2 v n (marked k (n * 2))) (hk0 : 0 ≤ k) (hk1 : k + n * 2 ≤ 9223372036854775807) :
    Calls Try.prog 16 #[v, .int .i64 k] w
      fun e w' => e = .returned (.int .i64 (k + n * 2)) ∧ w = w' := by
  rcases hown.2 with ⟨rfl, rfl⟩ | ⟨g, cap, cur, rfl, _⟩
  · refine (heldPairS_none k w).mono ?_
    rintro e w' ⟨rfl, rfl⟩
    exact ⟨int_end (by simp), rfl⟩
  · exact heldPairS_row base g n cap k w hown hk0 hk1 (by omega)
end Go.Proofs.Ytddmoempagcjeaa
