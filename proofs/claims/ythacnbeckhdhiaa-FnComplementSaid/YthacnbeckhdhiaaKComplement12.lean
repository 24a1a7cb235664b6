/-
  Orbit sets in the program: whether they are valid, as contracts. HasTuple in the program, as a contract.
-/
import Derived.Test.YthacnbeckhdhiaaKComplement6
import Derived.Test.YthacnbeckhdhiaaKComplement2
import Derived.Test.YthacnbeckhdhiaaKComplement10
section
namespace Go.Proofs.Ythacnbeckhdhiaa
open Go.RowKit Go.Sort
set_option linter.unusedVariables false

set_option maxRecDepth 100000 in
set_option maxHeartbeats 1000000 in
theorem newNumber_any (A : Option Addr) (c : Nat) (p : List Int) (k : Int) (w : World) (hA : IntsAt w A p) (hl : p.length ≤ 1099511627776) (h0 : 0 ≤ k) (h1 : k ≤ 1000000) (hb : ∀ i, i < p.length → 0 ≤ itAt p i ∧ itAt p i < 1000000) :
    Calls Try.prog 29 #[.slice A p.length c, .int .i64 k] w fun e w' => e = .returned (.int .i64 (newN k p)) ∧ w = w' := by
  go_enter Try.func29, Try.ntmps29
  go_wp2
  go_loop [5, 7, 11] (fun m _ i => ∃ j : Nat, j ≤ p.length ∧ i = .int .i64 j ∧ m = .int .i64 (newN k (p.take j))) (fun _ _ i => p.length - (intOf i).toNat)
  case atStart => exact ⟨0, Nat.zero_le _, rfl, rfl⟩
  case round =>
    obtain ⟨j, hj, rfl, rfl⟩ := hrel
    by_cases hlt : j < p.length
    · obtain ⟨b1, o1, rfl, hb1, hc1⟩ := hA (by omega)
      have c1 := hc1 j hlt
      have hnx := Lib.hid (newN_next (k := k) hlt)
      obtain ⟨hy0, hy⟩ := hb j hlt
      have hg := newN_ge k (p.take j)
      have hB := newN_bound (k := k) (B := 1000000) (p := p.take j) h1 (fun i hi => by
        rw [List.length_take] at hi
        have h5 := (hb i (by omega)).2
        rwa [show itAt (p.take j) i = itAt p i by simp [itAt, show i < j by omega]])
      generalize itAt p j = y at c1 hnx hy hy0
      generalize newN k (p.take j) = m at hnx hg hB
      clear hc1 hA hb
      by_cases hle : m < y + 1
      · have hm : Hid (newN k (p.take (j + 1)) = y + 1) := Lib.hid (by rw [hnx.out]; omega)
        clear hnx
        go_wp2
        go_round
        case rel => exact ⟨j + 1, by omega, by go_num, by rw [hm.out]; try (simp [hle]; done)⟩
        case measure => simp [intOf]; omega
      · have hm : Hid (newN k (p.take (j + 1)) = m) := Lib.hid (by rw [hnx.out]; omega)
        clear hnx
        go_wp2
        go_round
        case rel => exact ⟨j + 1, by omega, by go_num, by rw [hm.out]; try (simp [hle]; done)⟩
        case measure => simp [intOf]; omega
    · have e : j = p.length := by omega
      subst e
      clear hA hb
      go_wp2
      go_ret
      first | exact ⟨rfl, rfl⟩ | exact ⟨by rw [List.take_length], rfl⟩

end Go.Proofs.Ythacnbeckhdhiaa
end

section
namespace Go.Proofs.Ythacnbeckhdhiaa
open Go.RowKit Go.Sort
set_option linter.unusedVariables false

end Go.Proofs.Ythacnbeckhdhiaa
end

