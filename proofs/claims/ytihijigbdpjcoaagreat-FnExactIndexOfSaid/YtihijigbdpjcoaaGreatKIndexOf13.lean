/-
  Constants, tuples and patterns in the program, as contracts.
-/
import Derived.Test.YtihijigbdpjcoaaGreatKIndexOf3
import Derived.BigQuiet
import Derived.WalkSpells
import Derived.Lib.QuietBelow
import Derived.Deep.AppendLies
namespace Go.Proofs.YtihijigbdpjcoaaGreat
open Go.RowKit Go.Sort
set_option linter.unusedVariables false

/-- Two values do not own one block. -/
def Apart (v u : Value) : Prop := ∀ k, v.ownBlock = some k → u.ownBlock ≠ some k
theorem Apart.symm {v u : Value} (h : Apart v u) : Apart u v := fun k h1 h2 => h k h2 h1

/-- The place that slices.Index tells. -/
def idxI (l : List Int) (a : Int) : Int := if hasB l a then ((l.idxOf a : Nat) : Int) else -1
theorem idxI_in {l : List Int} {a : Int} (h : hasB l a = true) : idxI l a = ((l.idxOf a : Nat) : Int) := by simp [idxI, h]
theorem idxI_out {l : List Int} {a : Int} (h : hasB l a = false) : idxI l a = -1 := by simp [idxI, h]

set_option maxRecDepth 100000 in
set_option maxHeartbeats 1000000 in
theorem indexOf_any (A : Option Addr) (c : Nat) (l : List Int) (a : Int) (w : World) (hA : IntsAt w A l) (hl : l.length ≤ 1099511627776) :
    Calls Tryz.prog 75 #[.slice A l.length c, .int .i64 a] w fun e w' => e = .returned (.int .i64 (idxI l a)) ∧ w = w' := by
  go_enter Tryz.func75, Tryz.ntmps75
  go_wp2
  go_loop [5, 8] (fun _ i => ∃ k : Nat, k ≤ l.length ∧ i = .int .i64 k ∧ Hid (∀ j, j < k → itAt l j ≠ a)) (fun _ i => l.length - (intOf i).toNat)
  case atStart => exact ⟨0, Nat.zero_le _, rfl, fun j hj => absurd hj (by omega)⟩
  case round =>
    obtain ⟨k, hk, rfl, hq⟩ := hrel
    by_cases hlt : k < l.length
    · obtain ⟨b1, o1, rfl, hb1, hc1⟩ := hA (by omega)
      have c1 := hc1 k hlt
      clear hc1 hA
      by_cases he : (a == itAt l k) = true
      · have hres : Hid (idxI l a = (k : Int)) := by
          have e : itAt l k = a := by simpa using (show a = itAt l k by simpa using he).symm
          obtain ⟨h1, h2⟩ := idx_first hlt e hq.out
          show idxI l a = (k : Int)
          rw [idxI_in h2, h1]
        generalize itAt l k = x at c1 he
        clear hq
        go_wp2
        go_ret
        exact ⟨int_end hres.out.symm, rfl⟩
      · have he' : (a == itAt l k) = false := by simpa using he
        have hn : Hid (∀ j, j < k + 1 → itAt l j ≠ a) := by
          intro j hj
          by_cases e : j = k
          · rw [e]; intro e2; exact he (by simp [e2])
          · exact hq.out j (by omega)
        generalize itAt l k = x at c1 he he'
        clear hq he
        go_wp2
        go_round
        case rel => exact ⟨k + 1, by omega, by go_num, hn⟩
        case measure => simp [intOf]; omega
    · have hres : Hid (idxI l a = -1) := idxI_out (idx_none fun j hj => hq.out j (by omega))
      clear hq hA
      go_wp2
      go_ret
      exact ⟨int_end hres.out.symm, rfl⟩

end Go.Proofs.YtihijigbdpjcoaaGreat
