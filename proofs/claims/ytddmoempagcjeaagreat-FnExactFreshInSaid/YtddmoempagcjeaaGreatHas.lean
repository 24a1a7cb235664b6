/-
  Whether a list has a number: in the model, as a contract.
-/
import Derived.Test.YtddmoempagcjeaaGreatOrder
import Derived.Test.YtddmoempagcjeaaGreatInts
namespace Go.Proofs.YtddmoempagcjeaaGreat
open Go.RowKit Go.Sort

/-- Whether a list has a number. -/
def hasB (l : List Int) (a : Int) : Bool := l.contains a

set_option maxHeartbeats 400000 in
theorem l1Has_any (A : Option Addr) (c : Nat) (l : List Int) (a : Int) (w : World) (hA : IntsAt w A l) (hl : l.length ≤ 1099511627776) :
    Calls Tryz.prog 87 #[.slice A l.length c, .int .i64 a] w fun e w' => e = .returned (.bool (hasB l a)) ∧ w = w' := by
  go_enter Tryz.func87, Tryz.ntmps87
  go_wp2
  go_loop [5] (fun i => ∃ k : Nat, k ≤ l.length ∧ i = .int .i64 k ∧ Hid (∀ j, j < k → itAt l j ≠ a)) (fun i => l.length - (intOf i).toNat)
  case atStart => exact ⟨0, Nat.zero_le _, rfl, fun j hj => absurd hj (by omega)⟩
  case round =>
    obtain ⟨k, hk, rfl, hq⟩ := hrel
    by_cases hlt : k < l.length
    · obtain ⟨b1, o1, rfl, hb1, hc1⟩ := hA (by omega)
      have c1 := hc1 k hlt
      clear hc1 hA
      by_cases he : (itAt l k == a) = true
      · have hres : Hid (hasB l a = true) := by
          show hasB l a = true
          unfold hasB
          rw [List.contains_iff_mem]
          have e : itAt l k = a := by simpa using he
          rw [← e, itAt_get l k hlt]
          exact List.getElem_mem hlt
        generalize itAt l k = x at c1 he
        clear hq
        go_wp2
        go_ret
        exact ⟨bool_end hres.out.symm, rfl⟩
      · have he' : (itAt l k == a) = false := by simpa using he
        have hn : Hid (∀ j, j < k + 1 → itAt l j ≠ a) := by
          intro j hj
          by_cases e : j = k
          · rw [e]; simpa using he'
          · exact hq.out j (by omega)
        generalize itAt l k = x at c1 he he'
        clear hq he
        go_wp2
        go_round
        case rel => exact ⟨k + 1, by omega, by go_num, hn⟩
        case measure => simp [intOf]; omega
    · have hres : Hid (hasB l a = false) := by
        show hasB l a = false
        unfold hasB
        rw [← Bool.not_eq_true, List.contains_iff_mem]
        intro hmem
        obtain ⟨j, hj, e⟩ := List.getElem_of_mem hmem
        exact hq.out j (by omega) (by rw [itAt_get l j hj]; exact e)
      clear hq hA
      go_wp2
      go_ret
      exact ⟨bool_end hres.out.symm, rfl⟩

end Go.Proofs.YtddmoempagcjeaaGreat
