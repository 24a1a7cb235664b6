/-
  Rows of terms that a call makes by appending; a copy of pairs: plain words and a contract. Pairs that are put behind a row of the call's own, wherever they lie, also where there are none: as laws for the walk. The free atoms of a form, in the program, as contracts. The free atoms of a term, in the program, as a contract. Whether an atom is fresh for a ground term: in the program and in the model, as contracts.
-/
import Derived.Test.YtnomidnjglbedaaKAreRules10
import Derived.Test.YtnomidnjglbedaaKAreRules4
import Derived.Test.YtnomidnjglbedaaKAreRules3
import Derived.Test.YtnomidnjglbedaaKAreRules12
import Derived.Test.YtnomidnjglbedaaKAreRules11
import Derived.Lib.SliceRun
import Derived.Laws.AppendOwnNone
import Derived.Test.YtnomidnjglbedaaKAreRules9
import Derived.Test.YtnomidnjglbedaaKAreRules5
section
namespace Go.Proofs.Ytnomidnjglbedaa
section
open Go.RowKit Go.Sort
set_option linter.unusedVariables false

end

section
open Go.RowKit Go.Sort
set_option linter.unusedVariables false

end
end Go.Proofs.Ytnomidnjglbedaa
end

section
namespace Go.Proofs.Ytnomidnjglbedaa
open Go.RowKit Go.Sort Go.Shelf
set_option linter.unusedVariables false

end Go.Proofs.Ytnomidnjglbedaa
end

section
namespace Go.Proofs.Ytnomidnjglbedaa
open Go.RowKit Go.Sort
set_option linter.unusedVariables false

end Go.Proofs.Ytnomidnjglbedaa
end

section
namespace Go.Proofs.Ytnomidnjglbedaa
open Go.RowKit Go.Sort
set_option linter.unusedVariables false

set_option maxHeartbeats 800000 in
theorem index_any (A : Option Addr) (c : Nat) (l : List Int) (a : Int) (w : World) (hA : IntsAt w A l) (hl : l.length ≤ 1099511627776) :
    Calls Try.prog 142 #[.slice A l.length c, .int .i64 a] w fun e w' => ∃ r : Int, e = .returned (.int .i64 r) ∧ decide (0 ≤ r) = hasB l a ∧ w = w' := by
  go_enter Try.func142, Try.ntmps142
  go_wp2
  go_loop [8] (fun i => ∃ k : Nat, k ≤ l.length ∧ i = .int .i64 k ∧ Hid (∀ j, j < k → itAt l j ≠ a)) (fun i => l.length - (intOf i).toNat)
  case atStart => exact ⟨0, Nat.zero_le _, rfl, Lib.hid (fun j hj => by omega)⟩
  case round =>
    obtain ⟨k, hk, rfl, hq⟩ := hrel
    by_cases hlt : k < l.length
    · obtain ⟨b1, o1, rfl, hb1, hc1⟩ := hA (by omega)
      have c1 := hc1 k hlt
      clear hc1 hA
      by_cases he : itAt l k = a
      · have hres : Hid (decide (0 ≤ (k : Int)) = hasB l a) := by
          show decide (0 ≤ (k : Int)) = hasB l a
          rw [decide_eq_true (by omega)]
          symm
          unfold hasB
          rw [List.contains_iff_mem, ← he, itAt_get l k hlt]
          exact List.getElem_mem hlt
        have q1 : (a == itAt l k) = true := by simp [he]
        generalize itAt l k = x at c1 q1
        clear hq he
        go_wp2
        go_ret
        exact ⟨k, rfl, hres.out, rfl⟩
      · have q1 : (a == itAt l k) = false := by simp; exact fun e => he e.symm
        have hn : Hid (∀ j, j < k + 1 → itAt l j ≠ a) := by
          intro j hj
          by_cases e : j = k
          · rw [e]; exact he
          · exact hq.out j (by omega)
        generalize itAt l k = x at c1 q1
        clear hq he
        go_wp2
        go_round
        case rel => exact ⟨k + 1, by omega, by go_num, hn⟩
        case measure => simp [intOf]; omega
    · have hres : Hid (decide (0 ≤ (-1 : Int)) = hasB l a) := by
        show decide (0 ≤ (-1 : Int)) = hasB l a
        rw [decide_eq_false (by omega)]
        symm
        unfold hasB
        rw [← Bool.not_eq_true, List.contains_iff_mem]
        intro hmem
        obtain ⟨j, hj, e⟩ := List.getElem_of_mem hmem
        exact hq.out j (by omega) (by rw [itAt_get l j hj]; exact e)
      clear hq hA
      go_wp2
      go_ret
      exact ⟨-1, rfl, hres.out, rfl⟩

theorem contains_any (A : Option Addr) (c : Nat) (l : List Int) (a : Int) (w : World) (hA : IntsAt w A l) (hl : l.length ≤ 1099511627776) :
    Calls Try.prog 124 #[.slice A l.length c, .int .i64 a] w fun e w' => e = .returned (.bool (hasB l a)) ∧ w = w' := by
  have hix := index_any A c l a w hA hl
  go_enter Try.func124, Try.ntmps124
  go_wp2_with fail
  refine hix.mono ?_
  rintro e w' ⟨r, rfl, hr, rfl⟩
  have HR := Lib.hid hr
  clear hr hix
  by_cases h0 : 0 ≤ r
  · have hq : hasB l a = true := by rw [← HR.out]; simp [h0]
    have HQ := Lib.hid hq
    clear hq HR
    go_wp2
    go_ret
    exact ⟨bool_end HQ.out.symm, rfl⟩
  · go_wp2
    go_ret
    exact ⟨bool_end HR.out, rfl⟩

end Go.Proofs.Ytnomidnjglbedaa
end

