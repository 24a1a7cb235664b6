/-
  IncludesContext in the model, as a contract.
-/
import Derived.Test.YtbfkfklaplgebaaGreatKHoldsFor28
import Derived.Test.YtbfkfklaplgebaaGreatKHoldsFor20
import Derived.Test.YtbfkfklaplgebaaGreatKHoldsFor32
namespace Go.Proofs.YtbfkfklaplgebaaGreat
open Go.RowKit Go.Sort
set_option linter.unusedVariables false

set_option maxRecDepth 100000 in
set_option maxHeartbeats 1000000 in
theorem l3In_any (A B : Option Addr) (c d : Nat) (S l : List (Int × Int)) (w : World) (hA : PairsAt w A S) (hB : PairsAt w B l) (hS : S.length ≤ 1099511627776) (hl : l.length ≤ 1099511627776) :
    Calls Tryz.prog 75 #[.slice A S.length c, .slice B l.length d] w fun e w' => e = .returned (.bool (allIn S l)) ∧ Below w.heap.size w w' := by
  go_enter Tryz.func75, Tryz.ntmps75
  go_wp2
  go_loopw [9] (fun i wr => ∃ k : Nat, k ≤ l.length ∧ i = .int .i64 k ∧ Hid (∀ j, j < k → hasF S (prAt l j) = true) ∧ Below w.heap.size w wr) (fun i _ => l.length - (intOf i).toNat)
  case atStart => exact ⟨0, Nat.zero_le _, rfl, fun j hj => absurd hj (by omega), Below.refl _ _⟩
  case round =>
    obtain ⟨k, hk, rfl, hq, hb⟩ := hrel
    by_cases hlt : k < l.length
    · obtain ⟨b1, o1, rfl, hb1, hc1⟩ := hB (by omega)
      obtain ⟨c1, c2⟩ := hc1 k hlt
      rw [← hb.cell (p := ⟨b1, _, none⟩) hb1] at c1 c2
      have hbW : Below w.heap.size w (wr.alloc (.cells #[.int .i64 (prAt l k).1, .int .i64 (prAt l k).2] 102)) := hb.alloc hb.size _
      have hcall := l3HasF_any A c S (prAt l k) _ (hA.below hbW) hS
      have hno : Hid (hasF S (prAt l k) = false → allIn S l = false) := fun h => allIn_no hlt h
      have hyes : Hid (hasF S (prAt l k) = true → ∀ j, j < k + 1 → hasF S (prAt l j) = true) := fun h => ctx_next hq.out h
      generalize prAt l k = p1 at c1 c2 hbW hcall hno hyes
      generalize hasF S p1 = r at hcall hno hyes
      clear hc1 hB hq hA
      cases r with
      | true =>
        have hn : Hid (∀ j, j < k + 1 → hasF S (prAt l j) = true) := hyes.out rfl
        clear hno hyes
        go_wp2_with fail
        refine hcall.mono ?_
        rintro e w2 ⟨rfl, hb2⟩
        have hb3 := hbW.trans (hb2.mono hbW.size)
        clear hcall hbW hb2 c1 c2
        go_wp2
        refine ⟨⟨k + 1, by omega, by go_num, hn, hb3⟩, ?_⟩
        simp only [intOf]
        omega
      | false =>
        have hn : Hid (allIn S l = false) := hno.out rfl
        clear hno hyes
        go_wp2_with fail
        refine hcall.mono ?_
        rintro e w2 ⟨rfl, hb2⟩
        have hb3 := hbW.trans (hb2.mono hbW.size)
        clear hcall hbW hb2 c1 c2
        go_wp2
        go_ret
        exact ⟨bool_end hn.out.symm, hb3⟩
    · have hn : Hid (allIn S l = true) := allIn_yes fun j hj => hq.out j (by omega)
      clear hq hA hB
      go_wp2
      go_ret
      exact ⟨bool_end hn.out.symm, hb⟩

end Go.Proofs.YtbfkfklaplgebaaGreat
