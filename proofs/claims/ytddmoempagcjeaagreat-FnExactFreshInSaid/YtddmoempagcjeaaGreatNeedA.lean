/-
  The elements of a list are added to a set: a contract.
-/
import Derived.Test.YtddmoempagcjeaaGreatNeed
namespace Go.Proofs.YtddmoempagcjeaaGreat
open Go.RowKit Go.Sort Go.ChangeShapes Go.WideShapes Go.WideMaps Go.Maps
set_option linter.unusedVariables false

theorem take_snoc (l : List (Int × Int)) (k : Nat) (h : k < l.length) : l.take (k + 1) = l.take k ++ [prAt l k] := by
  rw [List.take_succ_eq_append_getElem h]
  simp [prAt, h]

set_option maxRecDepth 100000 in
set_option maxHeartbeats 1000000 in
/-- The elements of a list are added to a set. -/
theorem addAll_any (A : Option Addr) (c b n : Nat) (l S : List (Int × Int)) (w : World) (hA : PairsAt w A l) (hs : SetAt w b n S) (hok : ∀ i, i < l.length → okF (prAt l i)) (hn : n + l.length ≤ 1099511627776) :
    Calls Tryz.prog 68 #[.map (some b), .slice A l.length c] w fun e w' => e = .returned (.tuple #[]) ∧ SetAt w' b (n + l.length) (S ++ l) ∧ w.grownBy w' (some b) := by
  have hg0 : w.grownBy w (some b) := grown_of_below (Below.refl _ _) _
  go_enter Tryz.func68, Tryz.ntmps68
  go_wp2
  go_loopw [8] (fun i wr => ∃ k : Nat, k ≤ l.length ∧ i = .int .i64 k ∧ SetAt wr b (n + k) (S ++ l.take k) ∧ w.grownBy wr (some b)) (fun i _ => l.length - (intOf i).toNat)
  case atStart => exact ⟨0, Nat.zero_le _, rfl, by simpa using hs, hg0⟩
  case round =>
    obtain ⟨k, hk, rfl, hsk, hg⟩ := hrel
    by_cases hlt : k < l.length
    · obtain ⟨b1, o1, rfl, hb1, hc1⟩ := hA (by omega)
      obtain ⟨c1, c2⟩ := hc1 k hlt
      have hne := hs.noCell c1
      have d1 := hg.cell c1 (fun e => hne (by injection e))
      have d2 := hg.cell c2 (fun e => hne (by injection e))
      have hokk := hok k hlt
      have hts := Lib.hid (take_snoc l k hlt)
      have hsa := hsk.alloc (.cells #[.int .i64 (prAt l k).1, .int .i64 (prAt l k).2] 55)
      have hga : wr.grownBy (wr.alloc (.cells #[.int .i64 (prAt l k).1, .int .i64 (prAt l k).2] 55)) (some b) := World.grownBy_alloc wr _ _
      have hn2 : n + k < maxLen := by unfold maxLen; omega
      clear hc1 hA hs hsk c1 c2 hg0 hok
      go_wp2_with (at_mapUpdate; refine wpList_mapUpdate_set _ rfl _ _ _ 65 rfl Tryz.underlying65 b (n + k) (S ++ l.take k) rfl hsa hn2 (prAt l k) rfl hokk rfl ?_)
      intro w2 hs2 hg2
      have hs3 : SetAt w2 b (n + (k + 1)) (S ++ l.take (k + 1)) := by
        rw [hts.out]
        exact hs2
      have hg3 : w.grownBy w2 (some b) := grownBy_trans hg (grownBy_trans hga hg2)
      clear hs2 hg2 hga hsa hg d1 d2
      go_wp2
      refine ⟨⟨k + 1, by omega, by go_num, hs3, hg3⟩, ?_⟩
      simp only [intOf]
      omega
    · have e : k = l.length := by omega
      have hfin : SetAt wr b (n + l.length) (S ++ l) := by
        rw [← List.take_of_length_le (show l.length ≤ k by omega)]
        rw [e] at hsk ⊢
        simpa using hsk
      clear hsk hs hA
      go_wp2
      go_end0
      exact ⟨rfl, hfin, hg⟩

end Go.Proofs.YtddmoempagcjeaaGreat
