/-
  The law's own copies of an argument: its size is counted, each pair is copied, as contracts.
-/
import Derived.Test.YtbfkfklaplgebaaGreatKFreshIn3
import Derived.WalkLawsBesides
import Derived.WalkSpells
namespace Go.Proofs.YtbfkfklaplgebaaGreat
open Go.RowKit

theorem sz_yes (A : Option Addr) (n c : Nat) (left : Int) (w : World) (hn : n ≤ 1099511627776) (h1 : left ≤ 1099511627776) (h2 : (n : Int) ≤ left) :
    Calls Tryz.prog 47 #[.slice A n c, .int .i64 left] w fun e w' => e = .returned (.int .i64 (left - n)) ∧ w = w' := by
  have k0 : ¬ left - (n : Int) < 0 := by omega
  go_enter Tryz.func47, Tryz.ntmps47
  go_wp2
  go_ret
  exact ⟨rfl, rfl⟩

theorem sz_no (A : Option Addr) (n c : Nat) (left : Int) (w : World) (hn : n ≤ 9223372036854775807) (h0 : 0 ≤ left) (h1 : left ≤ 1099511627776) (h2 : left < (n : Int)) :
    Calls Tryz.prog 47 #[.slice A n c, .int .i64 left] w fun e w' => e = .returned (.int .i64 (-1)) ∧ w = w' := by
  have k0 : left - (n : Int) < 0 := by omega
  go_enter Tryz.func47, Tryz.ntmps47
  go_wp2
  go_ret
  exact ⟨rfl, rfl⟩

theorem toPair_any (a b : Int) (w : World) :
    Calls Tryz.prog 103 #[.agg #[.int .i64 a, .int .i64 b]] w
      fun e w' => e = .returned (.agg #[.int .i64 a, .int .i64 b]) ∧ Below w.heap.size w w' := by
  go_enter Tryz.func103, Tryz.ntmps103
  go_wp2
  refine bodyPost_ret (v := .agg #[.int .i64 a, .int .i64 b]) (by simp [results, Tryz.results103, go_sem]) rfl ⟨rfl, ?_⟩
  repeat (first | exact Below.refl _ _ | refine Below.setCell ?_ (by simp) _ | refine Below.alloc ?_ (by first | exact Nat.le_refl _ | (simp; done) | (simp; omega)) _)

theorem pair_info : (Tryz.prog.info? 134).map (fun i => (i.zero, i.size, i.bytes)) = some (some (.agg #[.int .i64 0, .int .i64 0]), 2, 16) := by kernel_rfl

set_option maxHeartbeats 1000000 in
theorem toPairS_any (A : Option Addr) (c : Nat) (l : List (Int × Int)) (w : World) (hA : PairsAt w A l) (hl : l.length ≤ 1099511627776) :
    Calls Tryz.prog 51 #[.slice A l.length c] w (NewPairs l w) := by
  obtain ⟨i0, hi0, hz0, hz1, hz2⟩ := info_parts pair_info
  have HS := Lib.hid hz2
  clear hz2
  go_enter Tryz.func51, Tryz.ntmps51
  go_wp2_with (at_make; refine wpList_make_full _ rfl (.tmp 6) (.tmp 6) 28 rfl w.heap.size 134 i0 _ 2 Tryz.underlying28 hi0 hz0 hz1 .i64 .i64 _ _ l.length rfl rfl rfl rfl ?c1 ?c2 (Nat.le_refl _) ?_)
  case c1 => rw [HS.out]; omega
  case c2 => unfold maxLen; omega
  intro w1 ho hg
  have hb0 := (Below.refl w.heap.size w).grown hg (Nat.le_refl _) (fun k hk => by cases hk)
  clear hg
  generalize hz : (madeCells #[Value.int IntKind.i64 0, Value.int IntKind.i64 0] (l.length * 2)).toList = zs at ho
  have hzl : Hid (zs.length = l.length * 2) := Lib.hid ho.1
  clear hz
  have hlt0 : w.heap.size < w1.heap.size := (ho.lt w.heap.size rfl).2
  go_wp2
  go_loopw [4] (fun i wr => ∃ k : Nat, k ≤ l.length ∧ i = .int .i64 k ∧ wr.ownsRow w.heap.size 134 2 (.slice (some ⟨w.heap.size, 0, none⟩) l.length l.length) l.length (mixTo (cellsOf l) zs (k * 2)) ∧ Below w.heap.size w wr) (fun i _ => l.length - (intOf i).toNat)
  case atStart => exact ⟨0, Nat.zero_le _, rfl, by rw [Nat.zero_mul, mixTo_zero]; exact ho, hb0⟩
  case round =>
    obtain ⟨k, hk, rfl, ho1, hb⟩ := hrel
    by_cases hlt : k < l.length
    · obtain ⟨b1, o1, rfl, hb1, hc1⟩ := hA (by omega)
      obtain ⟨c1, c2⟩ := hc1 k hlt
      rw [← hb.cell (p := ⟨b1, _, none⟩) hb1] at c1 c2
      clear hc1 hA
      go_wp2_with fail
      refine (toPair_any _ _ _).mono ?_
      rintro e w2 ⟨rfl, hb2⟩
      have ho2 := own_below ho1 hb2
      have hb3 := hb.trans (hb2.mono hb.size)
      have hml : (mixTo (cellsOf l) zs (k * 2)).length = l.length * 2 := by rw [mixTo_len _ _ _ (by rw [cellsOf_len, hzl.out]), hzl.out]
      obtain ⟨v0, e0⟩ := some_of_lt (mixTo (cellsOf l) zs (k * 2)) (k * 2) (by omega)
      obtain ⟨v1, e1⟩ := some_of_lt (mixTo (cellsOf l) zs (k * 2)) (k * 2 + 1) (by omega)
      have d0 := (ho2.cellAt (k * 2) (by omega)).trans e0
      have d1 := (ho2.cellAt (k * 2 + 1) (by omega)).trans e1
      have f0 := ho2.frozenAt (k * 2)
      have f1 := ho2.frozenAt (k * 2 + 1)
      obtain ⟨hs1, hs2⟩ := cellsOf_at l k hlt
      obtain ⟨ho3, hg3⟩ := ho2.stored (k * 2) (.int .i64 (prAt l k).1)
      rw [mixTo_set (by rw [cellsOf_len, hzl.out]) hs1] at ho3
      obtain ⟨ho4, hg4⟩ := ho3.stored (k * 2 + 1) (.int .i64 (prAt l k).2)
      rw [mixTo_set (by rw [cellsOf_len, hzl.out]) hs2, show k * 2 + 1 + 1 = (k + 1) * 2 from by omega] at ho4
      have hb5 : Below w.heap.size w _ := hb3.grown (grownBy_trans hg3 hg4) hb3.size (fun j hj => by injection hj with hj; omega)
      clear ho1 ho2 ho3 hg3 hg4 hb hb2 hb3 e0 e1 hs1 hs2 hml c1 c2
      go_wp2
      refine ⟨⟨k + 1, by omega, by go_num, ho4, hb5⟩, ?_⟩
      simp [intOf]; omega
    · have e : k = l.length := by omega
      subst e
      rw [mixTo_all _ _ _ (cellsOf_len l) hzl.out] at ho1
      go_wp2
      go_ret
      exact ⟨_, rfl, ho1, hb⟩

end Go.Proofs.YtbfkfklaplgebaaGreat
