/-
  Copying a list of integers, as a contract.
-/
import Derived.Test.YtdbogjhkcnajkaaKSameSet3
import Derived.WalkLawsBesides
import Derived.WalkSpells
import Derived.Lib.QuietBelow
namespace Go.Proofs.Ytdbogjhkcnajkaa
open Go.RowKit Go.Sort

theorem int_info : (Try.prog.info? 3).map (fun i => (i.zero, i.size, i.bytes)) = some (some (.int .i64 0), 1, 8) := by kernel_rfl

set_option maxHeartbeats 1000000 in
theorem toIntS_any (A : Option Addr) (c : Nat) (l : List Int) (w : World) (hA : IntsAt w A l) (hl : l.length ≤ 1099511627776) :
    Calls Try.prog 22 #[.slice A l.length c] w (NewInts l w) := by
  obtain ⟨i0, hi0, hz0, hz1, hz2⟩ := info_parts int_info
  have HS := Lib.hid hz2
  clear hz2
  go_enter Try.func22, Try.ntmps22
  go_wp2_with (at_make; refine wpList_make_full _ rfl (.tmp 6) (.tmp 6) 27 rfl w.heap.size 3 i0 _ 1 Try.underlying27 hi0 hz0 hz1 .i64 .i64 _ _ l.length rfl rfl rfl rfl ?c1 ?c2 (Nat.le_refl _) ?_)
  case c1 => rw [HS.out]; omega
  case c2 => unfold maxLen; omega
  intro w1 ho hg
  have hb0 := (Below.refl w.heap.size w).grown hg (Nat.le_refl _) (fun k hk => by cases hk)
  clear hg
  generalize hz : (madeCells #[Value.int IntKind.i64 0] l.length).toList = zs at ho
  have hzl : Hid (zs.length = l.length) := Lib.hid (by simpa using ho.1)
  clear hz
  have hlt0 : w.heap.size < w1.heap.size := (ho.lt w.heap.size rfl).2
  go_wp2
  go_loopw [4] (fun i wr => ∃ k : Nat, k ≤ l.length ∧ i = .int .i64 k ∧ wr.ownsRow w.heap.size 3 1 (.slice (some ⟨w.heap.size, 0, none⟩) l.length l.length) l.length (mixTo (icells l) zs k) ∧ Below w.heap.size w wr) (fun i _ => l.length - (intOf i).toNat)
  case atStart => exact ⟨0, Nat.zero_le _, rfl, by rw [mixTo_zero]; exact ho, hb0⟩
  case round =>
    obtain ⟨k, hk, rfl, ho1, hb⟩ := hrel
    by_cases hlt : k < l.length
    · obtain ⟨b1, o1, rfl, hb1, hc1⟩ := hA (by omega)
      have c1 := hc1 k hlt
      rw [← hb.cell (p := ⟨b1, _, none⟩) hb1] at c1
      clear hc1 hA
      have hml : (mixTo (icells l) zs k).length = l.length := by rw [mixTo_len _ _ _ (by rw [icells_len, hzl.out]), hzl.out]
      obtain ⟨v0, e0⟩ := some_of_lt (mixTo (icells l) zs k) k (by omega)
      have d0 := (ho1.cellAt k (by omega)).trans e0
      have f0 := ho1.frozenAt k
      have hs1 := icells_at l k hlt
      obtain ⟨ho3, hg3⟩ := ho1.stored k (.int .i64 (itAt l k))
      rw [mixTo_set (by rw [icells_len, hzl.out]) hs1] at ho3
      have hb5 : Below w.heap.size w _ := hb.grown hg3 hb.size (fun j hj => by injection hj with hj; omega)
      clear ho1 hg3 hb e0 hs1 hml
      go_wp2
      refine ⟨⟨k + 1, by omega, by go_num, ho3, hb5⟩, ?_⟩
      simp only [intOf]
      omega
    · have e : k = l.length := by omega
      subst e
      rw [mixTo_all _ _ _ (icells_len l) hzl.out] at ho1
      go_wp2
      go_ret
      exact ⟨_, rfl, ho1, hb⟩

end Go.Proofs.Ytdbogjhkcnajkaa
