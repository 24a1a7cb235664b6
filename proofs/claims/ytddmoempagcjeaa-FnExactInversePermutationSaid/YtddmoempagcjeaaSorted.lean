/-
  The atoms that two lists of pairs move: in the program, as contracts.
-/
import Derived.Test.YtddmoempagcjeaaAscend
namespace Go.Proofs.Ytddmoempagcjeaa
open Go.RowKit Go.Sort

set_option maxRecDepth 100000 in
set_option maxHeartbeats 1000000 in
theorem movedInS_any (A : Option Addr) (c : Nat) (l : List (Int × Int)) (w : World) (hA : PairsAt w A l) (hl : l.length ≤ 1099511627776) :
    Calls Try.prog 133 #[.slice A l.length c] w (InsPost w.heap.size (froms l) w) := by
  obtain ⟨i0, hi0, hz0, hz1, hz2⟩ := info_parts int_infoM
  have HS := Lib.hid hz2
  clear hz2
  go_enter Try.func133, Try.ntmps133
  go_wp2
  go_loopw [3, 5, 9] (fun v _ i wr => ∃ k : Nat, k ≤ l.length ∧ i = .int .i64 k ∧ (∃ g cap, v = .slice (some ⟨g, 0, none⟩) k cap) ∧ wr.ownsRow w.heap.size 3 1 v k (icells (froms (l.take k))) ∧ Below w.heap.size w wr) (fun _ _ i _ => l.length - (intOf i).toNat)
  case atStart => exact ⟨0, Nat.zero_le _, rfl, ⟨w.heap.size, 0, rfl⟩, World.ownsRow_lit w #[] 0 (Nat.le_refl _) (by decide) rfl, (Below.refl _ _).alloc (Nat.le_refl _) _⟩
  case round =>
    obtain ⟨k, hk, rfl, ⟨g0, cap0, rfl⟩, ho, hb⟩ := hrel
    by_cases hlt : k < l.length
    · obtain ⟨b1, o1, rfl, hb1, hc1⟩ := hA (by omega)
      obtain ⟨c1, c2⟩ := hc1 k hlt
      rw [← hb.cell (p := ⟨b1, _, none⟩) hb1] at c1 c2
      clear hc1 hA
      have hnext : Hid (froms (l.take (k + 1)) = froms (l.take k) ++ [(prAt l k).1]) := froms_take hlt
      generalize prAt l k = p at c1 c2 hnext
      have ho1 := ho.alloc (.cells #[.int .i64 p.1, .int .i64 p.2] 81)
      have hb2 := hb.alloc hb.size (.cells #[.int .i64 p.1, .int .i64 p.2] 81)
      have ho2 := ho1.alloc (.cells #[.int .i64 p.1] 3)
      have hb3 := hb2.alloc (Nat.le_trans hb.size (by simp)) (.cells #[.int .i64 p.1] 3)
      have hsz : w.heap.size ≤ wr.heap.size := hb.size
      have hcell : ((wr.alloc (.cells #[.int .i64 p.1, .int .i64 p.2] 81)).alloc (.cells #[.int .i64 p.1] 3)).cell? ⟨wr.heap.size + 1, 0, none⟩ = some (.int .i64 p.1) := by simp
      have HC := Lib.hid (one_cell hcell)
      clear hcell ho ho1 hb2 hb
      go_wp2_with (at_builtin; refine wpList_append_own _ rfl (.tmp 13) (.tmp 16) 46 rfl w.heap.size 3 i0 (.int .i64 0) 1 8 Try.underlying46 hi0 hz0 hz1 HS.out rfl (by decide) _ k _ rfl ho2 ⟨wr.heap.size + 1, 0, none⟩ 1 1 [.int .i64 p.1] rfl rfl HC.out (int_one _) ?c3 ?c4 ?c5 ?_)
      case c3 => unfold maxLen; omega
      case c4 => omega
      case c5 => simp; omega
      intro v2 w2 ho3 hg _
      have ho4 : w2.ownsRow w.heap.size 3 1 v2 (k + 1) (icells (froms (l.take (k + 1)))) := by
        rw [hnext.out, icells_append]
        exact ho3
      have hb4 : Below w.heap.size w w2 := below_own hb3 ho2 (Nat.le_refl _) (by simp; omega) hg
      have hform : ∃ g cap, v2 = .slice (some ⟨g, 0, none⟩) (k + 1) cap := by
        rcases ho4.2 with ⟨_, h0⟩ | ⟨g, cap, cur, rfl, _⟩
        · omega
        · exact ⟨g, cap, rfl⟩
      obtain ⟨g1, cap1, rfl⟩ := hform
      clear ho3 hg ho2 hb3 hnext HC c1 c2
      go_wp2
      refine ⟨⟨k + 1, by omega, by go_num, ⟨g1, cap1, rfl⟩, ho4, hb4⟩, ?_⟩
      simp only [intOf]
      omega
    · have e : k = l.length := by omega
      subst e
      rw [List.take_length] at ho
      have e : (froms l).length = l.length := by simp [froms]
      have hpost : InsPost w.heap.size (froms l) w (.returned (.slice (some ⟨g0, 0, none⟩) l.length cap0)) wr := ⟨g0, cap0, by rw [e], by rw [e]; exact ho, hb⟩
      go_wp2
      go_ret
      exact hpost

set_option maxRecDepth 100000 in
set_option maxHeartbeats 2000000 in
theorem movedEither_any (A1 A2 : Option Addr) (c1 c2 : Nat) (p q : List (Int × Int)) (w : World) (hp : PairsAt w A1 p) (hq : PairsAt w A2 q) (hlp : p.length ≤ 1048576) (hlq : q.length ≤ 1048576) :
    Calls Try.prog 104 #[.slice A1 p.length c1, .slice A2 q.length c2] w (InsPost w.heap.size (atomsL p q) w) := by
  obtain ⟨i0, hi0, hz0, hz1, hz2⟩ := info_parts int_infoM
  have HS := Lib.hid hz2
  clear hz2
  have h1 := movedInS_any A1 c1 p w hp (by omega)
  go_enter Try.func104, Try.ntmps104
  go_wp2_with fail
  refine h1.mono ?_
  rintro e w1 ⟨g1, cap1, rfl, ho1, hb1⟩
  have h2 := movedInS_any A2 c2 q w1 (hq.below hb1) (by omega)
  clear h1 hp hq
  go_wp2_with fail
  refine h2.mono ?_
  rintro e w2 ⟨g2, cap2, rfl, ho2, hb2⟩
  have ho1b := own_below ho1 hb2
  have hb3 := hb1.trans (hb2.mono hb1.size)
  have hia : IntsAt w2 (some ⟨g2, 0, none⟩) (froms q) := by
    obtain ⟨A, c, e, h⟩ := own_intsAt ho2
    simp only [Value.slice.injEq] at e
    rw [e.1]
    exact h
  have HN := Lib.hid (ints_news hia)
  have HL := Lib.hid (show (icells (froms q)).length = (froms q).length * 1 by rw [icells_len, Nat.mul_one])
  have hf1 : (froms p).length ≤ 1048576 := by rw [froms_len]; exact hlp
  have hf2 : (froms q).length ≤ 1048576 := by rw [froms_len]; exact hlq
  clear h2 ho1 ho2 hb1 hb2 hia
  go_wp2_with (at_builtin; refine wpList_append_own _ rfl (.tmp 6) (.tmp 8) 46 rfl w.heap.size 3 i0 (.int .i64 0) 1 8 Try.underlying46 hi0 hz0 hz1 HS.out rfl (by decide) _ (froms p).length _ rfl ho1b ⟨g2, 0, none⟩ (froms q).length cap2 (icells (froms q)) rfl HL.out HN.out (icells_one _) ?c3 ?c4 ?c5 ?_)
  case c3 => unfold maxLen; omega
  case c4 => omega
  case c5 => exact hb3.size
  intro v4 w4 ho4 hg4 hnil
  have hb4 : Below w.heap.size w w4 := below_own hb3 ho1b (Nat.le_refl _) hb3.size hg4
  have ho5 : w4.ownsRow w.heap.size 3 1 v4 (froms p ++ froms q).length ((froms p ++ froms q).map (Value.int .i64)) := by
    rw [List.length_append]
    simpa [icells] using ho4
  obtain ⟨g, cap, rfl, hbg, hgs, hnc, _, _, hH⟩ := Lib.holds_of_ownsRow ho5 hnil
  have hzl : (froms p ++ froms q).length ≤ 2097152 := by rw [List.length_append]; omega
  have hat : Hid (insAll [] (froms p ++ froms q) = atomsL p q) := insAll_both p q
  generalize froms p ++ froms q = Z at ho5 hzl hat hnc ⊢
  have hasc := ascending_any w.heap.size g cap Z w4 ho5 (by omega)
  clear ho1b hb3 HN HL hf1 hf2 ho4 hg4 hnil hH ho5
  go_wp2_with fail
  refine hasc.mono ?_
  rintro e w5 ⟨rfl, ho6, hg6⟩
  rw [hat.out] at ho6 ⊢
  have hpost : InsPost w.heap.size (atomsL p q) w (.returned (.slice (some ⟨g, 0, none⟩) (atomsL p q).length cap)) w5 := ⟨g, cap, rfl, ho6, hb4.grown hg6 hb4.size (fun k hk => by injection hk with hk; omega)⟩
  clear hasc ho6 hg6 hb4
  go_wp2
  go_ret
  exact hpost

end Go.Proofs.Ytddmoempagcjeaa
