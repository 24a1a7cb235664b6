/-
  First one list of pairs, then another: in the program, as a contract.
-/
import Derived.Test.YtddmoempagcjeaaThen
namespace Go.Proofs.Ytddmoempagcjeaa
open Go.RowKit Go.Sort

set_option maxRecDepth 100000 in
set_option maxHeartbeats 4000000 in
theorem composed_any (A1 A2 : Option Addr) (d1 d2 : Nat) (p q : List (Int × Int)) (w : World) (hp : PairsAt w A1 p) (hq : PairsAt w A2 q) (hlp : p.length ≤ 1048576) (hlq : q.length ≤ 1048576) (h1 : Asc p) (h2 : Asc q) :
    Calls Try.prog 61 #[.slice A1 p.length d1, .slice A2 q.length d2] w (ThenPost (thenL p q) w) := by
  obtain ⟨i0, hi0, hz0, hz1, hz2⟩ := info_parts pair_infoT
  have HS := Lib.hid hz2
  clear hz2
  have hb0 : Below w.heap.size w (w.alloc (.cells #[] 81)) := (Below.refl _ _).alloc (Nat.le_refl _) _
  have ho0 : (w.alloc (.cells #[] 81)).ownsRow w.heap.size 81 2 (.slice (some ⟨w.heap.size, 0, none⟩) 0 0) 0 (cellsOf []) := World.ownsRow_lit w #[] 0 (Nat.le_refl _) (by decide) rfl
  have HA1 := Lib.hid h1
  have HA2 := Lib.hid h2
  clear h1 h2
  have hat := movedEither_any A1 A2 d1 d2 p q _ (hp.below hb0) (hq.below hb0) hlp hlq
  have hal := atomsL_len p q
  go_enter Try.func61, Try.ntmps61
  go_wp2_with fail
  refine hat.mono ?_
  rintro e w1 hpost3
  obtain ⟨g, cap, rfl, hg1, hgb, hia, hb1⟩ := insPost_ints hpost3
  have hgw : w.heap.size < g := by simp only [World.size_alloc] at hgb; omega
  clear hpost3 hgb
  have ho2 := own_below ho0 hb1
  have hb2 := hb0.trans (hb1.mono hb0.size)
  have HD : Hid (thenL p q = thenK p q (atomsL p q) (atomsL p q).length) := by show thenL p q = thenK p q (atomsL p q) (atomsL p q).length; unfold thenL thenK; rw [List.take_length]
  generalize atomsL p q = X at hia hal HD ⊢
  clear hat ho0 hb0 hb1
  go_wp2
  go_loopw [5, 14] (fun v i wr => ∃ k : Nat, k ≤ X.length ∧ i = .int .i64 k ∧ (∃ h c, v = .slice (some ⟨h, 0, none⟩) (thenK p q X k).length c ∧ h ≠ g) ∧ wr.ownsRow w.heap.size 81 2 v (thenK p q X k).length (cellsOf (thenK p q X k)) ∧ IntsAt wr (some ⟨g, 0, none⟩) X ∧ g < wr.heap.size ∧ Below w.heap.size w wr) (fun _ i _ => X.length - (intOf i).toNat)
  case atStart => exact ⟨0, Nat.zero_le _, rfl, ⟨w.heap.size, 0, rfl, by omega⟩, ho2, hia, hg1, hb2⟩
  case round =>
    clear ho2 hia hb2 hg1
    obtain ⟨k, hk, rfl, ⟨h, c, rfl, hne⟩, ho, hix, hgx, hb⟩ := hrel
    by_cases hlt : k < X.length
    · obtain ⟨b, off, e, hbl, hcell⟩ := hix (by omega)
      simp only [Option.some.injEq, Addr.mk.injEq, and_true] at e
      obtain ⟨rfl, rfl⟩ := e
      have c1 := hcell k hlt
      rw [Nat.zero_add] at c1
      have hnx := thenK_next (p := p) (q := q) hlt
      have hfl : (thenK p q X k).length ≤ X.length := thenK_len
      generalize hF : thenK p q X k = F at ho hnx hfl ⊢
      clear hF
      generalize hx : itAt X k = x at c1 hnx
      have HX := Lib.hid hx
      clear hcell hx hbl
      have hcq := imageIn_any A2 d2 q x wr (hq.below hb) (by omega) HA2.out
      have hcp := fun W hW => imageIn_any A1 d1 p (imgL q x) W hW (by omega) HA1.out
      by_cases hd : thenB p q x = true
      · have hnx' : Hid (thenK p q X (k + 1) = F ++ [thenG p q x]) := by show thenK p q X (k + 1) = F ++ [thenG p q x]; rw [hnx, if_pos hd]
        clear hnx
        unfold thenG at hnx'
        unfold thenB at hd
        generalize imgL p (imgL q x) = y at hcp hd hnx'
        generalize imgL q x = z at hcp hcq
        go_wp2_with fail
        refine hcq.mono ?_
        rintro e wq1 ⟨rfl, hq1⟩
        have hbq1 := hb.trans (hq1.mono hb.size)
        have hcp' := hcp wq1 (hp.below hbq1)
        clear hcp hcq
        go_wp2_with fail
        refine hcp'.mono ?_
        rintro e w3 ⟨rfl, hq2⟩
        have hbq : Below wr.heap.size wr w3 := hq1.trans (hq2.mono hq1.size)
        have hb3 := hb.trans (hbq.mono hb.size)
        have ho3 := own_below ho hbq
        have hi3 := hix.below hbq
        have hg3 : g < w3.heap.size := Nat.lt_of_lt_of_le hgx hbq.size
        clear hcp' hq1 hq2 hbq1 hbq ho hb hix hgx c1
        obtain ⟨b', off', e, hbl, hcell⟩ := hi3 (by omega)
        simp only [Option.some.injEq, Addr.mk.injEq, and_true] at e
        obtain ⟨rfl, rfl⟩ := e
        have c1 := hcell k hlt
        rw [Nat.zero_add, HX.out] at c1
        clear hcell hbl
        have hba : Below w.heap.size w (w3.alloc (.cells #[.int .i64 x, .int .i64 y] 81)) := hb3.alloc hb3.size _
        have hoa := ho3.alloc (.cells #[.int .i64 x, .int .i64 y] 81)
        have hcx : (w3.alloc (.cells #[.int .i64 x, .int .i64 y] 81)).cell? ⟨w3.heap.size, 0, none⟩ = some (.int .i64 x) := by simp
        have hcy : (w3.alloc (.cells #[.int .i64 x, .int .i64 y] 81)).cell? ⟨w3.heap.size, 1, none⟩ = some (.int .i64 y) := by simp
        have HC := Lib.hid (pair_cells hcx hcy)
        have hia4 : IntsAt (w3.alloc (.cells #[.int .i64 x, .int .i64 y] 81)) (some ⟨g, 0, none⟩) X := hi3.below ((Below.refl _ _).alloc (Nat.le_refl _) _)
        clear hcx hcy ho3 hi3
        go_wp2_with (at_builtin; refine wpList_append_own_at _ rfl (.tmp 26) (.tmp 30) 24 rfl w.heap.size 81 i0 _ 2 16 Try.underlying24 hi0 hz0 hz1 HS.out rfl (by decide) _ F.length _ rfl hoa ⟨w3.heap.size, 0, none⟩ 1 1 [.int .i64 x, .int .i64 y] rfl rfl HC.out (pair_one _ _) ?c3 ?c4 ?c5 ?_)
        case c3 => unfold maxLen; omega
        case c4 => omega
        case c5 => exact hba.size
        intro v5 w5 ho5 hg5 _ hat5
        have ho6 : w5.ownsRow w.heap.size 81 2 v5 (thenK p q X (k + 1)).length (cellsOf (thenK p q X (k + 1))) := by
          rw [hnx'.out, List.length_append, cellsOf_append]
          exact ho5
        have hv5 : ∃ h c, v5 = .slice (some ⟨h, 0, none⟩) (thenK p q X (k + 1)).length c ∧ h ≠ g := by
          rcases ho6.2 with ⟨_, h0⟩ | ⟨h', cap', cur, rfl, _⟩
          · rw [hnx'.out, List.length_append] at h0; simp at h0
          · refine ⟨h', cap', rfl, ?_⟩
            rcases hat5 with e | e
            · simp only [Value.ownBlock, Option.some.injEq] at e; omega
            · simp only [Value.ownBlock, Option.some.injEq] at e; omega
        obtain ⟨h5, c5, rfl, hne5⟩ := hv5
        have hi6 : IntsAt w5 (some ⟨g, 0, none⟩) X := by
          intro hp0
          obtain ⟨b', off', e, hbl, hcell⟩ := hia4 hp0
          simp only [Option.some.injEq, Addr.mk.injEq, and_true] at e
          obtain ⟨rfl, rfl⟩ := e
          exact ⟨g, 0, rfl, Nat.lt_of_lt_of_le hbl hg5.size, fun i hi => hg5.cell (a := ⟨g, 0 + i, none⟩) (hcell i hi) (fun e => by simp only [Value.ownBlock, Option.some.injEq] at e; omega)⟩
        have hg6 : g < w5.heap.size := by have := hg5.size; simp only [World.size_alloc] at this; omega
        have hb6 : Below w.heap.size w w5 := below_own hba hoa (Nat.le_refl _) hba.size hg5
        clear ho5 hg5 hat5 hba hoa HC hia4 hb3 hg3 hnx' HX
        go_wp2
        refine ⟨⟨k + 1, by omega, by go_num, ⟨h5, c5, rfl, hne5⟩, ho6, hi6, hg6, hb6⟩, ?_⟩
        simp only [intOf]
        omega
      · have hd' : thenB p q x = false := by simpa using hd
        have hnx' : Hid (thenK p q X (k + 1) = F) := by show thenK p q X (k + 1) = F; rw [hnx, hd']; simp
        clear hnx hd
        have hd := hd'
        clear hd'
        unfold thenB at hd
        generalize imgL p (imgL q x) = y at hcp hd
        generalize imgL q x = z at hcp hcq
        go_wp2_with fail
        refine hcq.mono ?_
        rintro e wq1 ⟨rfl, hq1⟩
        have hbq1 := hb.trans (hq1.mono hb.size)
        have hcp' := hcp wq1 (hp.below hbq1)
        clear hcp hcq
        go_wp2_with fail
        refine hcp'.mono ?_
        rintro e w3 ⟨rfl, hq2⟩
        have hbq : Below wr.heap.size wr w3 := hq1.trans (hq2.mono hq1.size)
        have hb3 := hb.trans (hbq.mono hb.size)
        have ho3 := own_below ho hbq
        have hi3 := hix.below hbq
        have hg3 : g < w3.heap.size := Nat.lt_of_lt_of_le hgx hbq.size
        clear hcp' hq1 hq2 hbq1 hbq ho hb hix hgx c1
        obtain ⟨b', off', e, hbl, hcell⟩ := hi3 (by omega)
        simp only [Option.some.injEq, Addr.mk.injEq, and_true] at e
        obtain ⟨rfl, rfl⟩ := e
        have c1 := hcell k hlt
        rw [Nat.zero_add, HX.out] at c1
        clear hcell hbl
        rw [← hnx'.out] at ho3 ⊢
        clear hnx' hfl HX
        go_wp2
        refine ⟨⟨k + 1, by omega, by go_num, ⟨h, c, rfl, hne⟩, ho3, hi3, hg3, hb3⟩, ?_⟩
        simp only [intOf]
        omega
    · have hkk : k = X.length := by omega
      have hpost : ThenPost (thenL p q) w (.returned (.slice (some ⟨h, 0, none⟩) (thenK p q X k).length c)) wr := ⟨h, c, by rw [HD.out, hkk], by rw [HD.out, ← hkk]; exact ho, hb⟩
      clear ho hix hb hkk
      go_wp2
      go_ret
      exact hpost

end Go.Proofs.Ytddmoempagcjeaa
