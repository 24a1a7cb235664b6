/-
  The canonical term in the model, and CanonicalTerm of the model, as contracts.
-/
import Derived.Test.YtbfkfklaplgebaaGreatKCanonicalTerm20
import Derived.Test.YtbfkfklaplgebaaGreatKCanonicalTerm19
import Derived.Test.YtbfkfklaplgebaaGreatKCanonicalTerm6
import Derived.Test.YtbfkfklaplgebaaGreatKCanonicalTerm18
import Derived.Test.YtbfkfklaplgebaaGreatKCanonicalTerm21
namespace Go.Proofs.YtbfkfklaplgebaaGreat
open Go.RowKit Go.Sort
set_option linter.unusedVariables false

theorem map_take_nextT {f : Tm → Tm} {ts : List Tm} {k : Nat} (h : k < ts.length) : (ts.take (k + 1)).map f = (ts.take k).map f ++ [f (tmAt ts k)] := by
  rw [tm_take_next h, List.map_append]; rfl

set_option maxRecDepth 100000 in
set_option maxHeartbeats 2000000 in
theorem l2Canon_kids (N : Nat) (t : Tm) (x : Value) (w : World) (hx : TmIn w x t) (h3 : ¬ t.op = 3) (hl : t.perm.length ≤ 1048576) (hkl : t.kids.length ≤ 1048576)
    (ih : ∀ i, i < t.kids.length → ∀ (w' : World) (y : Value), TmIn w' y (tmAt t.kids i) → Calls Tryz.prog 61 #[y] w' (TmOut (canN N (tmAt t.kids i)) w')) :
    Calls Tryz.prog 61 #[x] w (TmOut (canN (N + 1) t) w) := by
  have q3 : (t.op == 3) = false := by simp [h3]
  have hcan : canN (N + 1) t = .mk t.op t.num t.perm (t.kids.map (canN N)) := by
    cases t with
    | mk o n p ks => rw [op_mk] at h3; rw [canN, if_neg h3]; rfl
  obtain ⟨i0, hi0, hz0, hz1, hz2⟩ := info_parts term_infoR
  have HS := Lib.hid hz2
  clear hz2
  have hx' := hx
  obtain ⟨A, c, kv, rfl, hp, hk⟩ := hx
  obtain ⟨B, d, rfl⟩ := hk.form
  have hb0 : Below w.heap.size w ((w.alloc (.cells #[.int .i64 t.op, .int .i64 t.num, .slice A t.perm.length c, .slice B t.kids.length d] 31)).alloc (.cells #[.int .i64 0, .int .i64 0, .slice none 0 0, .slice none 0 0] 31)) := ((Below.refl _ _).alloc (Nat.le_refl _) _).alloc (by simp) _
  go_enter Tryz.func61, Tryz.ntmps61
  go_wp2
  go_loopw [3, 4, 13] (fun nv v i wr => ∃ k : Nat, k ≤ t.kids.length ∧ i = .int .i64 k ∧ nv = .int .i64 t.num ∧ TRow wr (w.heap.size + 2) v k ((t.kids.take k).map (canN N)) ∧ Below ((w.alloc (.cells #[.int .i64 t.op, .int .i64 t.num, .slice A t.perm.length c, .slice B t.kids.length d] 31)).alloc (.cells #[.int .i64 0, .int .i64 0, .slice none 0 0, .slice none 0 0] 31)).heap.size ((w.alloc (.cells #[.int .i64 t.op, .int .i64 t.num, .slice A t.perm.length c, .slice B t.kids.length d] 31)).alloc (.cells #[.int .i64 0, .int .i64 0, .slice none 0 0, .slice none 0 0] 31)) wr) (fun _ _ i _ => t.kids.length - (intOf i).toNat)
  case atStart =>
    refine ⟨0, Nat.zero_le _, rfl, rfl, ⟨w.heap.size + 2, 0, [], [], rfl, ?_, .nil, by simp, by simp⟩, (Below.refl _ _).alloc (Nat.le_refl _) _⟩
    have h9 := World.ownsRow_lit (base := ((w.alloc (.cells #[.int .i64 t.op, .int .i64 t.num, .slice A t.perm.length c, .slice B t.kids.length d] 31)).alloc (.cells #[.int .i64 0, .int .i64 0, .slice none 0 0, .slice none 0 0] 31)).heap.size) (e := 31) (size := 4) ((w.alloc (.cells #[.int .i64 t.op, .int .i64 t.num, .slice A t.perm.length c, .slice B t.kids.length d] 31)).alloc (.cells #[.int .i64 0, .int .i64 0, .slice none 0 0, .slice none 0 0] 31)) #[] 0 (Nat.le_refl _) (by decide) rfl
    rw [World.size_alloc, World.size_alloc] at h9
    exact h9
  case round =>
    obtain ⟨k, hk', rfl, rfl, ⟨g, cap, ys, S, rfl, ho, hys, hgS, hSB⟩, hbw⟩ := hrel
    have hb := hb0.trans (hbw.mono hb0.size)
    by_cases hlt : k < t.kids.length
    · obtain ⟨b, off, A1, c1, B1, e1, rfl, hbl, d0, d1, d2, d3, hy⟩ := kid_cells hk hlt
      rw [← hb.cell (p := ⟨b, _, none⟩) hbl] at d0 d1 d2 d3
      obtain ⟨hres, hbox⟩ := box_row hbw
      have hbx : Below wr.heap.size wr (wr.alloc (.cells #[.int .i64 (tmAt t.kids k).op, .int .i64 (tmAt t.kids k).num, .slice A1 (tmAt t.kids k).perm.length c1, .slice B1 (tmAt t.kids k).kids.length e1] 31)) := (Below.refl _ _).alloc (Nat.le_refl _) _
      have hlb : w.heap.size < wr.heap.size := (Array.getElem?_eq_some_iff.1 hbox).1
      obtain ⟨b0, b1, b2, b3⟩ := BoxR.row4 ((hbx.block w.heap.size hlb).trans hbox)
      have hbz := hb.trans (hbx.mono hb.size)
      have hct := ih k hlt _ _ (hy.below hbz)
      have hnx := Lib.hid (map_take_nextT (f := canN N) hlt)
      have hox := own_below ho hbx
      have hysx := hys.alike (w' := wr.alloc (.cells #[.int .i64 (tmAt t.kids k).op, .int .i64 (tmAt t.kids k).num, .slice A1 (tmAt t.kids k).perm.length c1, .slice B1 (tmAt t.kids k).kids.length e1] 31)) (fun b hb => hbx.block b (hys.lt b hb))
      have hbr := hbw.trans (hbx.mono hbw.size)
      generalize canN N (tmAt t.kids k) = r at hct hnx
      generalize tmAt t.kids k = u at d0 d1 d2 d3 b0 b1 b2 b3 hct hbx hox hbr hysx ⊢
      clear hy hbl hb hbz hbw ih hk ho hys hp hx' hres hbox hcan hlb
      go_wp2_with fail
      refine hct.mono ?_
      rintro e w2 ⟨A3, c3, A4, c4, T1, rfl, hT1, hTC, hb2⟩
      have hb3 : Below w2.heap.size w2 (w2.alloc (.cells #[.int .i64 r.op, .int .i64 r.num, .slice A3 r.perm.length c3, .slice A4 r.kids.length c4] 31)) := (Below.refl _ _).alloc (Nat.le_refl _) _
      have hb13 := hb2.trans (hb3.mono hb2.size)
      have ho3 := own_below (own_below hox hb2) hb3
      have hbr3 := (hbr.trans (hb2.mono hbr.size)).trans (hb3.mono (Nat.le_trans hbr.size hb2.size))
      obtain ⟨e0, e1', e2, e3⟩ := box4 (Below.refl _ (w2.alloc (.cells #[.int .i64 r.op, .int .i64 r.num, .slice A3 r.perm.length c3, .slice A4 r.kids.length c4] 31)))
      have HC := Lib.hid (four_cells e0 e1' e2 e3)
      have HF1 := Lib.hid (four_one r.op r.num A3 A4 r.perm.length c3 r.kids.length c4)
      have hsz3 := hbr3.size
      have HR : Hid (∀ g1 cap1 w4, w4.ownsRow (w.heap.size + 2) 31 4 (.slice (some ⟨g1, 0, none⟩) (k + 1) cap1) (k + 1) (ys ++ [.int .i64 r.op, .int .i64 r.num, .slice A3 r.perm.length c3, .slice A4 r.kids.length c4]) → (w2.alloc (.cells #[.int .i64 r.op, .int .i64 r.num, .slice A3 r.perm.length c3, .slice A4 r.kids.length c4] 31)).grownBy w4 (some g) → (some g = some g1 ∨ g1 = (w2.alloc (.cells #[.int .i64 r.op, .int .i64 r.num, .slice A3 r.perm.length c3, .slice A4 r.kids.length c4] 31)).heap.size) → TRow w4 (w.heap.size + 2) (.slice (some ⟨g1, 0, none⟩) (k + 1) cap1) (k + 1) ((t.kids.take k).map (canN N) ++ [r])) :=
        Lib.hid (fun g1 cap1 w4 h1 h2 h3 => trow_next (Nat.le_refl _) hox hysx hgS hSB hb13 hT1 hTC hb3 h1 h2 h3)
      have hsz4 : w.heap.size + 2 ≤ (w2.alloc (.cells #[.int .i64 r.op, .int .i64 r.num, .slice A3 r.perm.length c3, .slice A4 r.kids.length c4] 31)).heap.size := by
        have := hb13.size; have := (hox.lt g rfl).2; have := (hox.lt g rfl).1; omega
      clear e0 e1' e2 e3 hox hysx hgS hSB hb2 hb3 hb13 hT1 hTC hct hbr hbx d0 d1 d2 d3 b0 b1 b2 b3
      generalize hH : (w2.alloc (.cells #[.int .i64 r.op, .int .i64 r.num, .slice A3 r.perm.length c3, .slice A4 r.kids.length c4] 31)).heap.size = H at hsz4
      have HH := Lib.hid hH
      clear hH
      go_wp2_with (at_builtin; refine wpList_append_lies _ rfl (.tmp 29) (.tmp 32) 29 rfl (w.heap.size + 2) 31 i0 (.agg #[.int .i64 0, .int .i64 0, .slice none 0 0, .slice none 0 0]) 4 64 Tryz.underlying29 hi0 hz0 hz1 HS.out rfl (by decide) _ k _ rfl ho3 ⟨w2.heap.size, 0, none⟩ 1 1 [.int .i64 r.op, .int .i64 r.num, .slice A3 r.perm.length c3, .slice A4 r.kids.length c4] rfl rfl HC.out HF1.out (by decide) ?c3 ?c4 ?c5 H HH.out ?_)
      case c3 => unfold maxLen; omega
      case c4 => omega
      case c5 => rw [HH.out]; exact hsz4
      intro g1 cap1 w4 ho4 hg4 hcase _
      rw [← HH.out] at hcase
      have hrow := HR.out g1 cap1 w4 ho4 hg4 hcase
      rw [← hnx.out] at hrow
      have hb4 := below_own hbr3 ho3 (by rw [World.size_alloc, World.size_alloc]; omega) hsz3 hg4
      clear ho4 hg4 hcase HR ho3 hbr3 HC HF1 hsz3 hsz4 HH hnx
      go_wp2
      refine ⟨⟨k + 1, by omega, by go_num, rfl, hrow, hb4⟩, ?_⟩
      simp only [intOf]
      omega
    · clear hx'
      have e : k = (t.kids.map (canN N)).length := by rw [List.length_map]; omega
      rw [List.take_of_length_le (show t.kids.length ≤ k by omega)] at hys
      subst e
      obtain ⟨hres, hbox⟩ := box_row hbw
      have b0 : wr.cell? ⟨w.heap.size, 0, none⟩ = some (.int .i64 t.op) := by rw [cell_of_row _ w.heap.size 0 _ _ _ hbox]; rfl
      have b1 : wr.cell? ⟨w.heap.size, 1, none⟩ = some (.int .i64 t.num) := by rw [cell_of_row _ w.heap.size 1 _ _ _ hbox]; rfl
      have b2 : wr.cell? ⟨w.heap.size, 2, none⟩ = some (.slice A t.perm.length c) := by rw [cell_of_row _ w.heap.size 2 _ _ _ hbox]; rfl
      have b3 : wr.cell? ⟨w.heap.size, 3, none⟩ = some (.slice B t.kids.length d) := by rw [cell_of_row _ w.heap.size 3 _ _ _ hbox]; rfl
      have HT := Lib.hid hcan
      generalize hK : t.kids.map (canN N) = K at *
      clear hk' hK
      have hwi := l2With_any t t.num A B c d (some ⟨g, 0, none⟩) K.length cap wr (hp.below hb) hl
      go_wp2_with fail
      refine hwi.mono ?_
      rintro e w5 ⟨A1, c1, S1, rfl, hS1, hS1b, hb5⟩
      have hsr := hbw.size
      rw [World.size_alloc, World.size_alloc] at hsr
      have hres6 := (hb5.block (w.heap.size + 1) (by omega)).trans hres
      have ho5 := own_below ho hb5
      have hys5 := hys.alike (w' := w5) (fun b hb => hb5.block b (hys.lt b hb))
      have hbz5 := hb.trans (hb5.mono hb.size)
      have hSg : ∀ b ∈ S1, b ∉ g :: S := fun b h1 h2 => by
        have h3 := hS1b b h1
        rcases List.mem_cons.1 h2 with h4 | h4
        · have := (ho.lt g rfl).2; omega
        · have := hys.lt b h4; omega
      have hpost := act_done (w := w) (w5 := w5) (R := w.heap.size + 1) HT.out hS1 (fun b hb => by have := hS1b b hb; omega) ho5 hys5 hgS (fun b hb => by have := hSB b hb; omega) hSg (by omega) hbz5
      have r0 : w5.cell? ⟨w.heap.size + 1, 0, none⟩ = some (.int .i64 0) := by rw [cell_of_row _ (w.heap.size + 1) 0 _ _ _ hres6]; rfl
      have r1 : w5.cell? ⟨w.heap.size + 1, 1, none⟩ = some (.int .i64 0) := by rw [cell_of_row _ (w.heap.size + 1) 1 _ _ _ hres6]; rfl
      have r2 : w5.cell? ⟨w.heap.size + 1, 2, none⟩ = some (.slice none 0 0) := by rw [cell_of_row _ (w.heap.size + 1) 2 _ _ _ hres6]; rfl
      have r3 : w5.cell? ⟨w.heap.size + 1, 3, none⟩ = some (.slice none 0 0) := by rw [cell_of_row _ (w.heap.size + 1) 3 _ _ _ hres6]; rfl
      have z0 : w5.frozen? ⟨w.heap.size + 1, 0, none⟩ = false := frozen_of_row _ (w.heap.size + 1) 0 _ _ hres6
      have z1 : w5.frozen? ⟨w.heap.size + 1, 1, none⟩ = false := frozen_of_row _ (w.heap.size + 1) 1 _ _ hres6
      have z2 : w5.frozen? ⟨w.heap.size + 1, 2, none⟩ = false := frozen_of_row _ (w.heap.size + 1) 2 _ _ hres6
      have z3 : w5.frozen? ⟨w.heap.size + 1, 3, none⟩ = false := frozen_of_row _ (w.heap.size + 1) 3 _ _ hres6
      clear ho5 hys5 hbz5 hwi hS1 hS1b hb5 hsr hres6 hSg hbox hres ho hys hgS hSB hbw hb hp ih hk HT hb0 hcan
      go_wp2
      exact bodyPost_ret (v := .agg #[.int .i64 t.op, .int .i64 t.num, .slice A1 t.perm.length c1, .slice (some ⟨g, 0, none⟩) K.length cap]) (by simp [results, Tryz.results61, go_sem, r0, r1, r2, r3]) rfl hpost

set_option maxRecDepth 100000 in
set_option maxHeartbeats 2000000 in
theorem l2Canon_bind (N : Nat) (a : Int) (t : Tm) (x : Value) (w : World) (hx : TmIn w x t) (h3 : t.op = 3) (ha : leastF (freeT t) = a) (hl : t.perm.length ≤ 1048576) (hsz : szT t ≤ 60) (hk0 : 0 < t.kids.length) (hP : OkPs 1048576 t.kids)
    (ih : ∀ i, i < t.kids.length → ∀ (w' : World) (y : Value), TmIn w' y (actT (swapL t.num a) (tmAt t.kids i)) → Calls Tryz.prog 61 #[y] w' (TmOut (canN N (actT (swapL t.num a) (tmAt t.kids i))) w')) :
    Calls Tryz.prog 61 #[x] w (TmOut (canN (N + 1) t) w) := by
  have q3 : (t.op == 3) = true := by simp [h3]
  have hcan : canN (N + 1) t = .mk t.op a t.perm (t.kids.map fun k => canN N (actT (swapL t.num a) k)) := by
    cases t with
    | mk o n p ks => rw [op_mk] at h3 ⊢; rw [canN, if_pos h3, ha, h3]; rfl
  have hkl : t.kids.length ≤ 60 := by have h := szT_eq t; have := len_szTs t.kids; omega
  have hfl := Nat.le_trans (freeT_len t) hsz
  have HFR := Lib.hid (fun W y hW => l2Free_all (szT t) t (Nat.le_refl _) hsz W y hW)
  have HSW := Lib.hid (fun W => (show Calls Tryz.prog 100 #[.int .i64 a, .int .i64 t.num] W (NewPairs (swapL t.num a) W) from by rw [swapL_comm t.num a]; exact swapOf_spec a t.num W))
  have HAC := Lib.hid (fun i (hi : i < t.kids.length) W (y : Value) (P : Option Addr) (cp : Nat) (hW : TmIn W y (tmAt t.kids i)) (hp : PairsAt W P (swapL t.num a)) => l2Act_any (szT (tmAt t.kids i)) (tmAt t.kids i) (Nat.le_refl _) (by have := szT_at hi; have := szT_eq t; omega) (okP_at hP hi) W y P cp (swapL t.num a) hW hp (by have := sw_len t.num a; omega))
  have HA := Lib.hid ha
  clear hsz hP ha h3
  obtain ⟨i0, hi0, hz0, hz1, hz2⟩ := info_parts term_infoR
  have HS := Lib.hid hz2
  clear hz2
  have hx' := hx
  obtain ⟨A, c, kv, rfl, hp, hk⟩ := hx
  obtain ⟨B, d, rfl⟩ := hk.form
  have hb0 : Below w.heap.size w ((w.alloc (.cells #[.int .i64 t.op, .int .i64 t.num, .slice A t.perm.length c, .slice B t.kids.length d] 31)).alloc (.cells #[.int .i64 0, .int .i64 0, .slice none 0 0, .slice none 0 0] 31)) := ((Below.refl _ _).alloc (Nat.le_refl _) _).alloc (by simp) _
  go_enter Tryz.func61, Tryz.ntmps61
  go_wp2
  go_loopw [3, 4, 13] (fun nv v i wr => ∃ k : Nat, k ≤ t.kids.length ∧ i = .int .i64 k ∧ nv = .int .i64 (if k = 0 then t.num else a) ∧ TRow wr (w.heap.size + 2) v k ((t.kids.take k).map (fun k => canN N (actT (swapL t.num a) k))) ∧ Below ((w.alloc (.cells #[.int .i64 t.op, .int .i64 t.num, .slice A t.perm.length c, .slice B t.kids.length d] 31)).alloc (.cells #[.int .i64 0, .int .i64 0, .slice none 0 0, .slice none 0 0] 31)).heap.size ((w.alloc (.cells #[.int .i64 t.op, .int .i64 t.num, .slice A t.perm.length c, .slice B t.kids.length d] 31)).alloc (.cells #[.int .i64 0, .int .i64 0, .slice none 0 0, .slice none 0 0] 31)) wr) (fun _ _ i _ => t.kids.length - (intOf i).toNat)
  case atStart =>
    refine ⟨0, Nat.zero_le _, rfl, rfl, ⟨w.heap.size + 2, 0, [], [], rfl, ?_, .nil, by simp, by simp⟩, (Below.refl _ _).alloc (Nat.le_refl _) _⟩
    have h9 := World.ownsRow_lit (base := ((w.alloc (.cells #[.int .i64 t.op, .int .i64 t.num, .slice A t.perm.length c, .slice B t.kids.length d] 31)).alloc (.cells #[.int .i64 0, .int .i64 0, .slice none 0 0, .slice none 0 0] 31)).heap.size) (e := 31) (size := 4) ((w.alloc (.cells #[.int .i64 t.op, .int .i64 t.num, .slice A t.perm.length c, .slice B t.kids.length d] 31)).alloc (.cells #[.int .i64 0, .int .i64 0, .slice none 0 0, .slice none 0 0] 31)) #[] 0 (Nat.le_refl _) (by decide) rfl
    rw [World.size_alloc, World.size_alloc] at h9
    exact h9
  case round =>
    obtain ⟨k, hk', rfl, rfl, ⟨g, cap, ys, S, rfl, ho, hys, hgS, hSB⟩, hbw⟩ := hrel
    have hb := hb0.trans (hbw.mono hb0.size)
    by_cases hlt : k < t.kids.length
    · generalize (if k = 0 then t.num else a) = n0
      obtain ⟨b, off, A1, c1, B1, e1, rfl, hbl, d0, d1, d2, d3, hy⟩ := kid_cells hk hlt
      rw [← hb.cell (p := ⟨b, _, none⟩) hbl] at d0 d1 d2 d3
      obtain ⟨hres, hbox⟩ := box_row hbw
      have hbx : Below wr.heap.size wr (wr.alloc (.cells #[.int .i64 (tmAt t.kids k).op, .int .i64 (tmAt t.kids k).num, .slice A1 (tmAt t.kids k).perm.length c1, .slice B1 (tmAt t.kids k).kids.length e1] 31)) := (Below.refl _ _).alloc (Nat.le_refl _) _
      have hlb0 : w.heap.size < wr.heap.size := (Array.getElem?_eq_some_iff.1 hbox).1
      obtain ⟨b0, b1, b2, b3⟩ := BoxR.row4 ((hbx.block w.heap.size hlb0).trans hbox)
      have hbz := hb.trans (hbx.mono hb.size)
      have hfr := HFR.out (wr.alloc (.cells #[.int .i64 (tmAt t.kids k).op, .int .i64 (tmAt t.kids k).num, .slice A1 (tmAt t.kids k).perm.length c1, .slice B1 (tmAt t.kids k).kids.length e1] 31)) _ (hx'.below hbz)
      have HY := Lib.hid (fun (W : World) (h : Below w.heap.size w W) => hy.below h)
      have HACk := Lib.hid (HAC.out k hlt)
      have HI := Lib.hid (ih k hlt)
      have hnx := Lib.hid (map_take_nextT (f := fun k => canN N (actT (swapL t.num a) k)) hlt)
      have hxb := heap_alloc_new wr (.cells #[.int .i64 (tmAt t.kids k).op, .int .i64 (tmAt t.kids k).num, .slice A1 (tmAt t.kids k).perm.length c1, .slice B1 (tmAt t.kids k).kids.length e1] 31)
      have HPL := Lib.hid (sw_len t.num a)
      generalize hL2 : actT (swapL t.num a) (tmAt t.kids k) = l2 at HACk HI hnx
      generalize canN N l2 = r at HI hnx
      generalize tmAt t.kids k = u at *
      generalize freeT t = F at *
      have hlb : w.heap.size < wr.heap.size := (Array.getElem?_eq_some_iff.1 hbox).1
      have HBX := Lib.hid hbox
      clear hy hbl ih hk hp hx' hres hcan hL2 HAC HFR hbox
      go_wp2_with fail
      refine hfr.mono ?_
      rintro e wf ⟨gf, cf, rfl, hof, hbf⟩
      have hia : IntsAt wf (some ⟨gf, 0, none⟩) F := by
        obtain ⟨Aq, cq, eq, hh⟩ := own_intsAt hof
        simp only [Value.slice.injEq] at eq
        rw [eq.1]
        exact hh
      have hle := least_spec (some ⟨gf, 0, none⟩) cf F wf hia (by omega)
      rw [HA.out] at hle
      clear hfr hof hia d0 d1 d2 d3 b0 b1 b2 b3
      go_wp2_with fail
      refine hle.mono ?_
      rintro e w' ⟨rfl, rfl⟩
      have hwf := hbx.trans (hbf.mono hbx.size)
      have hdw : Below wf.heap.size wf wf.drew := ⟨rfl, rfl, rfl, Nat.le_refl _, fun _ _ => rfl⟩
      have hwd := hwf.trans (hdw.mono hwf.size)
      have hxlt : wr.heap.size < wf.drew.heap.size := by have := hbf.size; rw [World.size_alloc] at this; show _ < wf.heap.size; omega
      have hxf : wf.drew.heap[wr.heap.size]? = _ := (hbf.block wr.heap.size (by simp)).trans hxb
      have HXF := Lib.hid hxf
      have HTB := Lib.hid (fun (W : World) (h : Below wf.drew.heap.size wf.drew W) => BoxR.row4 (((hwd.trans (h.mono hwd.size)).block w.heap.size hlb).trans HBX.out))
      have HXB := Lib.hid (fun (W : World) (h : Below wf.drew.heap.size wf.drew W) => BoxR.row4 ((h.block wr.heap.size hxlt).trans HXF.out))
      have HYd := Lib.hid (fun (W : World) (h : Below wf.drew.heap.size wf.drew W) => HY.out W ((hb.trans (hwd.mono hb.size)).trans (h.mono (Nat.le_trans hb.size hwd.size))))
      have hsw := HSW.out wf.drew
      obtain ⟨m0, m1, m2, m3⟩ := HTB.out wf.drew (Below.refl _ _)
      obtain ⟨m4, m5, m6, m7⟩ := HXB.out wf.drew (Below.refl _ _)
      clear hle hbx hbf hdw hwf hxf hxb HY HSW
      go_wp2
      go_region_with
        (first
          | (go_at_call 100; refine hsw.mono ?_; rintro e w7 ⟨vp, rfl, opp, hb7⟩; obtain ⟨Ap, cp, rfl, hpa⟩ := own_pairsAt opp; obtain ⟨n0', n1', n2', n3'⟩ := HTB.out w7 hb7; obtain ⟨n4, n5, n6, n7⟩ := HXB.out w7 hb7; have hac := HACk.out w7 _ Ap cp (HYd.out w7 hb7) hpa)
          | (go_at_call 99; refine hac.mono ?_; rintro e w8 ⟨A8, c8, B8, d8, S8, rfl, hL8, hS8, hb8⟩; have hg8 := hb7.trans (hb8.mono hb7.size); obtain ⟨p4, p5, p6, p7⟩ := HXB.out w8 hg8; have hx8 := (hg8.block wr.heap.size hxlt).trans HXF.out; have y0 := frozen_of_row _ _ 0 _ _ hx8; have y1 := frozen_of_row _ _ 1 _ _ hx8; have y2 := frozen_of_row _ _ 2 _ _ hx8; have y3 := frozen_of_row _ _ 3 _ _ hx8)
          | fail)
      all_goals
        have hxlt7 : wr.heap.size < w7.heap.size := Nat.lt_of_lt_of_le hxlt hb7.size
        have hL5 := set4_own hL8 (fun b hb => Nat.ne_of_gt (Nat.lt_of_lt_of_le hxlt7 (hS8 b hb))) (.int .i64 l2.op) (.int .i64 l2.num) (.slice A8 l2.perm.length c8) (.slice B8 l2.kids.length d8)
        have hti := tmOut_in hL5
        have hbx5 := set4_below (hwd.trans (hg8.mono hwd.size)) (Nat.le_refl wr.heap.size) (.int .i64 l2.op) (.int .i64 l2.num) (.slice A8 l2.perm.length c8) (.slice B8 l2.kids.length d8)
        have hk5 := BoxR.set4_box hx8 (.int .i64 l2.op) (.int .i64 l2.num) (.slice A8 l2.perm.length c8) (.slice B8 l2.kids.length d8)
        clear hsw hac opp hpa hb7 hb8 hL8 hS8 hL5 hg8 hx8 hxlt7 n0' n1' n2' n3' n4 n5 n6 n7 p4 p5 p6 p7 m0 m1 m2 m3 m4 m5 m6 m7 hwd hxlt HTB HXB HYd HXF HACk HPL
        generalize ((((w8.setCell ⟨wr.heap.size, 0, none⟩ (.int .i64 l2.op)).setCell ⟨wr.heap.size, 1, none⟩ (.int .i64 l2.num)).setCell ⟨wr.heap.size, 2, none⟩ (.slice A8 l2.perm.length c8)).setCell ⟨wr.heap.size, 3, none⟩ (.slice B8 l2.kids.length d8)) = W5 at hti hbx5 hk5 ⊢
        obtain ⟨s0, s1, s2, s3⟩ := BoxR.row4 hk5
        have hct := HI.out W5 _ hti
        have hox := own_below ho hbx5
        have hysx := hys.alike (w' := W5) (fun b hb => hbx5.block b (hys.lt b hb))
        have hbr := hbw.trans (hbx5.mono hbw.size)
        clear ho hys hbw hb hti hk5 HI hlb HBX
        go_wp2_with fail
        refine hct.mono ?_
        rintro e w2 ⟨A3, c3, A4, c4, T1, rfl, hT1, hTC, hb2⟩
        have hb3 : Below w2.heap.size w2 (w2.alloc (.cells #[.int .i64 r.op, .int .i64 r.num, .slice A3 r.perm.length c3, .slice A4 r.kids.length c4] 31)) := (Below.refl _ _).alloc (Nat.le_refl _) _
        have hb13 := hb2.trans (hb3.mono hb2.size)
        have ho3 := own_below (own_below hox hb2) hb3
        have hbr3 := (hbr.trans (hb2.mono hbr.size)).trans (hb3.mono (Nat.le_trans hbr.size hb2.size))
        obtain ⟨e0, e1', e2, e3⟩ := box4 (Below.refl _ (w2.alloc (.cells #[.int .i64 r.op, .int .i64 r.num, .slice A3 r.perm.length c3, .slice A4 r.kids.length c4] 31)))
        have HC := Lib.hid (four_cells e0 e1' e2 e3)
        have HF1 := Lib.hid (four_one r.op r.num A3 A4 r.perm.length c3 r.kids.length c4)
        have hsz3 := hbr3.size
        have HR : Hid (∀ g1 cap1 w4, w4.ownsRow (w.heap.size + 2) 31 4 (.slice (some ⟨g1, 0, none⟩) (k + 1) cap1) (k + 1) (ys ++ [.int .i64 r.op, .int .i64 r.num, .slice A3 r.perm.length c3, .slice A4 r.kids.length c4]) → (w2.alloc (.cells #[.int .i64 r.op, .int .i64 r.num, .slice A3 r.perm.length c3, .slice A4 r.kids.length c4] 31)).grownBy w4 (some g) → (some g = some g1 ∨ g1 = (w2.alloc (.cells #[.int .i64 r.op, .int .i64 r.num, .slice A3 r.perm.length c3, .slice A4 r.kids.length c4] 31)).heap.size) → TRow w4 (w.heap.size + 2) (.slice (some ⟨g1, 0, none⟩) (k + 1) cap1) (k + 1) ((t.kids.take k).map (fun k => canN N (actT (swapL t.num a) k)) ++ [r])) :=
          Lib.hid (fun g1 cap1 w4 h1 h2 h3 => trow_next (Nat.le_refl _) hox hysx hgS hSB hb13 hT1 hTC hb3 h1 h2 h3)
        have hsz4 : w.heap.size + 2 ≤ (w2.alloc (.cells #[.int .i64 r.op, .int .i64 r.num, .slice A3 r.perm.length c3, .slice A4 r.kids.length c4] 31)).heap.size := by
          have := hb13.size; have := (hox.lt g rfl).2; have := (hox.lt g rfl).1; omega
        clear e0 e1' e2 e3 hox hysx hgS hSB hb2 hb3 hb13 hT1 hTC hct hbr hbx5 s0 s1 s2 s3
        generalize hH : (w2.alloc (.cells #[.int .i64 r.op, .int .i64 r.num, .slice A3 r.perm.length c3, .slice A4 r.kids.length c4] 31)).heap.size = H at hsz4
        have HH := Lib.hid hH
        clear hH
        go_wp2_with (at_builtin; refine wpList_append_lies _ rfl (.tmp 29) (.tmp 32) 29 rfl (w.heap.size + 2) 31 i0 (.agg #[.int .i64 0, .int .i64 0, .slice none 0 0, .slice none 0 0]) 4 64 Tryz.underlying29 hi0 hz0 hz1 HS.out rfl (by decide) _ k _ rfl ho3 ⟨w2.heap.size, 0, none⟩ 1 1 [.int .i64 r.op, .int .i64 r.num, .slice A3 r.perm.length c3, .slice A4 r.kids.length c4] rfl rfl HC.out HF1.out (by decide) ?c3 ?c4 ?c5 H HH.out ?_)
        case c3 => unfold maxLen; omega
        case c4 => omega
        case c5 => rw [HH.out]; exact hsz4
        intro g1 cap1 w4 ho4 hg4 hcase _
        rw [← HH.out] at hcase
        have hrow := HR.out g1 cap1 w4 ho4 hg4 hcase
        rw [← hnx.out] at hrow
        have hb4 := below_own hbr3 ho3 (by rw [World.size_alloc, World.size_alloc]; omega) hsz3 hg4
        clear ho4 hg4 hcase HR ho3 hbr3 HC HF1 hsz3 hsz4 HH hnx
        go_wp2
        refine ⟨⟨k + 1, by omega, by go_num, (by rw [if_neg (by omega)]), hrow, hb4⟩, ?_⟩
        simp only [intOf]
        omega
    · rw [if_neg (show ¬ k = 0 by omega)]
      clear hx' HFR HSW HAC
      have e : k = (t.kids.map (fun k => canN N (actT (swapL t.num a) k))).length := by rw [List.length_map]; omega
      rw [List.take_of_length_le (show t.kids.length ≤ k by omega)] at hys
      subst e
      obtain ⟨hres, hbox⟩ := box_row hbw
      have b0 : wr.cell? ⟨w.heap.size, 0, none⟩ = some (.int .i64 t.op) := by rw [cell_of_row _ w.heap.size 0 _ _ _ hbox]; rfl
      have b1 : wr.cell? ⟨w.heap.size, 1, none⟩ = some (.int .i64 t.num) := by rw [cell_of_row _ w.heap.size 1 _ _ _ hbox]; rfl
      have b2 : wr.cell? ⟨w.heap.size, 2, none⟩ = some (.slice A t.perm.length c) := by rw [cell_of_row _ w.heap.size 2 _ _ _ hbox]; rfl
      have b3 : wr.cell? ⟨w.heap.size, 3, none⟩ = some (.slice B t.kids.length d) := by rw [cell_of_row _ w.heap.size 3 _ _ _ hbox]; rfl
      have HT := Lib.hid hcan
      generalize hK : t.kids.map (fun k => canN N (actT (swapL t.num a) k)) = K at *
      clear hk' hK
      have hwi := l2With_any t a A B c d (some ⟨g, 0, none⟩) K.length cap wr (hp.below hb) hl
      go_wp2_with fail
      refine hwi.mono ?_
      rintro e w5 ⟨A1, c1, S1, rfl, hS1, hS1b, hb5⟩
      have hsr := hbw.size
      rw [World.size_alloc, World.size_alloc] at hsr
      have hres6 := (hb5.block (w.heap.size + 1) (by omega)).trans hres
      have ho5 := own_below ho hb5
      have hys5 := hys.alike (w' := w5) (fun b hb => hb5.block b (hys.lt b hb))
      have hbz5 := hb.trans (hb5.mono hb.size)
      have hSg : ∀ b ∈ S1, b ∉ g :: S := fun b h1 h2 => by
        have h3 := hS1b b h1
        rcases List.mem_cons.1 h2 with h4 | h4
        · have := (ho.lt g rfl).2; omega
        · have := hys.lt b h4; omega
      have hpost := act_done (w := w) (w5 := w5) (R := w.heap.size + 1) HT.out hS1 (fun b hb => by have := hS1b b hb; omega) ho5 hys5 hgS (fun b hb => by have := hSB b hb; omega) hSg (by omega) hbz5
      have r0 : w5.cell? ⟨w.heap.size + 1, 0, none⟩ = some (.int .i64 0) := by rw [cell_of_row _ (w.heap.size + 1) 0 _ _ _ hres6]; rfl
      have r1 : w5.cell? ⟨w.heap.size + 1, 1, none⟩ = some (.int .i64 0) := by rw [cell_of_row _ (w.heap.size + 1) 1 _ _ _ hres6]; rfl
      have r2 : w5.cell? ⟨w.heap.size + 1, 2, none⟩ = some (.slice none 0 0) := by rw [cell_of_row _ (w.heap.size + 1) 2 _ _ _ hres6]; rfl
      have r3 : w5.cell? ⟨w.heap.size + 1, 3, none⟩ = some (.slice none 0 0) := by rw [cell_of_row _ (w.heap.size + 1) 3 _ _ _ hres6]; rfl
      have z0 : w5.frozen? ⟨w.heap.size + 1, 0, none⟩ = false := frozen_of_row _ (w.heap.size + 1) 0 _ _ hres6
      have z1 : w5.frozen? ⟨w.heap.size + 1, 1, none⟩ = false := frozen_of_row _ (w.heap.size + 1) 1 _ _ hres6
      have z2 : w5.frozen? ⟨w.heap.size + 1, 2, none⟩ = false := frozen_of_row _ (w.heap.size + 1) 2 _ _ hres6
      have z3 : w5.frozen? ⟨w.heap.size + 1, 3, none⟩ = false := frozen_of_row _ (w.heap.size + 1) 3 _ _ hres6
      clear ho5 hys5 hbz5 hwi hS1 hS1b hb5 hsr hres6 hSg hbox hres ho hys hgS hSB hbw hb hp ih hk HT hb0 hcan HA
      go_wp2
      exact bodyPost_ret (v := .agg #[.int .i64 t.op, .int .i64 a, .slice A1 t.perm.length c1, .slice (some ⟨g, 0, none⟩) K.length cap]) (by simp [results, Tryz.results61, go_sem, r0, r1, r2, r3]) rfl hpost

theorem l2Canon_any : ∀ (N : Nat) (t : Tm), szT t ≤ N → N ≤ 60 → ShT t → ∀ M : Nat, M + 2 * N ≤ 1048576 → OkP M t → ∀ (w : World) (x : Value), TmIn w x t → Calls Tryz.prog 61 #[x] w (TmOut (canN N t) w) := by
  intro N
  induction N with
  | zero => intro t h; rw [szT_eq] at h; omega
  | succ N ih =>
    intro t hN h60 hs M hM hP w x hx
    have hpl : t.perm.length ≤ 1048576 := by
      cases t with
      | mk o n p ks => have h := hP.2.1; rw [perm_mk]; omega
    have hsz := hN
    rw [szT_eq] at hN
    have hlen := len_szTs t.kids
    by_cases h3 : t.op = 3
    · have hk1 : t.kids.length = 1 := by
        cases t with
        | mk o n p ks => exact hs.2.2.1 h3
      refine l2Canon_bind N (leastF (freeT t)) t x w hx h3 rfl hpl (by omega) (by omega) (okPs_le (by omega) (okP_kids hP)) fun i hi w' y hy => ?_
      have := szT_at hi
      exact ih _ (by rw [szT_actT]; omega) (by omega) (sh_act _ (sh_at (sh_kids hs) hi)) (M + 2) (by omega) (okP_le (by have := sw_len t.num (leastF (freeT t)); omega) (okP_act _ (okP_at (okP_kids hP) hi))) w' y hy
    · refine l2Canon_kids N t x w hx h3 hpl (by omega) fun i hi w' y hy => ?_
      have := szT_at hi
      exact ih _ (by omega) (by omega) (sh_at (sh_kids hs) hi) M (by omega) (okP_at (okP_kids hP) hi) w' y hy

set_option maxRecDepth 100000 in
set_option maxHeartbeats 2000000 in
theorem canonicalTerm_spec (t : Tm) (x : Value) (w : World) (hx : TmIn w x t) (hc : cntT t ≤ 1048576) :
    Calls Tryz.prog 16 #[x] w (TmOutB (orT (canN 60 t) (groundB t)) (groundB t) w) := by
  have hx' := hx
  obtain ⟨A, c, kv, rfl, hp, hk⟩ := hx
  obtain ⟨B, d, rfl⟩ := hk.form
  have hb0 : Below w.heap.size w ((w.alloc (.cells #[.int .i64 t.op, .int .i64 t.num, .slice A t.perm.length c, .slice B t.kids.length d] 31)).alloc (.cells #[.int .i64 0, .int .i64 0, .slice none 0 0, .slice none 0 0] 31)) := ((Below.refl _ _).alloc (Nat.le_refl _) _).alloc (by simp) _
  have hsz : ((w.alloc (.cells #[.int .i64 t.op, .int .i64 t.num, .slice A t.perm.length c, .slice B t.kids.length d] 31)).alloc (.cells #[.int .i64 0, .int .i64 0, .slice none 0 0, .slice none 0 0] 31)).heap.size = w.heap.size + 2 := by simp
  have HSZ := Lib.hid hsz
  obtain ⟨hres, hbox⟩ := box_row (Below.refl _ ((w.alloc (.cells #[.int .i64 t.op, .int .i64 t.num, .slice A t.perm.length c, .slice B t.kids.length d] 31)).alloc (.cells #[.int .i64 0, .int .i64 0, .slice none 0 0, .slice none 0 0] 31)))
  have HBX := Lib.hid hbox
  have HRS := Lib.hid hres
  clear hk hp hsz hbox hres
  have hgr := ground_spec t _ _ (hx'.below hb0) hc
  cases hg : groundB t with
  | false =>
    rw [hg] at hgr
    clear hx' hc
    go_enter Tryz.func16, Tryz.ntmps16
    go_wp2_with fail
    refine hgr.mono ?_
    rintro e w2 ⟨rfl, hb2⟩
    have hres2 := (hb2.block (w.heap.size + 1) (by rw [HSZ.out]; omega)).trans HRS.out
    have r0 : w2.cell? ⟨w.heap.size + 1, 0, none⟩ = some (.int .i64 0) := by rw [cell_of_row _ (w.heap.size + 1) 0 _ _ _ hres2]; rfl
    have r1 : w2.cell? ⟨w.heap.size + 1, 1, none⟩ = some (.int .i64 0) := by rw [cell_of_row _ (w.heap.size + 1) 1 _ _ _ hres2]; rfl
    have r2 : w2.cell? ⟨w.heap.size + 1, 2, none⟩ = some (.slice none 0 0) := by rw [cell_of_row _ (w.heap.size + 1) 2 _ _ _ hres2]; rfl
    have r3 : w2.cell? ⟨w.heap.size + 1, 3, none⟩ = some (.slice none 0 0) := by rw [cell_of_row _ (w.heap.size + 1) 3 _ _ _ hres2]; rfl
    have z0 : w2.frozen? ⟨w.heap.size + 1, 0, none⟩ = false := frozen_of_row _ (w.heap.size + 1) 0 _ _ hres2
    have z1 : w2.frozen? ⟨w.heap.size + 1, 1, none⟩ = false := frozen_of_row _ (w.heap.size + 1) 1 _ _ hres2
    have z2 : w2.frozen? ⟨w.heap.size + 1, 2, none⟩ = false := frozen_of_row _ (w.heap.size + 1) 2 _ _ hres2
    have z3 : w2.frozen? ⟨w.heap.size + 1, 3, none⟩ = false := frozen_of_row _ (w.heap.size + 1) 3 _ _ hres2
    have hbz := hb0.trans (hb2.mono hb0.size)
    have hpost : TmOutB tm0 false w (.returned (.tuple #[.agg #[.int .i64 0, .int .i64 0, .slice none 0 0, .slice none 0 0], .bool false])) ((((w2.setCell ⟨w.heap.size + 1, 0, none⟩ (.int .i64 0)).setCell ⟨w.heap.size + 1, 1, none⟩ (.int .i64 0)).setCell ⟨w.heap.size + 1, 2, none⟩ (.slice none 0 0)).setCell ⟨w.heap.size + 1, 3, none⟩ (.slice none 0 0)) :=
      ⟨none, 0, none, 0, _, rfl, own_four own_none own_nokids (fun b hb => by simp at hb), fun b hb => by simp at hb, set4_below hbz (by omega) _ _ _ _⟩
    clear hgr hb0 hb2 hres2 hbz HBX HRS HSZ
    go_wp2
    exact bodyPost_ret (v := .tuple #[.agg #[.int .i64 0, .int .i64 0, .slice none 0 0, .slice none 0 0], .bool false]) (by simp [results, Tryz.results16, go_sem, r0, r1, r2, r3]) rfl (by rw [orT_no]; exact hpost)
  | true =>
    rw [hg] at hgr
    have ht := ground_term hg
    have hcn := fun (W : World) (y : Value) (hW : TmIn W y t) => l2Canon_any 60 t (term_size ht) (Nat.le_refl _) (sh_good (term_good ht)) 40 (by decide) (okP_good (term_good ht)) W y hW
    rw [show orT (canN 60 t) true = canN 60 t from rfl]
    generalize canN 60 t = r at *
    clear hg ht hc
    go_enter Tryz.func16, Tryz.ntmps16
    go_wp2_with fail
    refine hgr.mono ?_
    rintro e w2 ⟨rfl, hb2⟩
    have hbz5 := hb0.trans (hb2.mono hb0.size)
    have hbox2 := (hb2.block w.heap.size (by rw [HSZ.out]; omega)).trans HBX.out
    have b0 : w2.cell? ⟨w.heap.size, 0, none⟩ = some (.int .i64 t.op) := by rw [cell_of_row _ w.heap.size 0 _ _ _ hbox2]; rfl
    have b1 : w2.cell? ⟨w.heap.size, 1, none⟩ = some (.int .i64 t.num) := by rw [cell_of_row _ w.heap.size 1 _ _ _ hbox2]; rfl
    have b2 : w2.cell? ⟨w.heap.size, 2, none⟩ = some (.slice A t.perm.length c) := by rw [cell_of_row _ w.heap.size 2 _ _ _ hbox2]; rfl
    have b3 : w2.cell? ⟨w.heap.size, 3, none⟩ = some (.slice B t.kids.length d) := by rw [cell_of_row _ w.heap.size 3 _ _ _ hbox2]; rfl
    have hres5 := (hb2.block (w.heap.size + 1) (by rw [HSZ.out]; omega)).trans HRS.out
    have hlt5 : w.heap.size + 1 < w2.heap.size := by have := hb2.size; rw [HSZ.out] at this; omega
    have hcn2 := hcn w2 _ (hx'.below hbz5)
    clear hgr hcn hx' hbox2 hb2 hb0 HBX HRS HSZ
    go_wp2_with fail
    refine hcn2.mono ?_
    rintro e w6 ⟨A6, c6, B6, d6, S6, rfl, hL6, hS6, hb6⟩
    have hres6 := (hb6.block (w.heap.size + 1) hlt5).trans hres5
    have hbz6 := hbz5.trans (hb6.mono hbz5.size)
    have r0 : w6.cell? ⟨w.heap.size + 1, 0, none⟩ = some (.int .i64 0) := by rw [cell_of_row _ (w.heap.size + 1) 0 _ _ _ hres6]; rfl
    have r1 : w6.cell? ⟨w.heap.size + 1, 1, none⟩ = some (.int .i64 0) := by rw [cell_of_row _ (w.heap.size + 1) 1 _ _ _ hres6]; rfl
    have r2 : w6.cell? ⟨w.heap.size + 1, 2, none⟩ = some (.slice none 0 0) := by rw [cell_of_row _ (w.heap.size + 1) 2 _ _ _ hres6]; rfl
    have r3 : w6.cell? ⟨w.heap.size + 1, 3, none⟩ = some (.slice none 0 0) := by rw [cell_of_row _ (w.heap.size + 1) 3 _ _ _ hres6]; rfl
    have z0 : w6.frozen? ⟨w.heap.size + 1, 0, none⟩ = false := frozen_of_row _ (w.heap.size + 1) 0 _ _ hres6
    have z1 : w6.frozen? ⟨w.heap.size + 1, 1, none⟩ = false := frozen_of_row _ (w.heap.size + 1) 1 _ _ hres6
    have z2 : w6.frozen? ⟨w.heap.size + 1, 2, none⟩ = false := frozen_of_row _ (w.heap.size + 1) 2 _ _ hres6
    have z3 : w6.frozen? ⟨w.heap.size + 1, 3, none⟩ = false := frozen_of_row _ (w.heap.size + 1) 3 _ _ hres6
    have hpost : TmOutB r true w (.returned (.tuple #[.agg #[.int .i64 r.op, .int .i64 r.num, .slice A6 r.perm.length c6, .slice B6 r.kids.length d6], .bool true])) ((((w6.setCell ⟨w.heap.size + 1, 0, none⟩ (.int .i64 r.op)).setCell ⟨w.heap.size + 1, 1, none⟩ (.int .i64 r.num)).setCell ⟨w.heap.size + 1, 2, none⟩ (.slice A6 r.perm.length c6)).setCell ⟨w.heap.size + 1, 3, none⟩ (.slice B6 r.kids.length d6)) :=
      ⟨A6, c6, B6, d6, S6, rfl, set4_own hL6 (fun b hb => by have := hS6 b hb; omega) _ _ _ _, fun b hb => by have := hS6 b hb; omega, set4_below hbz6 (by omega) _ _ _ _⟩
    clear hcn2 b0 b1 b2 b3 hL6 hS6 hb6 hres5 hres6 hbz5 hbz6
    go_wp2
    exact bodyPost_ret (v := .tuple #[.agg #[.int .i64 r.op, .int .i64 r.num, .slice A6 r.perm.length c6, .slice B6 r.kids.length d6], .bool true]) (by simp [results, Tryz.results16, go_sem, r0, r1, r2, r3]) rfl hpost

end Go.Proofs.YtbfkfklaplgebaaGreat
