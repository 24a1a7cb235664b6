/-
  An orbit set that the model draws, which may be none: a contract. An orbit set, which may be none, and a list of atoms, that the model draws: a contract. ActOnSet of the program, as a contract.
-/
import Derived.Test.YtnamlgacjhnpnaaGreatKReduced18
import Derived.Test.YtnamlgacjhnpnaaGreatKReduced26
import Derived.Test.YtnamlgacjhnpnaaGreatKReduced27
import Derived.Test.YtnamlgacjhnpnaaGreatKReduced28
import Derived.Test.YtnamlgacjhnpnaaGreatKReduced14
import Derived.Test.YtnamlgacjhnpnaaGreatKReduced16
import Derived.Test.YtnamlgacjhnpnaaGreatKReduced4
import Derived.Test.YtnamlgacjhnpnaaGreatKReduced19
import Derived.Deep.RegionHeld3
section
namespace Go.Proofs.YtnamlgacjhnpnaaGreat
open Go.RowKit Go.Sort
set_option linter.unusedVariables false

namespace DrawN
theorem ownL_cells_nil {w : World} : ∀ {us : List Value} {S : List Nat} {vs : List Value}, OwnL w S vs (us.map Mem.cell) → S = []
  | [], _, _, h => by
    rw [List.map_nil] at h
    cases h
    rfl
  | u :: r, _, _, h => by
    rw [List.map_cons] at h
    cases h with
    | cons h k hd =>
      rw [own_cell_nil _ h, ownL_cells_nil k]
      rfl
theorem own_ints0 {w : World} {T : List Nat} {v : Value} {l : List Int} (h : Own w T v (intMem l)) : w.ownsRow 0 3 1 v l.length (icells l) ∧ T = v.ownBlock.toList := by
  unfold intMem at h
  generalize hm : (icells l).map Mem.cell = ms at h
  cases h with
  | nil =>
    have h0 : l.length = 0 := by
      have := congrArg List.length hm
      simpa [icells_len] using this
    rw [List.eq_nil_of_length_eq_zero h0]
    exact ⟨World.ownsRow_nil w _ _ _, rfl⟩
  | row hl ho hL hg =>
    subst hm
    have e := atL_cells hL.at_
    have e2 := ownL_cells_nil hL
    rename_i g n cap xs S'
    rw [List.length_map, icells_len] at hl
    have en : n = l.length := by omega
    subst en
    rw [e] at ho
    rw [e2]
    exact ⟨ho, rfl⟩
theorem orb_split {w : World} {S : List Nat} {z : Int} {l : List Int} {m : List (List Int)} {A1 A2 : Option Addr} {c1 c2 : Nat} (h : OwnL w S [.int .i64 z, .slice A1 l.length c1, .slice A2 m.length c2] (encO z l m)) :
    ∃ S1 S2, Own w S1 (.slice A1 l.length c1) (intMem l) ∧ Own w S2 (.slice A2 m.length c2) (rowsMem m) ∧ (∀ b ∈ S1, b ∉ S2) ∧ (∀ b ∈ S1, b ∈ S) ∧ ∀ b ∈ S2, b ∈ S := by
  unfold encO at h
  cases h with
  | cons h0 h hd0 =>
    cases h with
    | cons h1 h hd1 =>
      cases h with
      | cons h2 h hd2 =>
        exact ⟨_, _, h1, h2, fun b hb hb2 => hd1 b hb (List.mem_append_left _ hb2), fun b hb => List.mem_append_right _ (List.mem_append_left _ hb), fun b hb => List.mem_append_right _ (List.mem_append_right _ (List.mem_append_left _ hb))⟩
/-- A drawn orbit set, which may be none: of the call's own. -/
def AnySet (B C : Nat) (w : World) (e : Ending) (w' : World) : Prop :=
  ∃ (z : Int) (l : List Int) (m : List (List Int)) (A1 : Option Addr) (c1 : Nat) (A2 : Option Addr) (c2 : Nat) (S1 S2 : List Nat),
    e = .returned (.agg #[.int .i64 z, .slice A1 l.length c1, .slice A2 m.length c2]) ∧ l.length ≤ 3 ∧ m.length + sumR m ≤ 40000 ∧
    Own w' S1 (.slice A1 l.length c1) (intMem l) ∧ Own w' S2 (.slice A2 m.length c2) (rowsMem m) ∧ (∀ b ∈ S1, w.heap.size + 1 ≤ b) ∧ (∀ b ∈ S2, w.heap.size + 1 ≤ b) ∧ Drew B C w w'
theorem any_done {B C : Nat} {w wz : World} {r n1 n2 : Nat} {z : Int} {l : List Int} {m : List (List Int)} {A1 A2 : Option Addr} {c1 c2 : Nat} {S1 S2 : List Nat} (hC : C < w.heap.size) (e1 : n1 = l.length) (e2 : n2 = m.length) (hl : l.length ≤ 3) (hm : m.length + sumR m ≤ 40000) (h1 : Own wz S1 (.slice A1 n1 c1) (intMem l)) (h2 : Own wz S2 (.slice A2 n2 c2) (rowsMem m))
    (b1 : ∀ b ∈ S1, w.heap.size + 1 ≤ b) (b2 : ∀ b ∈ S2, w.heap.size + 1 ≤ b) (hd : Drew B C w wz) (hr : r = w.heap.size) :
    AnySet B C w (.returned (.agg #[.int .i64 z, .slice A1 n1 c1, .slice A2 n2 c2])) (((wz.setCell ⟨r, 0, none⟩ (.int .i64 z)).setCell ⟨r, 1, none⟩ (.slice A1 n1 c1)).setCell ⟨r, 2, none⟩ (.slice A2 n2 c2)) := by
  subst hr
  subst e1
  subst e2
  have onF : Only [w.heap.size] wz (((wz.setCell ⟨w.heap.size, 0, none⟩ (.int .i64 z)).setCell ⟨w.heap.size, 1, none⟩ (.slice A1 l.length c1)).setCell ⟨w.heap.size, 2, none⟩ (.slice A2 m.length c2)) := OrbQ.set3_only _ _ _ _ _
  exact ⟨z, l, m, A1, c1, A2, c2, S1, S2, rfl, hl, hm, h1.alike fun b hb => onF.block b (h1.lt b hb) (by have := b1 b hb; simp; omega), h2.alike fun b hb => onF.block b (h2.lt b hb) (by have := b2 b hb; simp; omega), b1, b2, only_drew hC hd onF (fun b hb => by simp at hb; omega)⟩
theorem sum_snoc (m : List (List Int)) (p : List Int) : (m ++ [p]).length + sumR (m ++ [p]) = m.length + sumR m + (1 + p.length) := by
  rw [List.length_append, sumR_append]
  simp [sumR]
  omega
end DrawN

set_option maxRecDepth 100000 in
set_option maxHeartbeats 8000000 in
theorem l6Any_any (B C : Nat) (w : World) (hc : Cur w B C) :
    Calls Tryz.prog 89 #[.pointer (some ⟨C, 0, none⟩)] w (DrawN.AnySet B C w) := by
  obtain ⟨i0, hi0, hzz, hz1, hz2⟩ := info_parts DrawN.int_info
  have HS := Lib.hid hz2
  clear hz2
  have hC := hc.lt
  have hr0 := heap_alloc_new w (.cells #[.int .i64 0, .slice none 0 0, .slice none 0 0] 27)
  have hd0 : Drew B C w (w.alloc (.cells #[.int .i64 0, .slice none 0 0, .slice none 0 0] 27)) := (Drew.of hc).alloc _
  have hz0 : (w.alloc (.cells #[.int .i64 0, .slice none 0 0, .slice none 0 0] 27)).heap.size = w.heap.size + 1 := by simp
  have hbl := l1Below_int B C 4 _ hd0.1 (by omega) (by omega)
  have HR0 := Lib.hid hr0
  have HZ0 := Lib.hid hz0
  clear hc hr0 hz0
  go_enter Tryz.func89, Tryz.ntmps89
  go_wp2_with fail
  refine hbl.mono ?_
  rintro e w1 ⟨x, hx, rfl, hd1⟩
  have hs1 : w.heap.size + 1 ≤ w1.heap.size := by have := hd1.2.size; rw [HZ0.out] at this; exact this
  have r1 := ((DrawN.drew_only hd1).block w.heap.size (by rw [HZ0.out]; omega) (by simp; omega)).trans HR0.out
  have hdr := l6Draw_any B C x (by omega) 2 (by omega) w1 hd1.1
  have hD1 := hd0.trans hd1
  clear hbl hd0 hd1 HR0 HZ0
  go_wp2_with fail
  refine hdr.mono ?_
  rintro e w2 ⟨cs, M, A1, c1, A2, c2, S, rfl, hl, _, _, hn, hL, hS, hd2⟩
  obtain ⟨S1, S2, hO1, hO2, hdj, hi1, hi2⟩ := DrawN.orb_split hL
  have hb1 : ∀ b ∈ S1, w.heap.size + 1 ≤ b := fun b hb => Nat.le_trans hs1 (hS b (hi1 b hb))
  have hb2 : ∀ b ∈ S2, w.heap.size + 1 ≤ b := fun b hb => Nat.le_trans hs1 (hS b (hi2 b hb))
  have hs2 := hd2.2.size
  have r2 := ((DrawN.drew_only hd2).block w.heap.size (by omega) (by simp; omega)).trans r1
  have hD2 := hD1.trans hd2
  have hfit : M.length + sumR M ≤ 32768 := normal_fit (k := (cs.length : Int)) (by omega) (by omega) (by omega) hn
  have hbx : Below w2.heap.size w2 (w2.alloc (.cells #[.int .i64 (x : Int), .slice A1 cs.length c1, .slice A2 M.length c2] 27)) := (Below.refl _ _).alloc (Nat.le_refl _) _
  have k3 : (w2.alloc (.cells #[.int .i64 (x : Int), .slice A1 cs.length c1, .slice A2 M.length c2] 27)).heap[w2.heap.size]? = some (.cells #[.int .i64 (x : Int), .slice A1 cs.length c1, .slice A2 M.length c2] 27 (0, 0)) := heap_alloc_new w2 _
  have hD3 := DrawN.below_drew hC hD2 hbx
  have hP1 := hO1.keep hbx
  have hP2 := hO2.keep hbx
  have hl1 : ∀ b ∈ S1, b < w2.heap.size := fun b hb => hO1.lt b hb
  have hl2 : ∀ b ∈ S2, b < w2.heap.size := fun b hb => hO2.lt b hb
  have r3 := (hbx.block w.heap.size (by omega)).trans r2
  have hz3 : (w2.alloc (.cells #[.int .i64 (x : Int), .slice A1 cs.length c1, .slice A2 M.length c2] 27)).heap.size = w2.heap.size + 1 := by simp
  have hbl2 := l1Below_int B C 14 (w2.alloc (.cells #[.int .i64 (x : Int), .slice A1 cs.length c1, .slice A2 M.length c2] 27)) hD3.1 (by omega) (by omega)
  have HK3 := Lib.hid k3
  have HR3 := Lib.hid r3
  have HP1 := Lib.hid hP1
  have HP2 := Lib.hid hP2
  have HD3 := Lib.hid hD3
  have HZ3 := Lib.hid hz3
  have HB1 := Lib.hid hb1
  have HB2 := Lib.hid hb2
  have HL1 := Lib.hid hl1
  have HL2 := Lib.hid hl2
  have HDJ := Lib.hid hdj
  clear hdr hL hS hd2 hO1 hO2 hi1 hi2 hb1 hb2 r1 r2 hD1 hD2 hbx k3 hD3 hP1 hP2 hl1 hl2 r3 hz3 hn hdj
  go_wp2_with fail
  refine hbl2.mono ?_
  rintro e w3 ⟨k, hk, rfl, hd3⟩
  have on3 := DrawN.drew_only hd3
  have hC2 : C ≠ w2.heap.size := by omega
  have K := Lib.hid ((on3.block w2.heap.size (by rw [HZ3.out]; omega) (by simp; omega)).trans HK3.out)
  have R := Lib.hid ((on3.block w.heap.size (OrbK.box_lt HR3.out) (by simp; omega)).trans HR3.out)
  have O1 := Lib.hid (HP1.out.alike (w' := w3) fun b hb => on3.block b (HP1.out.lt b hb) (by have := HB1.out b hb; simp; omega))
  have O2 := Lib.hid (HP2.out.alike (w' := w3) fun b hb => on3.block b (HP2.out.lt b hb) (by have := HB2.out b hb; simp; omega))
  have HD := Lib.hid (HD3.out.trans hd3)
  have hs3 : w2.heap.size + 1 ≤ w3.heap.size := by have := hd3.2.size; rw [HZ3.out] at this; exact this
  have hne : ¬ w.heap.size = w2.heap.size := by omega
  have hne2 : ¬ w2.heap.size = w.heap.size := by omega
  obtain ⟨g, hg⟩ : ∃ g : Nat, g = w2.heap.size := ⟨_, rfl⟩
  rw [← hg] at K hs3 hC2 hne hne2 HL1 HL2 ⊢
  have HGR : Hid (g = w2.heap.size ∧ w.heap.size + 1 ≤ g ∧ C < w.heap.size) := Lib.hid ⟨hg, by omega, hC⟩
  clear hbl2 hd3 on3 HK3 HR3 HP1 HP2 HD3 HZ3 hg hs1 hs2
  by_cases e0 : k = 0
  · subst e0
    have hod := l1Odd_any B C w3 HD.out.1
    go_wp2_with fail
    refine hod.mono ?_
    rintro e w4 ⟨y, rfl, hd4⟩
    have on4 := DrawN.drew_only hd4
    have K4 := (on4.block g (OrbK.box_lt K.out) (by have := HGR.out; simp; omega)).trans K.out
    have R4 := (on4.block w.heap.size (OrbK.box_lt R.out) (by have := HGR.out; simp; omega)).trans R.out
    have onS : Only [g] w4 (w4.setCell ⟨g, 0, none⟩ (.int .i64 y)) := (Only.refl _ _).set ⟨g, 0, none⟩ _ (by simp)
    have O14 := O1.out.alike (w' := w4) fun b hb => on4.block b (O1.out.lt b hb) (by have := HB1.out b hb; simp; omega)
    have O24 := O2.out.alike (w' := w4) fun b hb => on4.block b (O2.out.lt b hb) (by have := HB2.out b hb; simp; omega)
    have O15 := O14.alike (w' := w4.setCell ⟨g, 0, none⟩ (.int .i64 y)) fun b hb => onS.block b (O14.lt b hb) (by have := HL1.out b hb; simp; omega)
    have O25 := O24.alike (w' := w4.setCell ⟨g, 0, none⟩ (.int .i64 y)) fun b hb => onS.block b (O24.lt b hb) (by have := HL2.out b hb; simp; omega)
    have hD5 := DrawN.only_drew hC (HD.out.trans hd4) onS (fun b hb => by have := HGR.out; simp at hb; omega)
    obtain ⟨b0, b1, b2⟩ := OrbK.row3 K4
    have f0 := frozen_of_row _ _ 0 _ _ K4
    obtain ⟨s0, s1, s2⟩ := OrbK.row3 R4
    obtain ⟨y0, y1, y2⟩ := z3At R4
    have hpost := Lib.hid (DrawN.any_done (r := w.heap.size) (z := y) (l := cs) (m := M) hC rfl rfl (by omega) (by omega) O15 O25 HB1.out HB2.out hD5 rfl)
    clear hod hd4 on4 onS O14 O24 O15 O25 hD5 K4 R4
    go_wp2
    exact bodyPost_ret (v := .agg #[.int .i64 (y), .slice A1 (cs.length) c1, .slice A2 (M.length) c2]) (by simp [results, Tryz.results89, go_sem, s0, s1, s2]) rfl hpost.out
  · by_cases e1 : k = 1
    · subst e1
      obtain ⟨hoi, hsb⟩ := DrawN.own_ints0 O1.out
      have HOI := Lib.hid hoi
      have HSB := Lib.hid hsb
      have od : Only [C] w3 w3.drew := ⟨rfl, rfl, rfl, Nat.le_refl _, fun _ _ _ => rfl⟩
      have hod := l1Odd_any B C w3.drew HD.out.1
      have HK1 : Hid (∀ W : World, Only [C] w3 W → W.heap[g]? = some (.cells #[.int .i64 (x : Int), .slice A1 cs.length c1, .slice A2 M.length c2] 27 (0, 0))) := Lib.hid (fun W h => (h.block g (OrbK.box_lt K.out) (by have := HGR.out; simp; omega)).trans K.out)
      have HC1 : Hid (∀ W : World, Only [C] w3 W → W.cell? ⟨g, 1, none⟩ = some (.slice A1 cs.length c1)) := Lib.hid (fun W h => (OrbK.row3 (HK1.out W h)).2.1)
      have q1 := HC1.out w3.drew od
      have q0 := HC1.out w3 (Only.refl _ _)
      clear hoi hsb
      go_wp2
      go_region_law (first
        | (refine step_append_lies _ (by rfl) _ _ 24 (by rfl) 0 3 i0 (.int .i64 0) 1 8 Tryz.underlying24 hi0 hzz hz1 HS.out rfl (by decide) _ cs.length _ (by rfl) hoA ⟨w4.heap.size, 0, none⟩ 1 1 [.int .i64 y] (by rfl) (by rfl) HC.out (DrawN.int_one _) (by decide) (by unfold maxLen; omega) (by omega) (Nat.zero_le _) _ rfl ?_; intro g5 cap5 w5 ho5 hg5 hcase hlt5; have hgn : some g ≠ (Value.slice A1 cs.length c1).ownBlock := (fun e => by have h9 := HL1.out g (by rw [HSB.out, ← e]; simp); have := HGR.out; omega); have K5 : w5.heap[g]? = some (.cells #[.int .i64 (x : Int), .slice A1 cs.length c1, .slice A2 M.length c2] 27 (0, 0)) := (hg5.block g (Nat.lt_of_lt_of_le (OrbK.box_lt (HK1.out w4 on4)) hbf.size) hgn).trans ((hbf.block g (OrbK.box_lt (HK1.out w4 on4))).trans (HK1.out w4 on4)); obtain ⟨t0, t1, t2⟩ := OrbK.row3 K5; have tz := frozen_of_row _ _ 1 _ _ K5)
        | (go_simp; go_at_call 119; (with_reducible refine hod.mono ?_); rintro e w4 ⟨y, rfl, hd4⟩; have on4 : Only [C] w3 w4 := od.trans (DrawN.drew_only hd4); have q4 := HC1.out w4 on4; have hbf : Below w4.heap.size w4 (w4.alloc (.cells #[.int .i64 y] 3)) := (Below.refl _ _).alloc (Nat.le_refl _) _; have q5 := (hbf.cell (p := ⟨g, 1, none⟩) (OrbK.box_lt (HK1.out w4 on4))).trans q4; have O14 := O1.out.alike (w' := w4) (fun b hb => on4.block b (O1.out.lt b hb) (by have := HB1.out b hb; simp; omega)); have hoA := (DrawN.own_ints0 O14).1.alloc (.cells #[.int .i64 y] 3); have hcell : (w4.alloc (.cells #[.int .i64 y] 3)).cell? ⟨w4.heap.size, 0, none⟩ = some (.int .i64 y) := (by simp); have HC := Lib.hid (DrawN.one_cell hcell))
        | fail)
      all_goals (
        have hgr := HGR.out
        have hrb : some w.heap.size ≠ (Value.slice A1 cs.length c1).ownBlock := fun e => by
          have h9 := HB1.out w.heap.size (by rw [HSB.out, ← e]; simp)
          omega
        have R4 := (on4.block w.heap.size (OrbK.box_lt R.out) (by simp; omega)).trans R.out
        have R5 : w5.heap[w.heap.size]? = some (.cells #[.int .i64 0, .slice none 0 0, .slice none 0 0] 27 (0, 0)) := (hg5.block w.heap.size (Nat.lt_of_lt_of_le (OrbK.box_lt R4) hbf.size) hrb).trans ((hbf.block w.heap.size (OrbK.box_lt R4)).trans R4)
        have O24 := O2.out.alike (w' := w4) fun b hb => on4.block b (O2.out.lt b hb) (by have := HB2.out b hb; simp; omega)
        have O25 := (O24.keep hbf).alike (w' := w5) fun b hb => hg5.block b ((O24.keep hbf).lt b hb) (fun e => by
          have h9 : b ∈ S1 := by rw [HSB.out, ← e]; simp
          exact HDJ.out b h9 hb)
        obtain ⟨S5, hO15, _, hS5⟩ := own_intRow (l := cs ++ [y]) (v := .slice (some ⟨g5, 0, none⟩) (cs.length + 1) cap5) (by rw [List.length_append, icells_append]; exact ho5)
        have hS5b : ∀ b ∈ S5, b = g5 := fun b hb => by rw [hS5] at hb; simpa [Value.ownBlock] using hb
        have hg5n : w.heap.size + 1 ≤ g5 ∧ g5 ≠ g := by
          rcases hcase with h9 | h9
          · have h8 : g5 ∈ S1 := by rw [HSB.out, h9]; simp
            have h7 := HL1.out g5 h8
            exact ⟨HB1.out g5 h8, by omega⟩
          · rw [h9]
            have h8 := OrbK.box_lt (HK1.out w4 on4)
            have h7 := hbf.size
            exact ⟨by omega, by omega⟩
        have onS : Only [g] w5 (w5.setCell ⟨g, 1, none⟩ (.slice (some ⟨g5, 0, none⟩) (cs.length + 1) cap5)) := (Only.refl _ _).set ⟨g, 1, none⟩ _ (by simp)
        have O16 := hO15.alike (w' := w5.setCell ⟨g, 1, none⟩ (.slice (some ⟨g5, 0, none⟩) (cs.length + 1) cap5)) fun b hb => onS.block b (hO15.lt b hb) (by have := hS5b b hb; have := hg5n; simp; omega)
        have O26 := O25.alike (w' := w5.setCell ⟨g, 1, none⟩ (.slice (some ⟨g5, 0, none⟩) (cs.length + 1) cap5)) fun b hb => onS.block b (O25.lt b hb) (by have := HL2.out b hb; simp; omega)
        have hD4 : Drew B C w w4 := (DrawN.below_drew hC HD.out (⟨rfl, rfl, rfl, Nat.le_refl _, fun _ _ => rfl⟩ : Below w3.heap.size w3 w3.drew)).trans hd4
        have hD5 := DrawN.drew_grown hC (DrawN.below_drew hC hD4 hbf) hg5 (fun q e => by have := HB1.out q (by rw [HSB.out, e]; simp); omega)
        have hD6 := DrawN.only_drew hC hD5 onS (fun b hb => by simp at hb; omega)
        obtain ⟨s0, s1, s2⟩ := OrbK.row3 R5
        obtain ⟨y0, y1, y2⟩ := z3At R5
        have hpost := Lib.hid (DrawN.any_done (r := w.heap.size) (z := (x : Int)) (l := (cs ++ [y])) (m := M) hC (by simp) rfl (by simp; omega) (by omega) O16 O26 (fun b hb => by rw [hS5b b hb]; exact hg5n.1) HB2.out hD6 rfl)
        clear hod hd4 on4 q0 hbf hcell HC hcase hO15 hS5 hS5b hg5n onS O14 O24 O25 O16 O26 hD4 hD5 hD6 K5 R4 R5 q1 q4 q5 hoA ho5 hg5 hlt5 hgn hrb hgr od
        go_wp2
        exact bodyPost_ret (v := .agg #[.int .i64 ((x : Int)), .slice (some ⟨g5, 0, none⟩) (cs.length + 1) cap5, .slice A2 (M.length) c2]) (by simp [results, Tryz.results89, go_sem, s0, s1, s2]) rfl hpost.out)
    · by_cases e2 : k = 2
      · subst e2
        have hbF : Below w3.heap.size w3 (w3.alloc (.cells #[.int .i64 0, .int .i64 5] 3)) := (Below.refl _ _).alloc (Nat.le_refl _) _
        have hbG : Below (w3.alloc (.cells #[.int .i64 0, .int .i64 5] 3)).heap.size (w3.alloc (.cells #[.int .i64 0, .int .i64 5] 3)) ((w3.alloc (.cells #[.int .i64 0, .int .i64 5] 3)).alloc (.cells #[.slice (some ⟨w3.heap.size, 0, none⟩) 2 2] 24)) := (Below.refl _ _).alloc (Nat.le_refl _) _
        have hbx : Below w3.heap.size w3 ((w3.alloc (.cells #[.int .i64 0, .int .i64 5] 3)).alloc (.cells #[.slice (some ⟨w3.heap.size, 0, none⟩) 2 2] 24)) := hbF.trans (hbG.mono hbF.size)
        have hown := Lib.hid (O2.out.keep hbx)
        have hlit : (w3.alloc (.cells #[.int .i64 0, .int .i64 5] 3)).ownsRow w3.heap.size 3 1 (.slice (some ⟨w3.heap.size, 0, none⟩) 2 2) 2 [.int .i64 0, .int .i64 5] := World.ownsRow_lit w3 #[.int .i64 0, .int .i64 5] 2 (Nat.le_refl _) (by decide) rfl
        obtain ⟨RR, hRR, hRb, hRe⟩ := own_intRow (l := [0, 5]) hlit
        have HRR := Lib.hid (hRR.keep hbG)
        have hRl : ∀ b ∈ RR, b = w3.heap.size := fun b hb => by rw [hRe] at hb; simpa [Value.ownBlock] using hb
        have hcell : ((w3.alloc (.cells #[.int .i64 0, .int .i64 5] 3)).alloc (.cells #[.slice (some ⟨w3.heap.size, 0, none⟩) 2 2] 24)).cell? ⟨w3.heap.size + 1, 0, none⟩ = some (.slice (some ⟨w3.heap.size, 0, none⟩) 2 2) := by
          have h9 := heap_alloc_new (w3.alloc (.cells #[.int .i64 0, .int .i64 5] 3)) (.cells #[.slice (some ⟨w3.heap.size, 0, none⟩) 2 2] 24)
          rw [World.size_alloc] at h9
          rw [cell_of_row _ _ _ _ _ _ h9]
          rfl
        have HC := Lib.hid (DrawN.one_cell hcell)
        have HDD : Hid (∀ b ∈ S2, b ∉ RR) := Lib.hid (fun b hb h9 => by have := O2.out.lt b hb; have := hRl b h9; omega)
        have K4 := (hbx.block g (OrbK.box_lt K.out)).trans K.out
        have R4 := (hbx.block w.heap.size (OrbK.box_lt R.out)).trans R.out
        have O14 := O1.out.keep hbx
        have hD4 := DrawN.below_drew hC HD.out hbx
        have HK4 := Lib.hid K4
        have HR4 := Lib.hid R4
        have HO14 := Lib.hid O14
        have HD4 := Lib.hid hD4
        have HRL := Lib.hid hRl
        obtain ⟨b0, b1, b2⟩ := OrbK.row3 K.out
        have lg := OrbK.box_lt K.out
        clear hbF hbG hbx hlit hRR hRb hRe hcell K4 R4 O14 hD4 hRl
        go_wp2_with (at_builtin; refine wpList_append_rows rfl (.tmp 27) (.tmp 29) rfl _ S2 M rfl hown.out ⟨w3.heap.size + 1, 0, none⟩ (.slice (some ⟨w3.heap.size, 0, none⟩) 2 2) [0, 5] RR rfl HC.out HRR.out HDD.out (by omega) ?_)
        intro g5 cap5 T5 w5 ho5 hT5 on5
        have hgr := HGR.out
        have hz5 : ((w3.alloc (.cells #[.int .i64 0, .int .i64 5] 3)).alloc (.cells #[.slice (some ⟨w3.heap.size, 0, none⟩) 2 2] 24)).heap.size = w3.heap.size + 1 + 1 := by simp
        have hT5b : ∀ b ∈ T5, w.heap.size + 1 ≤ b ∧ b ≠ g := fun b hb => by
          rcases hT5 b hb with h9 | h9 | h9
          · have := HB2.out b h9
            have := HL2.out b h9
            omega
          · have := HRL.out b h9
            omega
          · rw [h9]
            have := OrbK.box_lt K.out
            simp
            omega
        have K5 := (on5.block g (OrbK.box_lt HK4.out) (fun h9 => by have := HL2.out g h9; omega)).trans HK4.out
        have R5 := (on5.block w.heap.size (OrbK.box_lt HR4.out) (fun h9 => by have := HB2.out w.heap.size h9; omega)).trans HR4.out
        have O15 := HO14.out.alike (w' := w5) fun b hb => on5.block b (HO14.out.lt b hb) (HDJ.out b hb)
        have onS : Only [g] w5 (w5.setCell ⟨g, 2, none⟩ (.slice (some ⟨g5, 0, none⟩) (M.length + 1) cap5)) := (Only.refl _ _).set ⟨g, 2, none⟩ _ (by simp)
        have O16 := O15.alike (w' := w5.setCell ⟨g, 2, none⟩ (.slice (some ⟨g5, 0, none⟩) (M.length + 1) cap5)) fun b hb => onS.block b (O15.lt b hb) (by have := HL1.out b hb; simp; omega)
        have O26 := ho5.alike (w' := w5.setCell ⟨g, 2, none⟩ (.slice (some ⟨g5, 0, none⟩) (M.length + 1) cap5)) fun b hb => onS.block b (ho5.lt b hb) (by have := (hT5b b hb).2; simp; omega)
        have hD5 := DrawN.only_drew hC HD4.out on5 (fun b hb => by have := HB2.out b hb; omega)
        have hD6 := DrawN.only_drew hC hD5 onS (fun b hb => by simp at hb; omega)
        clear b0 b1 b2
        obtain ⟨b0, b1, b2⟩ := OrbK.row3 K5
        have f2 := frozen_of_row _ _ 2 _ _ K5
        obtain ⟨s0, s1, s2⟩ := OrbK.row3 R5
        obtain ⟨y0, y1, y2⟩ := z3At R5
        have hms : (M ++ [[0, 5]]).length + sumR (M ++ [[0, 5]]) ≤ 40000 := by rw [DrawN.sum_snoc]; simp; omega
        have hpost := Lib.hid (DrawN.any_done (r := w.heap.size) (z := (x : Int)) (l := cs) (m := (M ++ [[0, 5]])) hC rfl (by simp) (by omega) hms O16 O26 HB1.out (fun b hb => (hT5b b hb).1) hD6 rfl)
        clear hown HRR HC HDD HK4 HR4 HO14 HD4 HRL ho5 hT5 on5 hz5 hT5b O15 onS O16 O26 hD5 hD6 hms K5 R5 hgr lg
        go_wp2
        exact bodyPost_ret (v := .agg #[.int .i64 ((x : Int)), .slice A1 (cs.length) c1, .slice (some ⟨g5, 0, none⟩) (M.length + 1) cap5]) (by simp [results, Tryz.results89, go_sem, s0, s1, s2]) rfl hpost.out
      · by_cases e3 : k = 3
        · subst e3
          have hdr := l6Draw_any B C 4 (by omega) 1 (by omega) w3 HD.out.1
          go_wp2_with fail
          refine hdr.mono ?_
          rintro e w4 ⟨cs4, M4, A3, c3, A4, c4, S4, rfl, hl4, _, _, hn4, hL4, hS4, hd4⟩
          have hgr := HGR.out
          have on4 := DrawN.drew_only hd4
          have K4 := (on4.block g (OrbK.box_lt K.out) (by simp; omega)).trans K.out
          have R4 := (on4.block w.heap.size (OrbK.box_lt R.out) (by simp; omega)).trans R.out
          obtain ⟨T1, T2, hO1, hO2, _, hi1, hi2⟩ := DrawN.orb_split hL4
          have hl3 := OrbK.box_lt K.out
          have onS : Only [g] w4 (((w4.setCell ⟨g, 0, none⟩ (.int .i64 4)).setCell ⟨g, 1, none⟩ (.slice A3 cs4.length c3)).setCell ⟨g, 2, none⟩ (.slice A4 M4.length c4)) := OrbQ.set3_only _ _ _ _ _
          have O16 := hO1.alike (w' := (((w4.setCell ⟨g, 0, none⟩ (.int .i64 4)).setCell ⟨g, 1, none⟩ (.slice A3 cs4.length c3)).setCell ⟨g, 2, none⟩ (.slice A4 M4.length c4))) fun b hb => onS.block b (hO1.lt b hb) (by have := hS4 b (hi1 b hb); simp; omega)
          have O26 := hO2.alike (w' := (((w4.setCell ⟨g, 0, none⟩ (.int .i64 4)).setCell ⟨g, 1, none⟩ (.slice A3 cs4.length c3)).setCell ⟨g, 2, none⟩ (.slice A4 M4.length c4))) fun b hb => onS.block b (hO2.lt b hb) (by have := hS4 b (hi2 b hb); simp; omega)
          have hD6 := DrawN.only_drew hC (HD.out.trans hd4) onS (fun b hb => by simp at hb; omega)
          have hf4 : M4.length + sumR M4 ≤ 32768 := normal_fit (k := (cs4.length : Int)) (by omega) (by omega) (by omega) hn4
          have hbb1 : ∀ b ∈ T1, w.heap.size + 1 ≤ b := fun b hb => by have := hS4 b (hi1 b hb); omega
          have hbb2 : ∀ b ∈ T2, w.heap.size + 1 ≤ b := fun b hb => by have := hS4 b (hi2 b hb); omega
          obtain ⟨b0, b1, b2⟩ := OrbK.row3 K4
          have f0 := frozen_of_row _ _ 0 _ _ K4
          have f1 := frozen_of_row _ _ 1 _ _ K4
          have f2 := frozen_of_row _ _ 2 _ _ K4
          obtain ⟨s0, s1, s2⟩ := OrbK.row3 R4
          obtain ⟨y0, y1, y2⟩ := z3At R4
          have hpost := Lib.hid (DrawN.any_done (r := w.heap.size) (z := 4) (l := cs4) (m := M4) hC rfl rfl (by omega) (by omega) O16 O26 hbb1 hbb2 hD6 rfl)
          clear hdr hL4 hS4 hd4 on4 hO1 hO2 hi1 hi2 hl3 onS O16 O26 hD6 hf4 hbb1 hbb2 K4 R4 hgr hn4
          go_wp2
          exact bodyPost_ret (v := .agg #[.int .i64 (4), .slice A3 (cs4.length) c3, .slice A4 (M4.length) c4]) (by simp [results, Tryz.results89, go_sem, s0, s1, s2]) rfl hpost.out
        · have t0 : ((k : Int) == 0) = false := by simp; omega
          have t1 : ((k : Int) == 1) = false := by simp; omega
          have t2 : ((k : Int) == 2) = false := by simp; omega
          have t3 : ((k : Int) == 3) = false := by simp; omega
          obtain ⟨b0, b1, b2⟩ := OrbK.row3 K.out
          obtain ⟨s0, s1, s2⟩ := OrbK.row3 R.out
          obtain ⟨y0, y1, y2⟩ := z3At R.out
          have hpost := Lib.hid (DrawN.any_done (r := w.heap.size) (z := (x : Int)) (l := cs) (m := M) hC rfl rfl (by omega) (by omega) O1.out O2.out HB1.out HB2.out HD.out rfl)
          clear e0 e1 e2 e3
          go_wp2
          exact bodyPost_ret (v := .agg #[.int .i64 ((x : Int)), .slice A1 (cs.length) c1, .slice A2 (M.length) c2]) (by simp [results, Tryz.results89, go_sem, s0, s1, s2]) rfl hpost.out
end Go.Proofs.YtnamlgacjhnpnaaGreat
end

section
namespace Go.Proofs.YtnamlgacjhnpnaaGreat
open Go.RowKit Go.Sort
set_option linter.unusedVariables false

namespace DrawN
theorem own_orbIx {w : World} {S1 S2 : List Nat} {z : Int} {l : List Int} {m : List (List Int)} {A1 A2 : Option Addr} {c1 c2 : Nat} (h1 : Own w S1 (.slice A1 l.length c1) (intMem l)) (h2 : Own w S2 (.slice A2 m.length c2) (rowsMem m)) :
    OrbIx w (.agg #[.int .i64 z, .slice A1 l.length c1, .slice A2 m.length c2]) z l m := by
  obtain ⟨A, c, e, hc⟩ := own_intSlice h1
  simp only [Value.slice.injEq, true_and] at e
  obtain ⟨rfl, rfl⟩ := e
  exact ⟨A1, c1, A2, c2, rfl, hc, h2.at_, own_rowsC h2⟩
theorem only_below {w w' : World} (U : List Nat) (hb : Below w.heap.size w w') : Only U w w' := ⟨hb.os, hb.tape, hb.output, hb.size, fun b h _ => hb.block b h⟩
end DrawN

end Go.Proofs.YtnamlgacjhnpnaaGreat
end

section
namespace Go.Proofs.YtnamlgacjhnpnaaGreat
open Go.RowKit Go.Sort
set_option linter.unusedVariables false

theorem perm_asc {p : List (Int × Int)} (h : permB p = true) : Asc p := by
  obtain ⟨_, h2, _⟩ := permB_parts h
  exact asc_of_order h2

set_option maxRecDepth 100000 in
set_option maxHeartbeats 2000000 in
theorem imagesIn_any (A B : Option Addr) (c d : Nat) (p : List (Int × Int)) (l : List Int) (w : World) (hA : PairsAt w A p) (hB : IntsAt w B l) (hp : p.length ≤ 1099511627776) (hasc : Asc p) (hlp : l.length ≤ 1048576) :
    Calls Tryz.prog 35 #[.slice A p.length c, .slice B l.length d] w (NewInts (imsL p l) w) := by
  obtain ⟨i0, hi0, hz0, hz1, hz2⟩ := info_parts int_infoM
  have HS := Lib.hid hz2
  clear hz2
  have HA := Lib.hid hA
  have HASC := Lib.hid hasc
  clear hA hasc
  go_enter Tryz.func35, Tryz.ntmps35
  go_wp2
  go_loopw [5, 7, 11] (fun v _ i wr => ∃ k : Nat, k ≤ l.length ∧ i = .int .i64 k ∧ wr.ownsRow w.heap.size 3 1 v k (icells (imsL p (l.take k))) ∧ Below w.heap.size w wr) (fun _ _ i _ => l.length - (intOf i).toNat)
  case atStart => exact ⟨0, Nat.zero_le _, rfl, World.ownsRow_lit w #[] 0 (Nat.le_refl _) (by decide) rfl, (Below.refl _ _).alloc (Nat.le_refl _) _⟩
  case round =>
    obtain ⟨k, hk, rfl, ho, hb⟩ := hrel
    by_cases hlt : k < l.length
    · obtain ⟨b1, o1, rfl, hb1, hc1⟩ := hB (by omega)
      have c1 := hc1 k hlt
      rw [← hb.cell (p := ⟨b1, _, none⟩) hb1] at c1
      have hnext := Lib.hid (imsL_next (p := p) hlt)
      have him := imageIn_any A c p (itAt l k) wr (HA.out.below hb) hp HASC.out
      clear hc1 hB
      generalize itAt l k = x at c1 hnext him
      generalize imgL p x = a at hnext him
      go_wp2_with fail
      (with_reducible refine him.mono ?_)
      rintro e w1 ⟨rfl, hb4⟩
      have hs4 := hb4.size
      have hbw := hb.trans (hb4.mono hb.size)
      have hsz : w.heap.size ≤ w1.heap.size := hbw.size
      have ho1 := (own_below ho hb4).alloc (.cells #[.int .i64 a] 3)
      have hb3 := hbw.alloc hbw.size (.cells #[.int .i64 a] 3)
      have hcell : (w1.alloc (.cells #[.int .i64 a] 3)).cell? ⟨w1.heap.size, 0, none⟩ = some (.int .i64 a) := by simp
      have HC := Lib.hid (one_cell hcell)
      clear hcell ho hb hb4 hbw him c1
      go_wp2_with (at_builtin; refine wpList_append_own _ rfl (.tmp 15) (.tmp 19) 24 rfl w.heap.size 3 i0 (.int .i64 0) 1 8 Tryz.underlying24 hi0 hz0 hz1 HS.out rfl (by decide) _ k _ rfl ho1 ⟨w1.heap.size, 0, none⟩ 1 1 [.int .i64 a] rfl rfl HC.out (int_one _) ?c3 ?c4 ?c5 ?_)
      case c3 => unfold maxLen; omega
      case c4 => omega
      case c5 => simp; omega
      intro v2 w2 ho3 hg _
      have ho4 : w2.ownsRow w.heap.size 3 1 v2 (k + 1) (icells (imsL p (l.take (k + 1)))) := by
        rw [hnext.out, icells_append]
        exact ho3
      have hb5 : Below w.heap.size w w2 := below_own hb3 ho1 (Nat.le_refl _) (by simp; omega) hg
      clear ho3 hg ho1 hb3 hnext HC
      go_wp2
      refine ⟨⟨k + 1, by omega, by go_num, ho4, hb5⟩, ?_⟩
      simp only [intOf]
      omega
    · have e : k = l.length := by omega
      subst e
      rw [List.take_length] at ho
      have hel := Lib.hid (imsL_len p l)
      have hpost : NewInts (imsL p l) w (.returned u5) wr := ⟨_, rfl, by rw [hel.out]; exact ho, hb⟩
      clear ho hb hB
      go_wp2
      go_ret
      exact hpost

set_option maxRecDepth 100000 in
set_option maxHeartbeats 8000000 in
theorem actOnSet_impl (p : List (Int × Int)) (hpl : p.length ≤ 1048576) (z : Int) (l : List Int) (m : List (List Int)) (hf : FitO l m) (x : Value) (C : Option Addr) (e0 : Nat) (w : World) (hC : PairsAt w C p) (hx : OrbIx w x z l m) :
    Calls Tryz.prog 10 #[.slice C p.length e0, x] w (OrbBOut (ozR (acOk p z l m) z) (olR (acOk p z l m) (acC p l)) (omR (acOk p z l m) (acR p z l m)) (acOk p z l m) w) := by
  have hX := hx
  obtain ⟨A, c, B, d, rfl, hl, hmr, hm⟩ := hx
  have hb0 : Below w.heap.size w ((w.alloc (.cells #[.int .i64 z, .slice A l.length c, .slice B m.length d] 27)).alloc (.cells #[.int .i64 0, .slice none 0 0, .slice none 0 0] 27)) := ((Below.refl _ _).alloc (Nat.le_refl _) _).alloc (by simp) _
  have k0 : ((w.alloc (.cells #[.int .i64 z, .slice A l.length c, .slice B m.length d] 27)).alloc (.cells #[.int .i64 0, .slice none 0 0, .slice none 0 0] 27)).heap[w.heap.size]? = some (.cells #[.int .i64 z, .slice A l.length c, .slice B m.length d] 27 (0, 0)) := (Below.heap_alloc _ _ _ (by simp)).trans (heap_alloc_new w _)
  have k1 : ((w.alloc (.cells #[.int .i64 z, .slice A l.length c, .slice B m.length d] 27)).alloc (.cells #[.int .i64 0, .slice none 0 0, .slice none 0 0] 27)).heap[w.heap.size + 1]? = some (.cells #[.int .i64 0, .slice none 0 0, .slice none 0 0] 27 (0, 0)) := by
    have h := heap_alloc_new (w.alloc (.cells #[.int .i64 z, .slice A l.length c, .slice B m.length d] 27)) (.cells #[.int .i64 0, .slice none 0 0, .slice none 0 0] 27)
    rw [World.size_alloc] at h
    exact h
  obtain ⟨b0, b1, b2⟩ := OrbK.row3 k0
  have hpm := isPerm_impl C e0 p _ (hC.below hb0) (by omega)
  have hio := fun (W : World) (h : Below w.heap.size w W) => isOrbitSet_impl z l m hf _ W (hX.below h)
  have HX := Lib.hid hX
  have HB0 := Lib.hid hb0
  have HK0 := Lib.hid k0
  have HK1 := Lib.hid k1
  have HC := Lib.hid hC
  have HL := Lib.hid hl
  clear hl hmr hm k0 k1 hX hb0 hC
  cases hpb : permB p with
  | false =>
    rw [hpb] at hpm
    have hkk : acOk p z l m = false := by simp [acOk, hpb]
    clear hpb
    go_enter Tryz.func10, Tryz.ntmps10
    go_wp2_with (first
      | (go_at_call 33; (with_reducible refine hpm.mono ?_); rintro e w1 ⟨rfl, hb1⟩; have hbz1 := HB0.out.trans (hb1.mono HB0.out.size); have k1 := (hb1.block _ (OrbK.box_lt HK0.out)).trans HK0.out; clear b0 b1 b2; obtain ⟨b0, b1, b2⟩ := OrbK.row3 k1; have hr2 := (hb1.block _ (OrbK.box_lt HK1.out)).trans HK1.out; obtain ⟨x0, x1, x2⟩ := OrbK.row3 hr2; obtain ⟨y0, y1, y2⟩ := z3At hr2))
    have hbz := hbz1
    clear hpm hio hb1 b0 b1 b2 k1 hr2 HB0 HK0 HK1
    have hpost := orbB_zero (((hbz.setCell (p := ⟨w.heap.size + 1, 0, none⟩) (Nat.le_succ _) (.int .i64 0)).setCell (p := ⟨w.heap.size + 1, 1, none⟩) (Nat.le_succ _) (.slice none 0 0)).setCell (p := ⟨w.heap.size + 1, 2, none⟩) (Nat.le_succ _) (.slice none 0 0))
    go_wp2
    exact bodyPost_ret (v := .tuple #[.agg #[.int .i64 0, .slice none 0 0, .slice none 0 0], .bool false]) (by simp [results, Tryz.results10, go_sem, x0, x1, x2]) rfl (by rw [hkk]; exact hpost)
  | true =>
    rw [hpb] at hpm
    cases ho : orbB z l m with
    | false =>
      simp only [ho] at hio
      have hkk : acOk p z l m = false := by simp [acOk, ho]
      clear ho
      go_enter Tryz.func10, Tryz.ntmps10
      go_wp2_with (first
        | (go_at_call 33; (with_reducible refine hpm.mono ?_); rintro e w1 ⟨rfl, hb1⟩; have hbz1 := HB0.out.trans (hb1.mono HB0.out.size); have k1 := (hb1.block _ (OrbK.box_lt HK0.out)).trans HK0.out; clear b0 b1 b2; obtain ⟨b0, b1, b2⟩ := OrbK.row3 k1; have hioq := hio w1 hbz1)
        | (go_at_call 12; (with_reducible refine hioq.mono ?_); rintro e w2 ⟨rfl, hb2⟩; have hb12 := hb1.trans (hb2.mono hb1.size); have hbz2 := HB0.out.trans (hb12.mono HB0.out.size); have k2 := (hb12.block _ (OrbK.box_lt HK0.out)).trans HK0.out; clear b0 b1 b2; have hr2 := (hb12.block _ (OrbK.box_lt HK1.out)).trans HK1.out; obtain ⟨x0, x1, x2⟩ := OrbK.row3 hr2; obtain ⟨y0, y1, y2⟩ := z3At hr2))
      have hbz := hbz2
      clear hpm hio hioq hb1 hb2 hb12 k1 k2 hr2 HB0 HK0 HK1
      have hpost := orbB_zero (((hbz.setCell (p := ⟨w.heap.size + 1, 0, none⟩) (Nat.le_succ _) (.int .i64 0)).setCell (p := ⟨w.heap.size + 1, 1, none⟩) (Nat.le_succ _) (.slice none 0 0)).setCell (p := ⟨w.heap.size + 1, 2, none⟩) (Nat.le_succ _) (.slice none 0 0))
      go_wp2
      exact bodyPost_ret (v := .tuple #[.agg #[.int .i64 0, .slice none 0 0, .slice none 0 0], .bool false]) (by simp [results, Tryz.results10, go_sem, x0, x1, x2]) rfl (by rw [hkk]; exact hpost)
    | true =>
      simp only [ho] at hio
      have hkk : acOk p z l m = true := by simp [acOk, hpb, ho]
      have hip := isP_of hpb
      have hasc := perm_asc hpb
      obtain ⟨hwz, hro⟩ := orb_rows ho
      have hz4 := widB_iff.1 hwz
      have hk3 := const_len (orb_const ho)
      obtain ⟨n, rfl⟩ : ∃ n : Nat, z = n := ⟨z.toNat, by omega⟩
      have hn4 : n ≤ 4 := by omega
      have hck := const_len (acC_const hip (orb_const ho))
      have HRW : Hid (∀ i, i < m.length → (exL (numL l 4) (rwAt m i)).length = n) := Lib.hid (fun i hi => by
        have h1 := (rowsOk_at hro hi).1
        rw [exL_len]
        omega)
      have hml := hf.2.1
      have hex := fun (W : World) (h : Below w.heap.size w W) => examplesOf_impl n l m hf _ W (HX.out.below h)
      rw [exsR_yes ho] at hex
      have HTR : Hid (∀ i, i < (acT p l m).length → (rwAt (acT p l m) i).length = n) := Lib.hid (fun i hi => by
        rw [acT_len] at hi
        rw [acT_at hi, imsL_len]
        exact HRW.out i hi)
      have hso := fun (W : World) (A' : Option Addr) (c' : Nat) (hA' : IntsAt W A' (acC p l)) (B9 : Option Addr) (d9 : Nat) (hB : RowsIn W (.slice B9 (acT p l m).length d9) (acT p l m)) => setOfTuples_any n hn4 (acC p l) hck (acT p l m) (by rw [acT_len]; omega) HTR.out A' B9 c' d9 W hA' hB
      have HAR : Hid (thoseL n (acC p l).length (patsL (acC p l) (acT p l m)) = acR p n l m) := Lib.hid (by unfold acR acM; rw [show ((n : Int).toNat) = n by omega])
      rw [HAR.out] at hso
      have him := fun (W : World) (A' : Option Addr) (c' : Nat) (L : List Int) (hA' : IntsAt W A' L) (h : Below w.heap.size w W) (hL : L.length ≤ 1048576) => imagesIn_any C A' e0 c' p L W (HC.out.below h) hA' (by omega) hasc hL
      have HNX := Lib.hid (fun i (hi : i < m.length) => acT_next (p := p) (l := l) hi)
      have HTL := Lib.hid (fun i (hi : i ≤ m.length) => show (acT p l (m.take i)).length = i by rw [acT_len, List.length_take]; omega)
      have HT0 : Hid (acT p l (m.take 0) = []) := Lib.hid (by simp [acT, exsL])
      have HTE : Hid (acT p l (m.take m.length) = acT p l m) := Lib.hid (by rw [List.take_length])
      have HEA := Lib.hid (fun i (hi : i < m.length) => ex_at (cs := l) hi)
      have HEL := Lib.hid (exsL_len l m)
      have HAC : Hid (insAll [] (imsL p l) = acC p l) := Lib.hid rfl
      have HKK := Lib.hid hkk
      clear ho hpb hwz hro hz4 hkk hip hasc
      generalize acR p n l m = R at *
      generalize exsL l m = E at *
      go_enter Tryz.func10, Tryz.ntmps10
      go_wp2_with (first
        | (go_at_call 33; (with_reducible refine hpm.mono ?_); rintro e w1 ⟨rfl, hb1⟩; have hbz1 := HB0.out.trans (hb1.mono HB0.out.size); have k1 := (hb1.block _ (OrbK.box_lt HK0.out)).trans HK0.out; clear b0 b1 b2; obtain ⟨b0, b1, b2⟩ := OrbK.row3 k1; have hioq := hio w1 hbz1)
        | (go_at_call 12; (with_reducible refine hioq.mono ?_); rintro e w2 ⟨rfl, hb2⟩; have hb12 := hb1.trans (hb2.mono hb1.size); have hbz2 := HB0.out.trans (hb12.mono HB0.out.size); have k2 := (hb12.block _ (OrbK.box_lt HK0.out)).trans HK0.out; clear b0 b1 b2; have k3 := (Below.heap_alloc w2 (.cells #[] 24) _ (OrbK.box_lt k2)).trans k2; obtain ⟨b0, b1, b2⟩ := OrbK.row3 k3; have hbL : Below w2.heap.size w2 (w2.alloc (.cells #[] 24)) := (Below.refl _ _).alloc (Nat.le_refl _) _; have hxq := hex _ (hbz2.trans (hbL.mono hbz2.size)))
        | (go_at_call 34; (with_reducible refine hxq.mono ?_); rintro e w8 ⟨v8, SE, rfl, hSE, hSEb, hb8⟩; obtain ⟨BE, dE, hBE⟩ := RowsIn.form (ls := E) hSE.at_; subst hBE))
      clear b0 b1 b2 k3 hxq hex hio hioq hpm
      have KA := Lib.hid k2
      have KR := Lib.hid ((hb12.block _ (OrbK.box_lt HK1.out)).trans HK1.out)
      have HBW := Lib.hid hbz2
      have hsL : (w2.alloc (.cells #[] 24)).heap.size = w2.heap.size + 1 := by simp
      rw [hsL] at hSEb
      have O8 := Lib.hid ((own_lit0 w2).keep hb8)
      have HB8 := Lib.hid (hbL.trans (hb8.mono hbL.size))
      have ES := Lib.hid hSE
      have HSE : Hid (∀ b ∈ SE, w2.heap.size + 1 ≤ b ∧ b < w8.heap.size) := Lib.hid (fun b hb => ⟨hSEb b hb, hSE.lt b hb⟩)
      have hs8 : w2.heap.size + 1 ≤ w8.heap.size := by have := hb8.size; omega
      clear hb1 hb2 hb12 k1 k2 hbz1 hbz2 HB0 HK0 HK1 hSE hSEb hbL hsL hb8
      rw [HEL.out]
      go_wp2
      go_loopw [6, 8, 22] (fun v6 _ i wr => ∃ (j : Nat) (U : List Nat), j ≤ m.length ∧ i = .int .i64 j ∧ Hid (Own wr U v6 (rowsMem (acT p l (m.take j)))) ∧ Hid (Own wr SE (.slice BE E.length dE) (rowsMem E)) ∧ Hid (∀ b ∈ U, w2.heap.size ≤ b ∧ b ∉ SE) ∧ Below w2.heap.size w2 wr ∧ w8.heap.size ≤ wr.heap.size) (fun _ _ i _ => m.length - (intOf i).toNat)
      case atStart => exact ⟨0, _, Nat.zero_le _, rfl, by rw [HT0.out]; exact O8, ES, Lib.hid (fun b hb => by
        have e : b = w2.heap.size := by simpa using hb
        subst e
        exact ⟨Nat.le_refl _, fun h => by have := (HSE.out _ h).1; omega⟩), HB8.out, Nat.le_refl _⟩
      case round =>
        clear O8 ES HB8
        obtain ⟨j, U, hj, rfl, hU, hE, hUb, hb, hsw⟩ := hrel
        by_cases hlt : j < m.length
        · have hRE := hE.out.at_
          obtain ⟨b1, o1, rfl, hb1, hc1⟩ := RowsIn.get hRE (by rw [HEL.out]; omega)
          obtain ⟨A1, c1, d1, hA1⟩ := hc1 j (by rw [HEL.out]; exact hlt)
          rw [HEA.out j hlt] at d1 hA1
          have hrw := HRW.out j hlt
          have hta := him wr A1 c1 _ hA1 (HBW.out.trans (hb.mono HBW.out.size)) (by omega)
          have hnx := Lib.hid (HNX.out j hlt)
          have htl := HTL.out j (by omega)
          clear hc1 hA1 hRE hrw
          generalize imsL p (exL (numL l 4) (rwAt m j)) = X at hta hnx
          generalize (exL (numL l 4) (rwAt m j)).length = vl at d1 hta
          generalize acT p l (m.take j) = D at hU hnx htl
          go_wp2_with fail
          (with_reducible refine hta.mono ?_)
          rintro e w3 ⟨v3, rfl, ho3, hb3⟩
          obtain ⟨T, hT, hTb, hTe⟩ := own_intRow ho3
          obtain ⟨A9, c9, rfl, _⟩ := own_intSlice hT
          clear hTe
          have hbx : Below w3.heap.size w3 (w3.alloc (.cells #[.slice A9 X.length c9] 24)) := (Below.refl _ _).alloc (Nat.le_refl _) _
          have hb4 := hb3.trans (hbx.mono hb3.size)
          have hT4 := Lib.hid (hT.keep hbx)
          have hU4 := hU.out.keep hb4
          have HE4 := Lib.hid (hE.out.keep hb4)
          have HB4 := Lib.hid (hb.trans (hb4.mono hb.size))
          have hcell : (w3.alloc (.cells #[.slice A9 X.length c9] 24)).cell? ⟨w3.heap.size, 0, none⟩ = some (.slice A9 X.length c9) := by simp
          have HCL := Lib.hid (one_cell hcell)
          have HUl : Hid (∀ b ∈ U, b < wr.heap.size) := Lib.hid (fun b h => hU.out.lt b h)
          have HDT : Hid (∀ b ∈ U, b ∉ T) := Lib.hid (fun b h1 h2 => by have := HUl.out b h1; have := hTb b h2; omega)
          have HTb := Lib.hid hTb
          have hs3 := hb3.size
          have hdl : D.length + 1 ≤ 16777216 := by omega
          clear hcell hbx hT ho3 hU hE hb hb3 hb4 hta d1 hTb
          go_wp2_with (at_builtin; refine wpList_append_rows rfl (.tmp 26) (.tmp 30) rfl _ U D rfl hU4 ⟨w3.heap.size, 0, none⟩ _ X T rfl HCL.out hT4.out HDT.out hdl ?_)
          intro g2 cap2 U3 w7 hU7 hU3 hon
          have hs7 : w3.heap.size + 1 ≤ w7.heap.size := by have := hon.size; rw [World.size_alloc] at this; exact this
          have E7 := Lib.hid (HE4.out.alike (w' := w7) fun b hbb => hon.block b (HE4.out.lt b hbb) (fun h => (hUb.out b h).2 hbb))
          have hb7 := Only.below HB4.out hon HB4.out.size (fun b h => (hUb.out b h).1)
          have B7 : Hid (∀ b ∈ U3, w2.heap.size ≤ b ∧ b ∉ SE) := Lib.hid (fun b h => by
            rcases hU3 b h with h1 | h1 | h1
            · exact hUb.out b h1
            · have h2 := HTb.out b h1
              exact ⟨by omega, fun h3 => by have := (HSE.out b h3).2; omega⟩
            · (try rw [World.size_alloc] at h1)
              exact ⟨by omega, fun h3 => by have := (HSE.out b h3).2; omega⟩)
          rw [← hnx.out] at hU7
          have U7 := Lib.hid hU7
          clear hU7 hU3 hon HB4 HE4 hT4 HCL HDT HUl HTb hnx hU4 htl hUb
          go_wp2
          refine ⟨⟨j + 1, U3, by omega, by go_num, U7, E7, B7, hb7, by omega⟩, ?_⟩
          simp only [intOf]
          omega
        · have e : j = m.length := by omega
          subst e
          rw [HTE.out] at hU
          have hU' := hU.out.at_
          have hbW := HBW.out.trans (hb.mono HBW.out.size)
          have hr := (hb.block _ (OrbK.box_lt KA.out)).trans KA.out
          have hq := (hb.block _ (OrbK.box_lt KR.out)).trans KR.out
          obtain ⟨B9, d9, hB9⟩ := RowsIn.form (ls := acT p l m) hU'
          subst hB9
          have hdw : Below wr.heap.size wr wr.drew := grow_drew (Below.refl _ _)
          have HRT : Hid (RowsIn wr (.slice B9 (acT p l m).length d9) (acT p l m)) := Lib.hid hU'
          have HBX := Lib.hid hbW
          have HSO := Lib.hid hso
          have hta := him wr.drew A c l (HL.out.1.below (hbW.trans (hdw.mono hbW.size))) (hbW.trans (hdw.mono hbW.size)) (by omega)
          obtain ⟨b0, b1, b2⟩ := OrbK.row3 hr
          have hltk := OrbK.box_lt hr
          have hltq := OrbK.box_lt hq
          have HQ : Hid (∀ W : World, Below wr.heap.size wr W → W.heap[w.heap.size + 1]? = some (.cells #[.int .i64 0, .slice none 0 0, .slice none 0 0] 27 (0, 0))) := Lib.hid (fun W h => (h.block _ hltq).trans hq)
          have HS : Hid (∀ W : World, Below wr.heap.size wr W → W.cell? ⟨w.heap.size, 0, none⟩ = some (.int .i64 (n : Int)) ∧ W.cell? ⟨w.heap.size, 1, none⟩ = some (.slice A l.length c)) :=
            Lib.hid (fun W h => ⟨(h.cell (p := ⟨w.heap.size, 0, none⟩) hltk).trans b0, (h.cell (p := ⟨w.heap.size, 1, none⟩) hltk).trans b1⟩)
          have HIL := imsL_len p l
          have hil : (imsL p l).length ≤ 3 := by omega
          have ne0 : w.heap.size ≠ w.heap.size + 1 := by omega
          have HWS := hbW.size
          have HHA := Lib.hid (hb.size)
          clear hU hU' hUb hE hb HNX HTL HT0 HTE HEA HEL HRW hso him HIL HTR b0 b1 b2 hr hq hbW
          obtain ⟨f0, f1⟩ := HS.out wr.drew hdw
          go_wp2
          go_region_held3 (fun w' => w'.cell? ⟨w.heap.size, 0, none⟩ = some (.int .i64 (n : Int)) ∧ w'.cell? ⟨w.heap.size, 1, none⟩ = some (.slice A l.length c))
            (first | (with_reducible exact ⟨by assumption, by assumption⟩) | (with_reducible exact ⟨OrbQ.set3_keep (by assumption) (by assumption), OrbQ.set3_keep (by assumption) (by assumption)⟩))
            (first
            | (go_at_call 35; (with_reducible refine hta.mono ?_); rintro e w3 ⟨v3, rfl, ho3, hb3⟩; have fr3 := hdw.trans (hb3.mono hdw.size); have hasq := ascending_rows wr.heap.size v3 (imsL p l) w3 (own_le ho3 hdw.size) fr3.size (by omega); obtain ⟨g3, g4⟩ := HS.out w3 fr3)
            | (go_at_call 37; (with_reducible refine hasq.mono ?_); rintro e w4 ⟨v4, rfl, ho4, hb4⟩; rw [HAC.out] at ho4; obtain ⟨A4, c4, rfl, hA4⟩ := own_intsAt ho4; have fr4 := fr3.trans hb4; have hsq := HSO.out w4 A4 c4 hA4 B9 d9 (HRT.out.below fr4); obtain ⟨g5, g6⟩ := HS.out w4 fr4)
            | (go_at_call 36; (with_reducible refine hsq.mono ?_); rintro e w5 ⟨A5, c5, A6, c6, S5, rfl, hL5, hS5, hb5⟩; have fr5 := fr4.trans (hb5.mono fr4.size); obtain ⟨g7, g8⟩ := HS.out w5 fr5; have hr2 := HQ.out w5 fr5; obtain ⟨x0, x1, x2⟩ := OrbK.row3 hr2; obtain ⟨y0, y1, y2⟩ := z3At hr2)
            | fail)
          have hs4 := fr4.size
          have hpost := orbB_of true (orb_pass (r := w.heap.size + 1) hL5 (HBX.out.trans (fr5.mono HBX.out.size)) (Nat.le_succ _) (fun b h => by have h1 := hS5 b h; omega))
          clear f0 f1 g3 g4 g5 g6 g7 g8 hta hasq hsq fr3 fr4 fr5 hb3 hb4 hb5 HS HQ hL5 hS5 hdw hr2 ho3 ho4 hA4 hil
          go_wp2
          exact bodyPost_ret (v := .tuple #[.agg #[.int .i64 (n : Int), .slice A5 (acC p l).length c5, .slice A6 R.length c6], .bool true]) (by simp [results, Tryz.results10, go_sem, x0, x1, x2]) rfl (by rw [HKK.out]; exact hpost)
end Go.Proofs.YtnamlgacjhnpnaaGreat
end

