/-
  An orbit set that the model draws, which may be none: a contract. An orbit set, which may be none, and a list of atoms, that the model draws: a contract.
-/
import Derived.Test.YtnamlgacjhnpnaaKExtended17
import Derived.Test.YtnamlgacjhnpnaaKExtended25
import Derived.Test.YtnamlgacjhnpnaaKExtended26
import Derived.Test.YtnamlgacjhnpnaaKExtended27
import Derived.Test.YtnamlgacjhnpnaaKExtended13
import Derived.Test.YtnamlgacjhnpnaaKExtended15
section
namespace Go.Proofs.Ytnamlgacjhnpnaa
open Go.RowKit Go.Sort
set_option linter.unusedVariables false

namespace DrawN
theorem ownL_cells_nil {w : World} : ∀ {us : List Value} {S : List Nat} {vs : List Value}, OwnL w S vs (us.map Mem.cell) → S = []
  | [], _, _, h => by
    rw [List.map_nil] at h
    cases h
    rfl
  | u :: r, _, _, h => by
    rw [List.map_cons] at h
    cases h with
    | cons h k hd =>
      rw [own_cell_nil _ h, ownL_cells_nil k]
      rfl
theorem own_ints0 {w : World} {T : List Nat} {v : Value} {l : List Int} (h : Own w T v (intMem l)) : w.ownsRow 0 3 1 v l.length (icells l) ∧ T = v.ownBlock.toList := by
  unfold intMem at h
  generalize hm : (icells l).map Mem.cell = ms at h
  cases h with
  | nil =>
    have h0 : l.length = 0 := by
      have := congrArg List.length hm
      simpa [icells_len] using this
    rw [List.eq_nil_of_length_eq_zero h0]
    exact ⟨World.ownsRow_nil w _ _ _, rfl⟩
  | row hl ho hL hg =>
    subst hm
    have e := atL_cells hL.at_
    have e2 := ownL_cells_nil hL
    rename_i g n cap xs S'
    rw [List.length_map, icells_len] at hl
    have en : n = l.length := by omega
    subst en
    rw [e] at ho
    rw [e2]
    exact ⟨ho, rfl⟩
theorem orb_split {w : World} {S : List Nat} {z : Int} {l : List Int} {m : List (List Int)} {A1 A2 : Option Addr} {c1 c2 : Nat} (h : OwnL w S [.int .i64 z, .slice A1 l.length c1, .slice A2 m.length c2] (encO z l m)) :
    ∃ S1 S2, Own w S1 (.slice A1 l.length c1) (intMem l) ∧ Own w S2 (.slice A2 m.length c2) (rowsMem m) ∧ (∀ b ∈ S1, b ∉ S2) ∧ (∀ b ∈ S1, b ∈ S) ∧ ∀ b ∈ S2, b ∈ S := by
  unfold encO at h
  cases h with
  | cons h0 h hd0 =>
    cases h with
    | cons h1 h hd1 =>
      cases h with
      | cons h2 h hd2 =>
        exact ⟨_, _, h1, h2, fun b hb hb2 => hd1 b hb (List.mem_append_left _ hb2), fun b hb => List.mem_append_right _ (List.mem_append_left _ hb), fun b hb => List.mem_append_right _ (List.mem_append_right _ (List.mem_append_left _ hb))⟩
/-- A drawn orbit set, which may be none: of the call's own. -/
def AnySet (B C : Nat) (w : World) (e : Ending) (w' : World) : Prop :=
  ∃ (z : Int) (l : List Int) (m : List (List Int)) (A1 : Option Addr) (c1 : Nat) (A2 : Option Addr) (c2 : Nat) (S1 S2 : List Nat),
    e = .returned (.agg #[.int .i64 z, .slice A1 l.length c1, .slice A2 m.length c2]) ∧ l.length ≤ 3 ∧ m.length + sumR m ≤ 40000 ∧
    Own w' S1 (.slice A1 l.length c1) (intMem l) ∧ Own w' S2 (.slice A2 m.length c2) (rowsMem m) ∧ (∀ b ∈ S1, w.heap.size + 1 ≤ b) ∧ (∀ b ∈ S2, w.heap.size + 1 ≤ b) ∧ Drew B C w w'
theorem any_done {B C : Nat} {w wz : World} {r n1 n2 : Nat} {z : Int} {l : List Int} {m : List (List Int)} {A1 A2 : Option Addr} {c1 c2 : Nat} {S1 S2 : List Nat} (hC : C < w.heap.size) (e1 : n1 = l.length) (e2 : n2 = m.length) (hl : l.length ≤ 3) (hm : m.length + sumR m ≤ 40000) (h1 : Own wz S1 (.slice A1 n1 c1) (intMem l)) (h2 : Own wz S2 (.slice A2 n2 c2) (rowsMem m))
    (b1 : ∀ b ∈ S1, w.heap.size + 1 ≤ b) (b2 : ∀ b ∈ S2, w.heap.size + 1 ≤ b) (hd : Drew B C w wz) (hr : r = w.heap.size) :
    AnySet B C w (.returned (.agg #[.int .i64 z, .slice A1 n1 c1, .slice A2 n2 c2])) (((wz.setCell ⟨r, 0, none⟩ (.int .i64 z)).setCell ⟨r, 1, none⟩ (.slice A1 n1 c1)).setCell ⟨r, 2, none⟩ (.slice A2 n2 c2)) := by
  subst hr
  subst e1
  subst e2
  have onF : Only [w.heap.size] wz (((wz.setCell ⟨w.heap.size, 0, none⟩ (.int .i64 z)).setCell ⟨w.heap.size, 1, none⟩ (.slice A1 l.length c1)).setCell ⟨w.heap.size, 2, none⟩ (.slice A2 m.length c2)) := OrbQ.set3_only _ _ _ _ _
  exact ⟨z, l, m, A1, c1, A2, c2, S1, S2, rfl, hl, hm, h1.alike fun b hb => onF.block b (h1.lt b hb) (by have := b1 b hb; simp; omega), h2.alike fun b hb => onF.block b (h2.lt b hb) (by have := b2 b hb; simp; omega), b1, b2, only_drew hC hd onF (fun b hb => by simp at hb; omega)⟩
theorem sum_snoc (m : List (List Int)) (p : List Int) : (m ++ [p]).length + sumR (m ++ [p]) = m.length + sumR m + (1 + p.length) := by
  rw [List.length_append, sumR_append]
  simp [sumR]
  omega
end DrawN

set_option maxRecDepth 100000 in
set_option maxHeartbeats 8000000 in
theorem l6Any_any (B C : Nat) (w : World) (hc : Cur w B C) :
    Calls Try.prog 54 #[.pointer (some ⟨C, 0, none⟩)] w (DrawN.AnySet B C w) := by
  obtain ⟨i0, hi0, hzz, hz1, hz2⟩ := info_parts DrawN.int_info
  have HS := Lib.hid hz2
  clear hz2
  have hC := hc.lt
  have hr0 := heap_alloc_new w (.cells #[.int .i64 0, .slice none 0 0, .slice none 0 0] 32)
  have hd0 : Drew B C w (w.alloc (.cells #[.int .i64 0, .slice none 0 0, .slice none 0 0] 32)) := (Drew.of hc).alloc _
  have hz0 : (w.alloc (.cells #[.int .i64 0, .slice none 0 0, .slice none 0 0] 32)).heap.size = w.heap.size + 1 := by simp
  have hbl := l1Below_int B C 4 _ hd0.1 (by omega) (by omega)
  have HR0 := Lib.hid hr0
  have HZ0 := Lib.hid hz0
  clear hc hr0 hz0
  go_enter Try.func54, Try.ntmps54
  go_wp2_with fail
  refine hbl.mono ?_
  rintro e w1 ⟨x, hx, rfl, hd1⟩
  have hs1 : w.heap.size + 1 ≤ w1.heap.size := by have := hd1.2.size; rw [HZ0.out] at this; exact this
  have r1 := ((DrawN.drew_only hd1).block w.heap.size (by rw [HZ0.out]; omega) (by simp; omega)).trans HR0.out
  have hdr := l6Draw_any B C x (by omega) 2 (by omega) w1 hd1.1
  have hD1 := hd0.trans hd1
  clear hbl hd0 hd1 HR0 HZ0
  go_wp2_with fail
  refine hdr.mono ?_
  rintro e w2 ⟨cs, M, A1, c1, A2, c2, S, rfl, hl, _, _, hn, hL, hS, hd2⟩
  obtain ⟨S1, S2, hO1, hO2, hdj, hi1, hi2⟩ := DrawN.orb_split hL
  have hb1 : ∀ b ∈ S1, w.heap.size + 1 ≤ b := fun b hb => Nat.le_trans hs1 (hS b (hi1 b hb))
  have hb2 : ∀ b ∈ S2, w.heap.size + 1 ≤ b := fun b hb => Nat.le_trans hs1 (hS b (hi2 b hb))
  have hs2 := hd2.2.size
  have r2 := ((DrawN.drew_only hd2).block w.heap.size (by omega) (by simp; omega)).trans r1
  have hD2 := hD1.trans hd2
  have hfit : M.length + sumR M ≤ 32768 := normal_fit (k := (cs.length : Int)) (by omega) (by omega) (by omega) hn
  have hbx : Below w2.heap.size w2 (w2.alloc (.cells #[.int .i64 (x : Int), .slice A1 cs.length c1, .slice A2 M.length c2] 32)) := (Below.refl _ _).alloc (Nat.le_refl _) _
  have k3 : (w2.alloc (.cells #[.int .i64 (x : Int), .slice A1 cs.length c1, .slice A2 M.length c2] 32)).heap[w2.heap.size]? = some (.cells #[.int .i64 (x : Int), .slice A1 cs.length c1, .slice A2 M.length c2] 32 (0, 0)) := heap_alloc_new w2 _
  have hD3 := DrawN.below_drew hC hD2 hbx
  have hP1 := hO1.keep hbx
  have hP2 := hO2.keep hbx
  have hl1 : ∀ b ∈ S1, b < w2.heap.size := fun b hb => hO1.lt b hb
  have hl2 : ∀ b ∈ S2, b < w2.heap.size := fun b hb => hO2.lt b hb
  have r3 := (hbx.block w.heap.size (by omega)).trans r2
  have hz3 : (w2.alloc (.cells #[.int .i64 (x : Int), .slice A1 cs.length c1, .slice A2 M.length c2] 32)).heap.size = w2.heap.size + 1 := by simp
  have hbl2 := l1Below_int B C 14 (w2.alloc (.cells #[.int .i64 (x : Int), .slice A1 cs.length c1, .slice A2 M.length c2] 32)) hD3.1 (by omega) (by omega)
  have HK3 := Lib.hid k3
  have HR3 := Lib.hid r3
  have HP1 := Lib.hid hP1
  have HP2 := Lib.hid hP2
  have HD3 := Lib.hid hD3
  have HZ3 := Lib.hid hz3
  have HB1 := Lib.hid hb1
  have HB2 := Lib.hid hb2
  have HL1 := Lib.hid hl1
  have HL2 := Lib.hid hl2
  have HDJ := Lib.hid hdj
  clear hdr hL hS hd2 hO1 hO2 hi1 hi2 hb1 hb2 r1 r2 hD1 hD2 hbx k3 hD3 hP1 hP2 hl1 hl2 r3 hz3 hn hdj
  go_wp2_with fail
  refine hbl2.mono ?_
  rintro e w3 ⟨k, hk, rfl, hd3⟩
  have on3 := DrawN.drew_only hd3
  have hC2 : C ≠ w2.heap.size := by omega
  have K := Lib.hid ((on3.block w2.heap.size (by rw [HZ3.out]; omega) (by simp; omega)).trans HK3.out)
  have R := Lib.hid ((on3.block w.heap.size (OrbK.box_lt HR3.out) (by simp; omega)).trans HR3.out)
  have O1 := Lib.hid (HP1.out.alike (w' := w3) fun b hb => on3.block b (HP1.out.lt b hb) (by have := HB1.out b hb; simp; omega))
  have O2 := Lib.hid (HP2.out.alike (w' := w3) fun b hb => on3.block b (HP2.out.lt b hb) (by have := HB2.out b hb; simp; omega))
  have HD := Lib.hid (HD3.out.trans hd3)
  have hs3 : w2.heap.size + 1 ≤ w3.heap.size := by have := hd3.2.size; rw [HZ3.out] at this; exact this
  have hne : ¬ w.heap.size = w2.heap.size := by omega
  have hne2 : ¬ w2.heap.size = w.heap.size := by omega
  obtain ⟨g, hg⟩ : ∃ g : Nat, g = w2.heap.size := ⟨_, rfl⟩
  rw [← hg] at K hs3 hC2 hne hne2 HL1 HL2 ⊢
  have HGR : Hid (g = w2.heap.size ∧ w.heap.size + 1 ≤ g ∧ C < w.heap.size) := Lib.hid ⟨hg, by omega, hC⟩
  clear hbl2 hd3 on3 HK3 HR3 HP1 HP2 HD3 HZ3 hg hs1 hs2
  by_cases e0 : k = 0
  · subst e0
    have hod := l1Odd_any B C w3 HD.out.1
    go_wp2_with fail
    refine hod.mono ?_
    rintro e w4 ⟨y, rfl, hd4⟩
    have on4 := DrawN.drew_only hd4
    have K4 := (on4.block g (OrbK.box_lt K.out) (by have := HGR.out; simp; omega)).trans K.out
    have R4 := (on4.block w.heap.size (OrbK.box_lt R.out) (by have := HGR.out; simp; omega)).trans R.out
    have onS : Only [g] w4 (w4.setCell ⟨g, 0, none⟩ (.int .i64 y)) := (Only.refl _ _).set ⟨g, 0, none⟩ _ (by simp)
    have O14 := O1.out.alike (w' := w4) fun b hb => on4.block b (O1.out.lt b hb) (by have := HB1.out b hb; simp; omega)
    have O24 := O2.out.alike (w' := w4) fun b hb => on4.block b (O2.out.lt b hb) (by have := HB2.out b hb; simp; omega)
    have O15 := O14.alike (w' := w4.setCell ⟨g, 0, none⟩ (.int .i64 y)) fun b hb => onS.block b (O14.lt b hb) (by have := HL1.out b hb; simp; omega)
    have O25 := O24.alike (w' := w4.setCell ⟨g, 0, none⟩ (.int .i64 y)) fun b hb => onS.block b (O24.lt b hb) (by have := HL2.out b hb; simp; omega)
    have hD5 := DrawN.only_drew hC (HD.out.trans hd4) onS (fun b hb => by have := HGR.out; simp at hb; omega)
    obtain ⟨b0, b1, b2⟩ := OrbK.row3 K4
    have f0 := frozen_of_row _ _ 0 _ _ K4
    obtain ⟨s0, s1, s2⟩ := OrbK.row3 R4
    obtain ⟨y0, y1, y2⟩ := z3At R4
    have hpost := Lib.hid (DrawN.any_done (r := w.heap.size) (z := y) (l := cs) (m := M) hC rfl rfl (by omega) (by omega) O15 O25 HB1.out HB2.out hD5 rfl)
    clear hod hd4 on4 onS O14 O24 O15 O25 hD5 K4 R4
    go_wp2
    exact bodyPost_ret (v := .agg #[.int .i64 (y), .slice A1 (cs.length) c1, .slice A2 (M.length) c2]) (by simp [results, Try.results54, go_sem, s0, s1, s2]) rfl hpost.out
  · by_cases e1 : k = 1
    · subst e1
      obtain ⟨hoi, hsb⟩ := DrawN.own_ints0 O1.out
      have HOI := Lib.hid hoi
      have HSB := Lib.hid hsb
      have od : Only [C] w3 w3.drew := ⟨rfl, rfl, rfl, Nat.le_refl _, fun _ _ _ => rfl⟩
      have hod := l1Odd_any B C w3.drew HD.out.1
      have HK1 : Hid (∀ W : World, Only [C] w3 W → W.heap[g]? = some (.cells #[.int .i64 (x : Int), .slice A1 cs.length c1, .slice A2 M.length c2] 32 (0, 0))) := Lib.hid (fun W h => (h.block g (OrbK.box_lt K.out) (by have := HGR.out; simp; omega)).trans K.out)
      have HC1 : Hid (∀ W : World, Only [C] w3 W → W.cell? ⟨g, 1, none⟩ = some (.slice A1 cs.length c1)) := Lib.hid (fun W h => (OrbK.row3 (HK1.out W h)).2.1)
      have q1 := HC1.out w3.drew od
      have q0 := HC1.out w3 (Only.refl _ _)
      clear hoi hsb
      go_wp2
      go_region_law (first
        | (refine step_append_lies _ (by rfl) _ _ 24 (by rfl) 0 3 i0 (.int .i64 0) 1 8 Try.underlying24 hi0 hzz hz1 HS.out rfl (by decide) _ cs.length _ (by rfl) hoA ⟨w4.heap.size, 0, none⟩ 1 1 [.int .i64 y] (by rfl) (by rfl) HC.out (DrawN.int_one _) (by decide) (by unfold maxLen; omega) (by omega) (Nat.zero_le _) _ rfl ?_; intro g5 cap5 w5 ho5 hg5 hcase hlt5; have hgn : some g ≠ (Value.slice A1 cs.length c1).ownBlock := (fun e => by have h9 := HL1.out g (by rw [HSB.out, ← e]; simp); have := HGR.out; omega); have K5 : w5.heap[g]? = some (.cells #[.int .i64 (x : Int), .slice A1 cs.length c1, .slice A2 M.length c2] 32 (0, 0)) := (hg5.block g (Nat.lt_of_lt_of_le (OrbK.box_lt (HK1.out w4 on4)) hbf.size) hgn).trans ((hbf.block g (OrbK.box_lt (HK1.out w4 on4))).trans (HK1.out w4 on4)); obtain ⟨t0, t1, t2⟩ := OrbK.row3 K5; have tz := frozen_of_row _ _ 1 _ _ K5)
        | (go_simp; go_at_call 35; (with_reducible refine hod.mono ?_); rintro e w4 ⟨y, rfl, hd4⟩; have on4 : Only [C] w3 w4 := od.trans (DrawN.drew_only hd4); have q4 := HC1.out w4 on4; have hbf : Below w4.heap.size w4 (w4.alloc (.cells #[.int .i64 y] 3)) := (Below.refl _ _).alloc (Nat.le_refl _) _; have q5 := (hbf.cell (p := ⟨g, 1, none⟩) (OrbK.box_lt (HK1.out w4 on4))).trans q4; have O14 := O1.out.alike (w' := w4) (fun b hb => on4.block b (O1.out.lt b hb) (by have := HB1.out b hb; simp; omega)); have hoA := (DrawN.own_ints0 O14).1.alloc (.cells #[.int .i64 y] 3); have hcell : (w4.alloc (.cells #[.int .i64 y] 3)).cell? ⟨w4.heap.size, 0, none⟩ = some (.int .i64 y) := (by simp); have HC := Lib.hid (DrawN.one_cell hcell))
        | fail)
      all_goals (
        have hgr := HGR.out
        have hrb : some w.heap.size ≠ (Value.slice A1 cs.length c1).ownBlock := fun e => by
          have h9 := HB1.out w.heap.size (by rw [HSB.out, ← e]; simp)
          omega
        have R4 := (on4.block w.heap.size (OrbK.box_lt R.out) (by simp; omega)).trans R.out
        have R5 : w5.heap[w.heap.size]? = some (.cells #[.int .i64 0, .slice none 0 0, .slice none 0 0] 32 (0, 0)) := (hg5.block w.heap.size (Nat.lt_of_lt_of_le (OrbK.box_lt R4) hbf.size) hrb).trans ((hbf.block w.heap.size (OrbK.box_lt R4)).trans R4)
        have O24 := O2.out.alike (w' := w4) fun b hb => on4.block b (O2.out.lt b hb) (by have := HB2.out b hb; simp; omega)
        have O25 := (O24.keep hbf).alike (w' := w5) fun b hb => hg5.block b ((O24.keep hbf).lt b hb) (fun e => by
          have h9 : b ∈ S1 := by rw [HSB.out, ← e]; simp
          exact HDJ.out b h9 hb)
        obtain ⟨S5, hO15, _, hS5⟩ := own_intRow (l := cs ++ [y]) (v := .slice (some ⟨g5, 0, none⟩) (cs.length + 1) cap5) (by rw [List.length_append, icells_append]; exact ho5)
        have hS5b : ∀ b ∈ S5, b = g5 := fun b hb => by rw [hS5] at hb; simpa [Value.ownBlock] using hb
        have hg5n : w.heap.size + 1 ≤ g5 ∧ g5 ≠ g := by
          rcases hcase with h9 | h9
          · have h8 : g5 ∈ S1 := by rw [HSB.out, h9]; simp
            have h7 := HL1.out g5 h8
            exact ⟨HB1.out g5 h8, by omega⟩
          · rw [h9]
            have h8 := OrbK.box_lt (HK1.out w4 on4)
            have h7 := hbf.size
            exact ⟨by omega, by omega⟩
        have onS : Only [g] w5 (w5.setCell ⟨g, 1, none⟩ (.slice (some ⟨g5, 0, none⟩) (cs.length + 1) cap5)) := (Only.refl _ _).set ⟨g, 1, none⟩ _ (by simp)
        have O16 := hO15.alike (w' := w5.setCell ⟨g, 1, none⟩ (.slice (some ⟨g5, 0, none⟩) (cs.length + 1) cap5)) fun b hb => onS.block b (hO15.lt b hb) (by have := hS5b b hb; have := hg5n; simp; omega)
        have O26 := O25.alike (w' := w5.setCell ⟨g, 1, none⟩ (.slice (some ⟨g5, 0, none⟩) (cs.length + 1) cap5)) fun b hb => onS.block b (O25.lt b hb) (by have := HL2.out b hb; simp; omega)
        have hD4 : Drew B C w w4 := (DrawN.below_drew hC HD.out (⟨rfl, rfl, rfl, Nat.le_refl _, fun _ _ => rfl⟩ : Below w3.heap.size w3 w3.drew)).trans hd4
        have hD5 := DrawN.drew_grown hC (DrawN.below_drew hC hD4 hbf) hg5 (fun q e => by have := HB1.out q (by rw [HSB.out, e]; simp); omega)
        have hD6 := DrawN.only_drew hC hD5 onS (fun b hb => by simp at hb; omega)
        obtain ⟨s0, s1, s2⟩ := OrbK.row3 R5
        obtain ⟨y0, y1, y2⟩ := z3At R5
        have hpost := Lib.hid (DrawN.any_done (r := w.heap.size) (z := (x : Int)) (l := (cs ++ [y])) (m := M) hC (by simp) rfl (by simp; omega) (by omega) O16 O26 (fun b hb => by rw [hS5b b hb]; exact hg5n.1) HB2.out hD6 rfl)
        clear hod hd4 on4 q0 hbf hcell HC hcase hO15 hS5 hS5b hg5n onS O14 O24 O25 O16 O26 hD4 hD5 hD6 K5 R4 R5 q1 q4 q5 hoA ho5 hg5 hlt5 hgn hrb hgr od
        go_wp2
        exact bodyPost_ret (v := .agg #[.int .i64 ((x : Int)), .slice (some ⟨g5, 0, none⟩) (cs.length + 1) cap5, .slice A2 (M.length) c2]) (by simp [results, Try.results54, go_sem, s0, s1, s2]) rfl hpost.out)
    · by_cases e2 : k = 2
      · subst e2
        have hbF : Below w3.heap.size w3 (w3.alloc (.cells #[.int .i64 0, .int .i64 5] 3)) := (Below.refl _ _).alloc (Nat.le_refl _) _
        have hbG : Below (w3.alloc (.cells #[.int .i64 0, .int .i64 5] 3)).heap.size (w3.alloc (.cells #[.int .i64 0, .int .i64 5] 3)) ((w3.alloc (.cells #[.int .i64 0, .int .i64 5] 3)).alloc (.cells #[.slice (some ⟨w3.heap.size, 0, none⟩) 2 2] 24)) := (Below.refl _ _).alloc (Nat.le_refl _) _
        have hbx : Below w3.heap.size w3 ((w3.alloc (.cells #[.int .i64 0, .int .i64 5] 3)).alloc (.cells #[.slice (some ⟨w3.heap.size, 0, none⟩) 2 2] 24)) := hbF.trans (hbG.mono hbF.size)
        have hown := Lib.hid (O2.out.keep hbx)
        have hlit : (w3.alloc (.cells #[.int .i64 0, .int .i64 5] 3)).ownsRow w3.heap.size 3 1 (.slice (some ⟨w3.heap.size, 0, none⟩) 2 2) 2 [.int .i64 0, .int .i64 5] := World.ownsRow_lit w3 #[.int .i64 0, .int .i64 5] 2 (Nat.le_refl _) (by decide) rfl
        obtain ⟨RR, hRR, hRb, hRe⟩ := own_intRow (l := [0, 5]) hlit
        have HRR := Lib.hid (hRR.keep hbG)
        have hRl : ∀ b ∈ RR, b = w3.heap.size := fun b hb => by rw [hRe] at hb; simpa [Value.ownBlock] using hb
        have hcell : ((w3.alloc (.cells #[.int .i64 0, .int .i64 5] 3)).alloc (.cells #[.slice (some ⟨w3.heap.size, 0, none⟩) 2 2] 24)).cell? ⟨w3.heap.size + 1, 0, none⟩ = some (.slice (some ⟨w3.heap.size, 0, none⟩) 2 2) := by
          have h9 := heap_alloc_new (w3.alloc (.cells #[.int .i64 0, .int .i64 5] 3)) (.cells #[.slice (some ⟨w3.heap.size, 0, none⟩) 2 2] 24)
          rw [World.size_alloc] at h9
          rw [cell_of_row _ _ _ _ _ _ h9]
          rfl
        have HC := Lib.hid (DrawN.one_cell hcell)
        have HDD : Hid (∀ b ∈ S2, b ∉ RR) := Lib.hid (fun b hb h9 => by have := O2.out.lt b hb; have := hRl b h9; omega)
        have K4 := (hbx.block g (OrbK.box_lt K.out)).trans K.out
        have R4 := (hbx.block w.heap.size (OrbK.box_lt R.out)).trans R.out
        have O14 := O1.out.keep hbx
        have hD4 := DrawN.below_drew hC HD.out hbx
        have HK4 := Lib.hid K4
        have HR4 := Lib.hid R4
        have HO14 := Lib.hid O14
        have HD4 := Lib.hid hD4
        have HRL := Lib.hid hRl
        obtain ⟨b0, b1, b2⟩ := OrbK.row3 K.out
        have lg := OrbK.box_lt K.out
        clear hbF hbG hbx hlit hRR hRb hRe hcell K4 R4 O14 hD4 hRl
        go_wp2_with (at_builtin; refine wpList_append_rows rfl (.tmp 27) (.tmp 29) rfl _ S2 M rfl hown.out ⟨w3.heap.size + 1, 0, none⟩ (.slice (some ⟨w3.heap.size, 0, none⟩) 2 2) [0, 5] RR rfl HC.out HRR.out HDD.out (by omega) ?_)
        intro g5 cap5 T5 w5 ho5 hT5 on5
        have hgr := HGR.out
        have hz5 : ((w3.alloc (.cells #[.int .i64 0, .int .i64 5] 3)).alloc (.cells #[.slice (some ⟨w3.heap.size, 0, none⟩) 2 2] 24)).heap.size = w3.heap.size + 1 + 1 := by simp
        have hT5b : ∀ b ∈ T5, w.heap.size + 1 ≤ b ∧ b ≠ g := fun b hb => by
          rcases hT5 b hb with h9 | h9 | h9
          · have := HB2.out b h9
            have := HL2.out b h9
            omega
          · have := HRL.out b h9
            omega
          · rw [h9]
            have := OrbK.box_lt K.out
            simp
            omega
        have K5 := (on5.block g (OrbK.box_lt HK4.out) (fun h9 => by have := HL2.out g h9; omega)).trans HK4.out
        have R5 := (on5.block w.heap.size (OrbK.box_lt HR4.out) (fun h9 => by have := HB2.out w.heap.size h9; omega)).trans HR4.out
        have O15 := HO14.out.alike (w' := w5) fun b hb => on5.block b (HO14.out.lt b hb) (HDJ.out b hb)
        have onS : Only [g] w5 (w5.setCell ⟨g, 2, none⟩ (.slice (some ⟨g5, 0, none⟩) (M.length + 1) cap5)) := (Only.refl _ _).set ⟨g, 2, none⟩ _ (by simp)
        have O16 := O15.alike (w' := w5.setCell ⟨g, 2, none⟩ (.slice (some ⟨g5, 0, none⟩) (M.length + 1) cap5)) fun b hb => onS.block b (O15.lt b hb) (by have := HL1.out b hb; simp; omega)
        have O26 := ho5.alike (w' := w5.setCell ⟨g, 2, none⟩ (.slice (some ⟨g5, 0, none⟩) (M.length + 1) cap5)) fun b hb => onS.block b (ho5.lt b hb) (by have := (hT5b b hb).2; simp; omega)
        have hD5 := DrawN.only_drew hC HD4.out on5 (fun b hb => by have := HB2.out b hb; omega)
        have hD6 := DrawN.only_drew hC hD5 onS (fun b hb => by simp at hb; omega)
        clear b0 b1 b2
        obtain ⟨b0, b1, b2⟩ := OrbK.row3 K5
        have f2 := frozen_of_row _ _ 2 _ _ K5
        obtain ⟨s0, s1, s2⟩ := OrbK.row3 R5
        obtain ⟨y0, y1, y2⟩ := z3At R5
        have hms : (M ++ [[0, 5]]).length + sumR (M ++ [[0, 5]]) ≤ 40000 := by rw [DrawN.sum_snoc]; simp; omega
        have hpost := Lib.hid (DrawN.any_done (r := w.heap.size) (z := (x : Int)) (l := cs) (m := (M ++ [[0, 5]])) hC rfl (by simp) (by omega) hms O16 O26 HB1.out (fun b hb => (hT5b b hb).1) hD6 rfl)
        clear hown HRR HC HDD HK4 HR4 HO14 HD4 HRL ho5 hT5 on5 hz5 hT5b O15 onS O16 O26 hD5 hD6 hms K5 R5 hgr lg
        go_wp2
        exact bodyPost_ret (v := .agg #[.int .i64 ((x : Int)), .slice A1 (cs.length) c1, .slice (some ⟨g5, 0, none⟩) (M.length + 1) cap5]) (by simp [results, Try.results54, go_sem, s0, s1, s2]) rfl hpost.out
      · by_cases e3 : k = 3
        · subst e3
          have hdr := l6Draw_any B C 4 (by omega) 1 (by omega) w3 HD.out.1
          go_wp2_with fail
          refine hdr.mono ?_
          rintro e w4 ⟨cs4, M4, A3, c3, A4, c4, S4, rfl, hl4, _, _, hn4, hL4, hS4, hd4⟩
          have hgr := HGR.out
          have on4 := DrawN.drew_only hd4
          have K4 := (on4.block g (OrbK.box_lt K.out) (by simp; omega)).trans K.out
          have R4 := (on4.block w.heap.size (OrbK.box_lt R.out) (by simp; omega)).trans R.out
          obtain ⟨T1, T2, hO1, hO2, _, hi1, hi2⟩ := DrawN.orb_split hL4
          have hl3 := OrbK.box_lt K.out
          have onS : Only [g] w4 (((w4.setCell ⟨g, 0, none⟩ (.int .i64 4)).setCell ⟨g, 1, none⟩ (.slice A3 cs4.length c3)).setCell ⟨g, 2, none⟩ (.slice A4 M4.length c4)) := OrbQ.set3_only _ _ _ _ _
          have O16 := hO1.alike (w' := (((w4.setCell ⟨g, 0, none⟩ (.int .i64 4)).setCell ⟨g, 1, none⟩ (.slice A3 cs4.length c3)).setCell ⟨g, 2, none⟩ (.slice A4 M4.length c4))) fun b hb => onS.block b (hO1.lt b hb) (by have := hS4 b (hi1 b hb); simp; omega)
          have O26 := hO2.alike (w' := (((w4.setCell ⟨g, 0, none⟩ (.int .i64 4)).setCell ⟨g, 1, none⟩ (.slice A3 cs4.length c3)).setCell ⟨g, 2, none⟩ (.slice A4 M4.length c4))) fun b hb => onS.block b (hO2.lt b hb) (by have := hS4 b (hi2 b hb); simp; omega)
          have hD6 := DrawN.only_drew hC (HD.out.trans hd4) onS (fun b hb => by simp at hb; omega)
          have hf4 : M4.length + sumR M4 ≤ 32768 := normal_fit (k := (cs4.length : Int)) (by omega) (by omega) (by omega) hn4
          have hbb1 : ∀ b ∈ T1, w.heap.size + 1 ≤ b := fun b hb => by have := hS4 b (hi1 b hb); omega
          have hbb2 : ∀ b ∈ T2, w.heap.size + 1 ≤ b := fun b hb => by have := hS4 b (hi2 b hb); omega
          obtain ⟨b0, b1, b2⟩ := OrbK.row3 K4
          have f0 := frozen_of_row _ _ 0 _ _ K4
          have f1 := frozen_of_row _ _ 1 _ _ K4
          have f2 := frozen_of_row _ _ 2 _ _ K4
          obtain ⟨s0, s1, s2⟩ := OrbK.row3 R4
          obtain ⟨y0, y1, y2⟩ := z3At R4
          have hpost := Lib.hid (DrawN.any_done (r := w.heap.size) (z := 4) (l := cs4) (m := M4) hC rfl rfl (by omega) (by omega) O16 O26 hbb1 hbb2 hD6 rfl)
          clear hdr hL4 hS4 hd4 on4 hO1 hO2 hi1 hi2 hl3 onS O16 O26 hD6 hf4 hbb1 hbb2 K4 R4 hgr hn4
          go_wp2
          exact bodyPost_ret (v := .agg #[.int .i64 (4), .slice A3 (cs4.length) c3, .slice A4 (M4.length) c4]) (by simp [results, Try.results54, go_sem, s0, s1, s2]) rfl hpost.out
        · have t0 : ((k : Int) == 0) = false := by simp; omega
          have t1 : ((k : Int) == 1) = false := by simp; omega
          have t2 : ((k : Int) == 2) = false := by simp; omega
          have t3 : ((k : Int) == 3) = false := by simp; omega
          obtain ⟨b0, b1, b2⟩ := OrbK.row3 K.out
          obtain ⟨s0, s1, s2⟩ := OrbK.row3 R.out
          obtain ⟨y0, y1, y2⟩ := z3At R.out
          have hpost := Lib.hid (DrawN.any_done (r := w.heap.size) (z := (x : Int)) (l := cs) (m := M) hC rfl rfl (by omega) (by omega) O1.out O2.out HB1.out HB2.out HD.out rfl)
          clear e0 e1 e2 e3
          go_wp2
          exact bodyPost_ret (v := .agg #[.int .i64 ((x : Int)), .slice A1 (cs.length) c1, .slice A2 (M.length) c2]) (by simp [results, Try.results54, go_sem, s0, s1, s2]) rfl hpost.out
end Go.Proofs.Ytnamlgacjhnpnaa
end

section
namespace Go.Proofs.Ytnamlgacjhnpnaa
open Go.RowKit Go.Sort
set_option linter.unusedVariables false

namespace DrawN
theorem cur_only {W W' : World} {B C : Nat} {U : List Nat} (h : Cur W B C) (on : Only U W W') (hu : ∀ b ∈ U, B ≤ b ∧ b ≠ C) : Cur W' B C := by
  have hl := h.lt
  obtain ⟨A, n, c, i, x, hblk, hi, hn, hB, hby⟩ := h
  exact ⟨A, n, c, i, x, (on.block C hl (fun e => (hu C e).2 rfl)).trans hblk, hi, hn, hB, hby.keep fun k hk => on.block k (by omega) (fun e => by have := (hu k e).1; omega)⟩
theorem cur_below {W W' : World} {B C : Nat} (h : Cur W B C) (hb : Below W.heap.size W W') : Cur W' B C := by
  have hl := h.lt
  obtain ⟨A, n, c, i, x, hblk, hi, hn, hB, hby⟩ := h
  exact ⟨A, n, c, i, x, (hb.block C hl).trans hblk, hi, hn, hB, hby.keep fun k hk => hb.block k (by omega)⟩
theorem own_orbIx {w : World} {S1 S2 : List Nat} {z : Int} {l : List Int} {m : List (List Int)} {A1 A2 : Option Addr} {c1 c2 : Nat} (h1 : Own w S1 (.slice A1 l.length c1) (intMem l)) (h2 : Own w S2 (.slice A2 m.length c2) (rowsMem m)) :
    OrbIx w (.agg #[.int .i64 z, .slice A1 l.length c1, .slice A2 m.length c2]) z l m := by
  obtain ⟨A, c, e, hc⟩ := own_intSlice h1
  simp only [Value.slice.injEq, true_and] at e
  obtain ⟨rfl, rfl⟩ := e
  exact ⟨A1, c1, A2, c2, rfl, hc, h2.at_, own_rowsC h2⟩
theorem only_below {w w' : World} (U : List Nat) (hb : Below w.heap.size w w') : Only U w w' := ⟨hb.os, hb.tape, hb.output, hb.size, fun b h _ => hb.block b h⟩
/-- An orbit set and a list that the model draws. -/
def SetList (w : World) (e : Ending) (w' : World) : Prop :=
  ∃ (z : Int) (l : List Int) (m : List (List Int)) (ds : List Int) (A1 : Option Addr) (c1 : Nat) (A2 : Option Addr) (c2 : Nat) (A3 : Option Addr) (c3 : Nat),
    e = .returned (.tuple #[.agg #[.int .i64 z, .slice A1 l.length c1, .slice A2 m.length c2], .slice A3 ds.length c3]) ∧ l.length ≤ 3 ∧ m.length + sumR m ≤ 40000 ∧ ds.length ≤ 10 ∧
    OrbIx w' (.agg #[.int .i64 z, .slice A1 l.length c1, .slice A2 m.length c2]) z l m ∧ ConstAt w' A3 c3 ds ∧ Below w.heap.size w w'
end DrawN

theorem newCurLo {A : Option Addr} {n c B : Nat} {w : World} (x : Int) (hA : BytesAt w B A n) (hB : B ≤ w.heap.size) (hn : n ≤ 1048576) :
    Cur (w.alloc (.cells #[.slice A n c, .int .i64 0, .int .i64 x] 81)) B w.heap.size :=
  ⟨A, n, c, 0, x, heap_alloc_new _ _, Nat.zero_le _, hn, hB, hA.keep fun k hk => Below.heap_alloc _ _ _ (by omega)⟩

set_option maxRecDepth 100000 in
set_option maxHeartbeats 2000000 in
theorem l1New_lo (A : Option Addr) (n c B : Nat) (w : World) (hA : BytesAt w B A n) (hB : B ≤ w.heap.size) (hn : n ≤ 1048576) :
    Calls Try.prog 31 #[.slice A n c] w fun e w' => ∃ C, e = .returned (.pointer (some ⟨C, 0, none⟩)) ∧ Cur w' B C ∧ Below w.heap.size w w' := by
  have HA := Lib.hid hA
  clear hA
  go_enter Try.func31, Try.ntmps31
  go_wp2
  go_loop [3, 4] (fun h i => ∃ (k : Nat) (x : Int), k ≤ n ∧ i = .int .i64 k ∧ h = .int .i64 x) (fun _ i => n - (intOf i).toNat)
  case atStart => exact ⟨0, _, Nat.zero_le _, rfl, rfl⟩
  case round =>
    obtain ⟨k, x, hk, rfl, rfl⟩ := hrel
    by_cases hlt : k < n
    · by_cases h4 : k < 4000
      · obtain ⟨b, off, y, rfl, hb, hy, hcy⟩ := HA.out k hlt
        go_wp2
        go_round
        case rel => exact ⟨k + 1, _, by omega, by go_num, rfl⟩
        case measure => simp [intOf]; omega
      · have h5 : 4000 ≤ k := by omega
        have hpost := newCurLo x HA.out hB hn (c := c)
        go_wp2
        go_ret
        exact ⟨w.heap.size, rfl, hpost, (Below.refl _ _).alloc (Nat.le_refl _) _⟩
    · have hpost := newCurLo x HA.out hB hn (c := c)
      go_wp2
      go_ret
      exact ⟨w.heap.size, rfl, hpost, (Below.refl _ _).alloc (Nat.le_refl _) _⟩


set_option maxRecDepth 100000 in
set_option maxHeartbeats 8000000 in
theorem drawExtendSet_any (A : Option Addr) (n c : Nat) (w : World) (hA : BytesIn w A n) (hn : n ≤ 1048576) :
    Calls Try.prog 22 #[.slice A n c] w (DrawN.SetList w) := by
  have hbz0 : Below w.heap.size w (w.alloc (.cells #[.int .i64 0, .slice none 0 0, .slice none 0 0] 32)) := (Below.refl _ _).alloc (Nat.le_refl _) _
  have hr0 := heap_alloc_new w (.cells #[.int .i64 0, .slice none 0 0, .slice none 0 0] 32)
  have hz0 : (w.alloc (.cells #[.int .i64 0, .slice none 0 0, .slice none 0 0] 32)).heap.size = w.heap.size + 1 := by simp
  have hnew := l1New_lo A n c w.heap.size (w.alloc (.cells #[.int .i64 0, .slice none 0 0, .slice none 0 0] 32)) (BytesAt.keep hA hbz0.block) (by omega) hn
  have HR0 := Lib.hid hr0
  have HZ0 := Lib.hid hz0
  have HB0 := Lib.hid hbz0
  clear hA hbz0 hr0 hz0
  go_enter Try.func22, Try.ntmps22
  go_wp2_with fail
  refine hnew.mono ?_
  rintro e w1 ⟨C, rfl, hc1, hb1⟩
  have hC1 := hc1.lt
  have hBC := DrawN.cur_base hc1
  have hs1 : w.heap.size + 1 ≤ w1.heap.size := by have := hb1.size; rw [HZ0.out] at this; exact this
  have r1 := (hb1.block w.heap.size (by rw [HZ0.out]; omega)).trans HR0.out
  have hCr : C ≠ w.heap.size := fun e9 => by
    have h9 := hc1
    obtain ⟨_, _, _, _, _, hk, _⟩ := h9
    rw [e9, r1] at hk
    simp at hk
  have hbz1 := HB0.out.trans (hb1.mono HB0.out.size)
  have hany := l6Any_any w.heap.size C w1 hc1
  clear hnew hb1 HR0 HZ0 HB0
  go_wp2_with fail
  refine hany.mono ?_
  rintro e w2 ⟨z, l, m, A1, c1, A2, c2, S1, S2, rfl, hl, hm, hO1, hO2, hb1, hb2, hd2⟩
  have hs2 := hd2.2.size
  have r2 := ((DrawN.drew_only hd2).block w.heap.size (by omega) (by simp; omega)).trans r1
  have hbx : Below w2.heap.size w2 (w2.alloc (.cells #[.int .i64 z, .slice A1 l.length c1, .slice A2 m.length c2] 32)) := (Below.refl _ _).alloc (Nat.le_refl _) _
  have k3 : (w2.alloc (.cells #[.int .i64 z, .slice A1 l.length c1, .slice A2 m.length c2] 32)).heap[w2.heap.size]? = some (.cells #[.int .i64 z, .slice A1 l.length c1, .slice A2 m.length c2] 32 (0, 0)) := heap_alloc_new w2 _
  have hc3 := DrawN.cur_below hd2.1 hbx
  have hP1 := hO1.keep hbx
  have hP2 := hO2.keep hbx
  have r3 := (hbx.block w.heap.size (by omega)).trans r2
  have hz3 : (w2.alloc (.cells #[.int .i64 z, .slice A1 l.length c1, .slice A2 m.length c2] 32)).heap.size = w2.heap.size + 1 := by simp
  have hbz2 := hbz1.grown hd2.2 hbz1.size (fun q e9 => by injection e9 with e9; omega)
  have hbz3 := hbz2.trans (hbx.mono hbz2.size)
  have hon := l1Once_any w.heap.size C 4 (w2.alloc (.cells #[.int .i64 z, .slice A1 l.length c1, .slice A2 m.length c2] 32)) hc3 (by omega) (by omega)
  have HK3 := Lib.hid k3
  have HR3 := Lib.hid r3
  have HP1 := Lib.hid hP1
  have HP2 := Lib.hid hP2
  have HZ3 := Lib.hid hz3
  have HBZ := Lib.hid hbz3
  have HB1 := Lib.hid hb1
  have HB2 := Lib.hid hb2
  clear hany hd2 hO1 hO2 hb1 hb2 r1 r2 hbx k3 hc3 hP1 hP2 r3 hz3 hbz1 hbz2 hbz3 hc1
  go_wp2_with fail
  refine hon.mono ?_
  rintro e w3 ⟨b, rfl, hd3⟩
  have on3 := DrawN.drew_only hd3
  have K := Lib.hid ((on3.block w2.heap.size (by rw [HZ3.out]; omega) (by simp; omega)).trans HK3.out)
  have R := Lib.hid ((on3.block w.heap.size (OrbK.box_lt HR3.out) (by simp; omega)).trans HR3.out)
  have O1 := Lib.hid (HP1.out.alike (w' := w3) fun b hb => on3.block b (HP1.out.lt b hb) (by have := HB1.out b hb; simp; omega))
  have O2 := Lib.hid (HP2.out.alike (w' := w3) fun b hb => on3.block b (HP2.out.lt b hb) (by have := HB2.out b hb; simp; omega))
  have HB := Lib.hid (HBZ.out.grown hd3.2 HBZ.out.size (fun q e9 => by injection e9 with e9; omega))
  have HCC := Lib.hid hd3.1
  have hne : ¬ w.heap.size = w2.heap.size := by omega
  have hne2 : ¬ w2.heap.size = w.heap.size := by omega
  have hsw : w2.heap.size + 1 ≤ w3.heap.size := by have := hd3.2.size; rw [HZ3.out] at this; exact this
  have HNN := Lib.hid (show C < w1.heap.size ∧ w.heap.size ≤ C ∧ C ≠ w.heap.size ∧ w.heap.size + 1 ≤ w1.heap.size ∧ w1.heap.size ≤ w2.heap.size from ⟨hC1, hBC, hCr, hs1, hs2⟩)
  obtain ⟨g, hg⟩ : ∃ g : Nat, g = w2.heap.size := ⟨_, rfl⟩
  rw [← hg] at K hsw hne hne2 ⊢
  have HG := Lib.hid hg
  clear hon hd3 on3 HK3 HR3 HP1 HP2 HZ3 HBZ hg hs1 hs2
  -- what every later world that differs in the cursor and the answer's box keeps
  have HON : Hid (∀ W : World, Only [C, w.heap.size] w3 W → (W.cell? ⟨g, 0, none⟩ = some (.int .i64 z) ∧ W.cell? ⟨g, 1, none⟩ = some (.slice A1 l.length c1) ∧ W.cell? ⟨g, 2, none⟩ = some (.slice A2 m.length c2)) ∧ Own W S1 (.slice A1 l.length c1) (intMem l) ∧ Own W S2 (.slice A2 m.length c2) (rowsMem m)) := Lib.hid (fun W on => by
    have hn := HNN.out
    have hg := HG.out
    exact ⟨OrbK.row3 ((on.block g (OrbK.box_lt K.out) (by simp; omega)).trans K.out), O1.out.alike fun b hb => on.block b (O1.out.lt b hb) (by have := HB1.out b hb; simp; omega), O2.out.alike fun b hb => on.block b (O2.out.lt b hb) (by have := HB2.out b hb; simp; omega)⟩)
  have odr : Only [C, w.heap.size] w3 w3.drew := ⟨rfl, rfl, rfl, Nat.le_refl _, fun _ _ _ => rfl⟩
  have hrl := OrbK.box_lt R.out
  have HRL := Lib.hid hrl
  have HST : Hid (∀ W : World, Only [C, w.heap.size] w3 W → Only [C, w.heap.size] w3 (((W.setCell ⟨w.heap.size, 0, none⟩ (.int .i64 z)).setCell ⟨w.heap.size, 1, none⟩ (.slice A1 l.length c1)).setCell ⟨w.heap.size, 2, none⟩ (.slice A2 m.length c2))) := Lib.hid (fun W on => on.trans ((((Only.refl _ _).set ⟨w.heap.size, 0, none⟩ _ (by simp)).set ⟨w.heap.size, 1, none⟩ _ (by simp)).set ⟨w.heap.size, 2, none⟩ _ (by simp)))
  have HDR : Hid (∀ W W' : World, Only [C, w.heap.size] w3 W → Drew w.heap.size C W W' → Only [C, w.heap.size] w3 W') := Lib.hid (fun W W' on hd => on.trans ⟨hd.2.os, hd.2.tape, hd.2.output, hd.2.size, fun b hb hnn => (DrawN.drew_only hd).block b hb (fun e => hnn (by simp at e; simp [e]))⟩)
  have HCS : Hid (∀ W : World, Cur W w.heap.size C → Cur (((W.setCell ⟨w.heap.size, 0, none⟩ (.int .i64 z)).setCell ⟨w.heap.size, 1, none⟩ (.slice A1 l.length c1)).setCell ⟨w.heap.size, 2, none⟩ (.slice A2 m.length c2)) w.heap.size C) := Lib.hid (fun W hc => DrawN.cur_only hc ((((Only.refl [w.heap.size] _).set ⟨w.heap.size, 0, none⟩ _ (by simp)).set ⟨w.heap.size, 1, none⟩ _ (by simp)).set ⟨w.heap.size, 2, none⟩ _ (by simp)) (fun b hb => by have := HNN.out; simp at hb; omega))
  have HBE : Hid (∀ W : World, Only [C, w.heap.size] w3 W → Below w.heap.size w W) := Lib.hid (fun W on => Only.below HB.out on HB.out.size (fun b hb => by have := HNN.out; simp at hb; omega))
  have cd : Cur w3.drew w.heap.size C := HCC.out
  have oda := HST.out w3.drew odr
  obtain ⟨⟨u0, u1, u2⟩, _⟩ := HON.out w3.drew odr
  obtain ⟨⟨v0, v1, v2⟩, _⟩ := HON.out (((w3.drew.setCell ⟨w.heap.size, 0, none⟩ (.int .i64 z)).setCell ⟨w.heap.size, 1, none⟩ (.slice A1 l.length c1)).setCell ⟨w.heap.size, 2, none⟩ (.slice A2 m.length c2)) oda
  obtain ⟨s0, s1, s2⟩ := OrbK.row3 R.out
  obtain ⟨y0, y1, y2⟩ := z3At R.out
  have hfa := fun most (hmost : most ≤ 200) => l6Few_any w.heap.size C most w3.drew cd hmost
  have hfb := fun most (hmost : most ≤ 200) => l6Few_any w.heap.size C most (((w3.drew.setCell ⟨w.heap.size, 0, none⟩ (.int .i64 z)).setCell ⟨w.heap.size, 1, none⟩ (.slice A1 l.length c1)).setCell ⟨w.heap.size, 2, none⟩ (.slice A2 m.length c2)) (HCS.out _ cd) hmost
  cases b with
  | true =>
    replace hfa := hfa 3 (by omega)
    replace hfb := hfb 3 (by omega)
    rw [show ((3 : Nat) : Int) = 3 from rfl] at hfa hfb
    go_wp2
    go_region_held3 (fun w' => w'.cell? ⟨g, 0, none⟩ = some (.int .i64 z) ∧ w'.cell? ⟨g, 1, none⟩ = some (.slice A1 l.length c1) ∧ w'.cell? ⟨g, 2, none⟩ = some (.slice A2 m.length c2))
      (first | (with_reducible exact ⟨by assumption, by assumption, by assumption⟩) | (with_reducible exact ⟨OrbQ.set3_keep (by assumption) (by assumption), OrbQ.set3_keep (by assumption) (by assumption), OrbQ.set3_keep (by assumption) (by assumption)⟩) | go_keep)
      (first
      | (go_at_call 32; first | ((with_reducible refine hfa.mono ?_); rintro e w4 ⟨ds, g1, p1, rfl, ⟨hdl, _, _⟩, ho, hd4⟩; have on4 := HDR.out w3.drew w4 odr hd4; have R4 : w4.heap[w.heap.size]? = some (.cells #[.int .i64 0, .slice none 0 0, .slice none 0 0] 32 (0, 0)) := ((DrawN.drew_only hd4).block w.heap.size HRL.out (by have := HNN.out; simp; omega)).trans R.out; obtain ⟨s0, s1, s2⟩ := OrbK.row3 R4; obtain ⟨y0, y1, y2⟩ := z3At R4; obtain ⟨⟨g0, g1c, g2c⟩, _⟩ := HON.out w4 on4; have hFA : True := trivial) | ((with_reducible refine hfb.mono ?_); rintro e w4 ⟨ds, g1, p1, rfl, ⟨hdl, _, _⟩, ho, hd4⟩; have on4 := HDR.out (((w3.drew.setCell ⟨w.heap.size, 0, none⟩ (.int .i64 z)).setCell ⟨w.heap.size, 1, none⟩ (.slice A1 l.length c1)).setCell ⟨w.heap.size, 2, none⟩ (.slice A2 m.length c2)) w4 oda hd4; have R4 : w4.heap[w.heap.size]? = some (.cells #[.int .i64 z, .slice A1 l.length c1, .slice A2 m.length c2] 32 (0, 0)) := ((DrawN.drew_only hd4).block w.heap.size (Nat.lt_of_lt_of_le HRL.out ((((Only.refl [w.heap.size] w3.drew).set ⟨w.heap.size, 0, none⟩ (.int .i64 z) (by simp)).set ⟨w.heap.size, 1, none⟩ (.slice A1 l.length c1) (by simp)).set ⟨w.heap.size, 2, none⟩ (.slice A2 m.length c2) (by simp)).size) (by have := HNN.out; simp; omega)).trans (OrbQ.set3_box (w := w3.drew) R.out _ _ _); obtain ⟨s0, s1, s2⟩ := OrbK.row3 R4; obtain ⟨⟨g0, g1c, g2c⟩, _⟩ := HON.out w4 on4; have hFB : True := trivial))
      | fail)
    all_goals
      (try go_wp2)
      first | (have onF := HST.out w4 on4; obtain ⟨_, q1, q2⟩ := HON.out _ onF; have hbF := HBE.out _ onF; obtain ⟨S3, h3, h3b, _⟩ := own_intRow ho; have h4 := h3.alike (w' := (((w4.setCell ⟨w.heap.size, 0, none⟩ (.int .i64 z)).setCell ⟨w.heap.size, 1, none⟩ (.slice A1 l.length c1)).setCell ⟨w.heap.size, 2, none⟩ (.slice A2 m.length c2))) (fun b hb => (OrbQ.set3_only _ _ _ _ _).block b (h3.lt b hb) (by have h8 : w3.heap.size ≤ b := Nat.le_trans (Nat.le_refl _) (h3b b hb); have := HRL.out; simp; omega)); obtain ⟨A9, c9, e9, hc9⟩ := own_intSlice h4; simp only [Value.slice.injEq, true_and] at e9; obtain ⟨rfl, rfl⟩ := e9; have hpost : Hid (DrawN.SetList w (.returned (.tuple #[(.agg #[.int .i64 z, .slice A1 l.length c1, .slice A2 m.length c2]), .slice (some ⟨g1, 0, none⟩) ds.length p1])) ((((w4.setCell ⟨w.heap.size, 0, none⟩ (.int .i64 z)).setCell ⟨w.heap.size, 1, none⟩ (.slice A1 l.length c1)).setCell ⟨w.heap.size, 2, none⟩ (.slice A2 m.length c2)))) := Lib.hid ⟨z, l, m, ds, A1, c1, A2, c2, _, _, rfl, hl, hm, (by omega), DrawN.own_orbIx q1 q2, hc9, hbF⟩; exact bodyPost_ret (v := .tuple #[(.agg #[.int .i64 z, .slice A1 l.length c1, .slice A2 m.length c2]), .slice (some ⟨g1, 0, none⟩) ds.length p1]) (by simp [results, Try.results22, go_sem, s0, s1, s2]) rfl hpost.out) | (obtain ⟨_, q1, q2⟩ := HON.out w4 on4; have hbF := HBE.out w4 on4; obtain ⟨S3, h3, h3b, _⟩ := own_intRow ho; obtain ⟨A9, c9, e9, hc9⟩ := own_intSlice h3; simp only [Value.slice.injEq, true_and] at e9; obtain ⟨rfl, rfl⟩ := e9; have hpost : Hid (DrawN.SetList w (.returned (.tuple #[(.agg #[.int .i64 z, .slice A1 l.length c1, .slice A2 m.length c2]), .slice (some ⟨g1, 0, none⟩) ds.length p1])) w4) := Lib.hid ⟨z, l, m, ds, A1, c1, A2, c2, _, _, rfl, hl, hm, (by omega), DrawN.own_orbIx q1 q2, hc9, hbF⟩; exact bodyPost_ret (v := .tuple #[(.agg #[.int .i64 z, .slice A1 l.length c1, .slice A2 m.length c2]), .slice (some ⟨g1, 0, none⟩) ds.length p1]) (by simp [results, Try.results22, go_sem, s0, s1, s2]) rfl hpost.out)
  | false =>
    replace hfa := hfa 1 (by omega)
    replace hfb := hfb 1 (by omega)
    rw [show ((1 : Nat) : Int) = 1 from rfl] at hfa hfb
    go_wp2
    go_region_held3 (fun w' => w'.cell? ⟨g, 0, none⟩ = some (.int .i64 z) ∧ w'.cell? ⟨g, 1, none⟩ = some (.slice A1 l.length c1) ∧ w'.cell? ⟨g, 2, none⟩ = some (.slice A2 m.length c2))
      (first | (with_reducible exact ⟨by assumption, by assumption, by assumption⟩) | (with_reducible exact ⟨OrbQ.set3_keep (by assumption) (by assumption), OrbQ.set3_keep (by assumption) (by assumption), OrbQ.set3_keep (by assumption) (by assumption)⟩) | go_keep)
      (first
      | (go_at_call 32; first | ((with_reducible refine hfa.mono ?_); rintro e w4 ⟨ds, g1, p1, rfl, ⟨hdl, _, _⟩, ho, hd4⟩; have on4 := HDR.out w3.drew w4 odr hd4; have R4 : w4.heap[w.heap.size]? = some (.cells #[.int .i64 0, .slice none 0 0, .slice none 0 0] 32 (0, 0)) := ((DrawN.drew_only hd4).block w.heap.size HRL.out (by have := HNN.out; simp; omega)).trans R.out; obtain ⟨s0, s1, s2⟩ := OrbK.row3 R4; obtain ⟨y0, y1, y2⟩ := z3At R4; obtain ⟨⟨g0, g1c, g2c⟩, _⟩ := HON.out w4 on4; have hFA : True := trivial; have hin := own_intsAt ho; obtain ⟨A9, c9, e9, hin9⟩ := hin; simp only [Value.slice.injEq, true_and] at e9; obtain ⟨rfl, rfl⟩ := e9; obtain ⟨_, hl4, _⟩ := HON.out w4 on4; obtain ⟨A8, c8, e8, hc8⟩ := own_intSlice hl4; simp only [Value.slice.injEq, true_and] at e8; obtain ⟨rfl, rfl⟩ := e8; have hua := l6Union_all A1 (some ⟨g1, 0, none⟩) c1 p1 l ds w4 hc8.1 hc8.2 hin9 (by omega) (by omega); have onS := HST.out w4 on4; obtain ⟨_, hl5, _⟩ := HON.out _ onS; obtain ⟨A7, c7, e7, hc7⟩ := own_intSlice hl5; simp only [Value.slice.injEq, true_and] at e7; obtain ⟨rfl, rfl⟩ := e7; obtain ⟨S3, h3, h3b, _⟩ := own_intRow ho; have h4 := h3.alike (w' := (((w4.setCell ⟨w.heap.size, 0, none⟩ (.int .i64 z)).setCell ⟨w.heap.size, 1, none⟩ (.slice A1 l.length c1)).setCell ⟨w.heap.size, 2, none⟩ (.slice A2 m.length c2))) (fun b hb => (OrbQ.set3_only _ _ _ _ _).block b (h3.lt b hb) (by have h8 : w3.heap.size ≤ b := Nat.le_trans (Nat.le_refl _) (h3b b hb); have := HRL.out; simp; omega)); obtain ⟨A6, c6, e6, hc6⟩ := own_intSlice h4; simp only [Value.slice.injEq, true_and] at e6; obtain ⟨rfl, rfl⟩ := e6; have hub := l6Union_all A1 (some ⟨g1, 0, none⟩) c1 p1 l ds (((w4.setCell ⟨w.heap.size, 0, none⟩ (.int .i64 z)).setCell ⟨w.heap.size, 1, none⟩ (.slice A1 l.length c1)).setCell ⟨w.heap.size, 2, none⟩ (.slice A2 m.length c2)) hc7.1 hc7.2 hc6.1 (by omega) (by omega); have R4s := OrbQ.set3_box (w := w4) R4 (.int .i64 z) (.slice A1 l.length c1) (.slice A2 m.length c2)) | ((with_reducible refine hfb.mono ?_); rintro e w4 ⟨ds, g1, p1, rfl, ⟨hdl, _, _⟩, ho, hd4⟩; have on4 := HDR.out (((w3.drew.setCell ⟨w.heap.size, 0, none⟩ (.int .i64 z)).setCell ⟨w.heap.size, 1, none⟩ (.slice A1 l.length c1)).setCell ⟨w.heap.size, 2, none⟩ (.slice A2 m.length c2)) w4 oda hd4; have R4 : w4.heap[w.heap.size]? = some (.cells #[.int .i64 z, .slice A1 l.length c1, .slice A2 m.length c2] 32 (0, 0)) := ((DrawN.drew_only hd4).block w.heap.size (Nat.lt_of_lt_of_le HRL.out ((((Only.refl [w.heap.size] w3.drew).set ⟨w.heap.size, 0, none⟩ (.int .i64 z) (by simp)).set ⟨w.heap.size, 1, none⟩ (.slice A1 l.length c1) (by simp)).set ⟨w.heap.size, 2, none⟩ (.slice A2 m.length c2) (by simp)).size) (by have := HNN.out; simp; omega)).trans (OrbQ.set3_box (w := w3.drew) R.out _ _ _); obtain ⟨s0, s1, s2⟩ := OrbK.row3 R4; obtain ⟨⟨g0, g1c, g2c⟩, _⟩ := HON.out w4 on4; have hFB : True := trivial; have hin := own_intsAt ho; obtain ⟨A9, c9, e9, hin9⟩ := hin; simp only [Value.slice.injEq, true_and] at e9; obtain ⟨rfl, rfl⟩ := e9; obtain ⟨_, hl4, _⟩ := HON.out w4 on4; obtain ⟨A8, c8, e8, hc8⟩ := own_intSlice hl4; simp only [Value.slice.injEq, true_and] at e8; obtain ⟨rfl, rfl⟩ := e8; have hua := l6Union_all A1 (some ⟨g1, 0, none⟩) c1 p1 l ds w4 hc8.1 hc8.2 hin9 (by omega) (by omega)))
      | (go_at_call 56; first | ((with_reducible refine hub.mono ?_); rintro e w5 ⟨gU, capU, rfl, hoU, hb5⟩; have on5 := onS.trans (DrawN.only_below _ hb5); have R5 := (hb5.block _ (OrbK.box_lt R4s)).trans R4s; obtain ⟨s0, s1, s2⟩ := OrbK.row3 R5; obtain ⟨⟨x0, x1, x2⟩, _⟩ := HON.out w5 on5) | ((with_reducible refine hua.mono ?_); rintro e w5 ⟨gU, capU, rfl, hoU, hb5⟩; have on5 := on4.trans (DrawN.only_below _ hb5); have R5 := (hb5.block _ (OrbK.box_lt R4)).trans R4; obtain ⟨s0, s1, s2⟩ := OrbK.row3 R5; (try (obtain ⟨y0, y1, y2⟩ := z3At R5)); obtain ⟨⟨x0, x1, x2⟩, _⟩ := HON.out w5 on5))
      | fail)
    all_goals
      (try go_wp2)
      first | (have onF := HST.out w5 on5; obtain ⟨_, q1, q2⟩ := HON.out _ onF; have hbF := HBE.out _ onF; obtain ⟨S3, h3, h3b, _⟩ := own_intRow hoU; have h4 := h3.alike (w' := (((w5.setCell ⟨w.heap.size, 0, none⟩ (.int .i64 z)).setCell ⟨w.heap.size, 1, none⟩ (.slice A1 l.length c1)).setCell ⟨w.heap.size, 2, none⟩ (.slice A2 m.length c2))) (fun b hb => (OrbQ.set3_only _ _ _ _ _).block b (h3.lt b hb) (by have h8 : w3.heap.size ≤ b := Nat.le_trans (on4.size) (h3b b hb); have := HRL.out; simp; omega)); obtain ⟨A9, c9, e9, hc9⟩ := own_intSlice h4; simp only [Value.slice.injEq, true_and] at e9; obtain ⟨rfl, rfl⟩ := e9; have hpost : Hid (DrawN.SetList w (.returned (.tuple #[(.agg #[.int .i64 z, .slice A1 l.length c1, .slice A2 m.length c2]), .slice (some ⟨gU, 0, none⟩) (unB l ds).length capU])) ((((w5.setCell ⟨w.heap.size, 0, none⟩ (.int .i64 z)).setCell ⟨w.heap.size, 1, none⟩ (.slice A1 l.length c1)).setCell ⟨w.heap.size, 2, none⟩ (.slice A2 m.length c2)))) := Lib.hid ⟨z, l, m, (unB l ds), A1, c1, A2, c2, _, _, rfl, hl, hm, (by have := unB_len l ds; omega), DrawN.own_orbIx q1 q2, hc9, hbF⟩; exact bodyPost_ret (v := .tuple #[(.agg #[.int .i64 z, .slice A1 l.length c1, .slice A2 m.length c2]), .slice (some ⟨gU, 0, none⟩) (unB l ds).length capU]) (by simp [results, Try.results22, go_sem, s0, s1, s2]) rfl hpost.out) | (obtain ⟨_, q1, q2⟩ := HON.out w5 on5; have hbF := HBE.out w5 on5; obtain ⟨S3, h3, h3b, _⟩ := own_intRow hoU; obtain ⟨A9, c9, e9, hc9⟩ := own_intSlice h3; simp only [Value.slice.injEq, true_and] at e9; obtain ⟨rfl, rfl⟩ := e9; have hpost : Hid (DrawN.SetList w (.returned (.tuple #[(.agg #[.int .i64 z, .slice A1 l.length c1, .slice A2 m.length c2]), .slice (some ⟨gU, 0, none⟩) (unB l ds).length capU])) w5) := Lib.hid ⟨z, l, m, (unB l ds), A1, c1, A2, c2, _, _, rfl, hl, hm, (by have := unB_len l ds; omega), DrawN.own_orbIx q1 q2, hc9, hbF⟩; exact bodyPost_ret (v := .tuple #[(.agg #[.int .i64 z, .slice A1 l.length c1, .slice A2 m.length c2]), .slice (some ⟨gU, 0, none⟩) (unB l ds).length capU]) (by simp [results, Try.results22, go_sem, s0, s1, s2]) rfl hpost.out)
end Go.Proofs.Ytnamlgacjhnpnaa
end

