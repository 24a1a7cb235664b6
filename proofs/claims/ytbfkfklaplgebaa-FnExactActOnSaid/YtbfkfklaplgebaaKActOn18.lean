/-
  Acting with a permutation on a term, as a whole: in the program and in the model, as contracts.
-/
import Derived.Test.YtbfkfklaplgebaaKActOn17
namespace Go.Proofs.Ytbfkfklaplgebaa
open Go.RowKit Go.Sort
set_option linter.unusedVariables false

/-- Whether acting can be done. -/
def actB (p : List (Int × Int)) (t : Tm) : Bool := permB p && (isTermB t && isTermB (actT p t))
theorem actB_no1 {p : List (Int × Int)} {t : Tm} (h : permB p = false) : actB p t = false := by simp [actB, h]
theorem actB_no2 {p : List (Int × Int)} {t : Tm} (h : isTermB t = false) : actB p t = false := by simp [actB, h]
theorem actB_is {p : List (Int × Int)} {t : Tm} (h1 : permB p = true) (h2 : isTermB t = true) : actB p t = isTermB (actT p t) := by simp [actB, h1, h2]
theorem actB_yes {p : List (Int × Int)} {t : Tm} (h1 : permB p = true) (h2 : isTermB t = true) : orT (actT p t) (actB p t) = orT (actT p t) (isTermB (actT p t)) ∧ actB p t = isTermB (actT p t) := by
  rw [actB_is h1 h2]; exact ⟨rfl, rfl⟩
theorem actB_parts {p : List (Int × Int)} {t : Tm} (h : actB p t = true) : permB p = true ∧ isTermB t = true ∧ cntT (actT p t) ≤ 10000 := by
  unfold actB at h
  simp only [Bool.and_eq_true] at h
  obtain ⟨h1, h2, h3⟩ := h
  refine ⟨h1, h2, ?_⟩
  have hcn := cnt_ok (okP_good (term_good h3))
  have hs := term_size h3
  have h8 : (40 + 1) * szT (actT p t) ≤ 41 * 60 := Nat.mul_le_mul (by omega) hs
  omega
theorem isPerm_specB (A : Option Addr) (c : Nat) (l : List (Int × Int)) (w : World) (hA : PairsAt w A l) (hl : l.length ≤ 1099511627776) :
    Calls Try.prog 31 #[.slice A l.length c] w fun e w' => e = .returned (.bool (permB l)) ∧ Below w.heap.size w w' := by
  rw [← perm_same]
  exact isPerm_spec A c l w hA hl

set_option maxRecDepth 100000 in
set_option maxHeartbeats 4000000 in
theorem actOn_impl (P : Option Addr) (cp : Nat) (p : List (Int × Int)) (t : Tm) (x : Value) (w : World) (hP : PairsAt w P p) (hlp : p.length ≤ 1048576) (hx : TmIn w x t) (hc : cntT t ≤ 1048576) :
    Calls Try.prog 12 #[.slice P p.length cp, x] w (TmOutB (orT (actT p t) (actB p t)) (actB p t) w) := by
  have hf := fit_of t hc
  have hx' := hx
  obtain ⟨A, c, kv, rfl, hp, hk⟩ := hx
  obtain ⟨B, d, rfl⟩ := hk.form
  have hb0 : Below w.heap.size w ((w.alloc (.cells #[.int .i64 t.op, .int .i64 t.num, .slice A t.perm.length c, .slice B t.kids.length d] 31)).alloc (.cells #[.int .i64 0, .int .i64 0, .slice none 0 0, .slice none 0 0] 31)) := ((Below.refl _ _).alloc (Nat.le_refl _) _).alloc (by simp) _
  have hsz : ((w.alloc (.cells #[.int .i64 t.op, .int .i64 t.num, .slice A t.perm.length c, .slice B t.kids.length d] 31)).alloc (.cells #[.int .i64 0, .int .i64 0, .slice none 0 0, .slice none 0 0] 31)).heap.size = w.heap.size + 2 := by simp
  have HSZ := Lib.hid hsz
  obtain ⟨hres, hbox⟩ := box_row (Below.refl _ ((w.alloc (.cells #[.int .i64 t.op, .int .i64 t.num, .slice A t.perm.length c, .slice B t.kids.length d] 31)).alloc (.cells #[.int .i64 0, .int .i64 0, .slice none 0 0, .slice none 0 0] 31)))
  have hpm := isPerm_impl P cp p _ (hP.below hb0) (by omega)
  have HBX := Lib.hid hbox
  have HRS := Lib.hid hres
  clear hk hp hsz hbox hres
  by_cases h1' : permB p = false
  · have HT := Lib.hid (actB_no1 (t := t) h1')
    rw [h1'] at hpm
    clear h1' hP hx' hf hc
    go_enter Try.func12, Try.ntmps12
    go_wp2_with fail
    refine hpm.mono ?_
    rintro e w2 ⟨rfl, hb2⟩
    have hres2 := (hb2.block (w.heap.size + 1) (by rw [HSZ.out]; omega)).trans HRS.out
    have r0 : w2.cell? ⟨w.heap.size + 1, 0, none⟩ = some (.int .i64 0) := by rw [cell_of_row _ (w.heap.size + 1) 0 _ _ _ hres2]; rfl
    have r1 : w2.cell? ⟨w.heap.size + 1, 1, none⟩ = some (.int .i64 0) := by rw [cell_of_row _ (w.heap.size + 1) 1 _ _ _ hres2]; rfl
    have r2 : w2.cell? ⟨w.heap.size + 1, 2, none⟩ = some (.slice none 0 0) := by rw [cell_of_row _ (w.heap.size + 1) 2 _ _ _ hres2]; rfl
    have r3 : w2.cell? ⟨w.heap.size + 1, 3, none⟩ = some (.slice none 0 0) := by rw [cell_of_row _ (w.heap.size + 1) 3 _ _ _ hres2]; rfl
    have z0 : w2.frozen? ⟨w.heap.size + 1, 0, none⟩ = false := frozen_of_row _ (w.heap.size + 1) 0 _ _ hres2
    have z1 : w2.frozen? ⟨w.heap.size + 1, 1, none⟩ = false := frozen_of_row _ (w.heap.size + 1) 1 _ _ hres2
    have z2 : w2.frozen? ⟨w.heap.size + 1, 2, none⟩ = false := frozen_of_row _ (w.heap.size + 1) 2 _ _ hres2
    have z3 : w2.frozen? ⟨w.heap.size + 1, 3, none⟩ = false := frozen_of_row _ (w.heap.size + 1) 3 _ _ hres2
    have hbz := hb0.trans (hb2.mono hb0.size)
    have hpost : TmOutB tm0 false w (.returned (.tuple #[.agg #[.int .i64 0, .int .i64 0, .slice none 0 0, .slice none 0 0], .bool false])) ((((w2.setCell ⟨w.heap.size + 1, 0, none⟩ (.int .i64 0)).setCell ⟨w.heap.size + 1, 1, none⟩ (.int .i64 0)).setCell ⟨w.heap.size + 1, 2, none⟩ (.slice none 0 0)).setCell ⟨w.heap.size + 1, 3, none⟩ (.slice none 0 0)) :=
      ⟨none, 0, none, 0, _, rfl, own_four own_none own_nokids (fun b hb => by simp at hb), fun b hb => by simp at hb, set4_below hbz (by omega) _ _ _ _⟩
    clear hpm hb0 hb2 hres2 hbz HBX HRS HSZ
    go_wp2
    exact bodyPost_ret (v := .tuple #[.agg #[.int .i64 0, .int .i64 0, .slice none 0 0, .slice none 0 0], .bool false]) (by simp [results, Try.results12, go_sem, r0, r1, r2, r3]) rfl (by rw [HT.out, orT_no]; exact hpost)
  have h1 : permB p = true := by simpa using h1'
  by_cases h2' : isTermB t = false
  · have HT := Lib.hid (actB_no2 (p := p) h2')
    have hist := fun (W : World) (y : Value) (hW : TmIn W y t) => isTerm_impl t y W hW hf
    rw [h1] at hpm
    clear h1 h1' hP hf hc
    go_enter Try.func12, Try.ntmps12
    go_wp2_with fail
    refine hpm.mono ?_
    rintro e w2 ⟨rfl, hb2⟩
    have hbz2 := hb0.trans (hb2.mono hb0.size)
    have hist2 := hist w2 _ (hx'.below hbz2)
    rw [h2'] at hist2
    have hbox2 := (hb2.block w.heap.size (by rw [HSZ.out]; omega)).trans HBX.out
    have b0 : w2.cell? ⟨w.heap.size, 0, none⟩ = some (.int .i64 t.op) := by rw [cell_of_row _ w.heap.size 0 _ _ _ hbox2]; rfl
    have b1 : w2.cell? ⟨w.heap.size, 1, none⟩ = some (.int .i64 t.num) := by rw [cell_of_row _ w.heap.size 1 _ _ _ hbox2]; rfl
    have b2 : w2.cell? ⟨w.heap.size, 2, none⟩ = some (.slice A t.perm.length c) := by rw [cell_of_row _ w.heap.size 2 _ _ _ hbox2]; rfl
    have b3 : w2.cell? ⟨w.heap.size, 3, none⟩ = some (.slice B t.kids.length d) := by rw [cell_of_row _ w.heap.size 3 _ _ _ hbox2]; rfl
    have hres2 := (hb2.block (w.heap.size + 1) (by rw [HSZ.out]; omega)).trans HRS.out
    have hlt2 : w.heap.size + 1 < w2.heap.size := by have := hb2.size; rw [HSZ.out] at this; omega
    clear hpm hist hx' h2' hbox2
    go_wp2_with fail
    refine hist2.mono ?_
    rintro e w3 ⟨rfl, hb3⟩
    have hres3 := (hb3.block (w.heap.size + 1) hlt2).trans hres2
    have r0 : w3.cell? ⟨w.heap.size + 1, 0, none⟩ = some (.int .i64 0) := by rw [cell_of_row _ (w.heap.size + 1) 0 _ _ _ hres3]; rfl
    have r1 : w3.cell? ⟨w.heap.size + 1, 1, none⟩ = some (.int .i64 0) := by rw [cell_of_row _ (w.heap.size + 1) 1 _ _ _ hres3]; rfl
    have r2 : w3.cell? ⟨w.heap.size + 1, 2, none⟩ = some (.slice none 0 0) := by rw [cell_of_row _ (w.heap.size + 1) 2 _ _ _ hres3]; rfl
    have r3 : w3.cell? ⟨w.heap.size + 1, 3, none⟩ = some (.slice none 0 0) := by rw [cell_of_row _ (w.heap.size + 1) 3 _ _ _ hres3]; rfl
    have z0 : w3.frozen? ⟨w.heap.size + 1, 0, none⟩ = false := frozen_of_row _ (w.heap.size + 1) 0 _ _ hres3
    have z1 : w3.frozen? ⟨w.heap.size + 1, 1, none⟩ = false := frozen_of_row _ (w.heap.size + 1) 1 _ _ hres3
    have z2 : w3.frozen? ⟨w.heap.size + 1, 2, none⟩ = false := frozen_of_row _ (w.heap.size + 1) 2 _ _ hres3
    have z3 : w3.frozen? ⟨w.heap.size + 1, 3, none⟩ = false := frozen_of_row _ (w.heap.size + 1) 3 _ _ hres3
    have hbz := hbz2.trans (hb3.mono hbz2.size)
    have hpost : TmOutB tm0 false w (.returned (.tuple #[.agg #[.int .i64 0, .int .i64 0, .slice none 0 0, .slice none 0 0], .bool false])) ((((w3.setCell ⟨w.heap.size + 1, 0, none⟩ (.int .i64 0)).setCell ⟨w.heap.size + 1, 1, none⟩ (.int .i64 0)).setCell ⟨w.heap.size + 1, 2, none⟩ (.slice none 0 0)).setCell ⟨w.heap.size + 1, 3, none⟩ (.slice none 0 0)) :=
      ⟨none, 0, none, 0, _, rfl, own_four own_none own_nokids (fun b hb => by simp at hb), fun b hb => by simp at hb, set4_below hbz (by omega) _ _ _ _⟩
    clear hist2 hb0 hb2 hb3 hres2 hres3 hbz hbz2 HBX HRS HSZ b0 b1 b2 b3
    go_wp2
    exact bodyPost_ret (v := .tuple #[.agg #[.int .i64 0, .int .i64 0, .slice none 0 0, .slice none 0 0], .bool false]) (by simp [results, Try.results12, go_sem, r0, r1, r2, r3]) rfl (by rw [HT.out, orT_no]; exact hpost)
  have h2 : isTermB t = true := by simpa using h2'
  · have HT := Lib.hid (actB_yes h1 h2)
    have hist := fun (W : World) (y : Value) (hW : TmIn W y t) => isTerm_impl t y W hW hf
    have hfo := formOf_term t h2
    have hgt := term_good h2
    have hok := okP_good hgt
    have hasc := asc_perm h1
    have hlp4 := (permB_parts h1).1
    have hszt := term_size h2
    have hac := fun (W : World) (q : Nat → Prop) (y : Value) (hW : PairsAt W P p) (hfW : FIn W q (.iface (fty t) y) t) => act_any (szT t) t (Nat.le_refl _) (by omega) (okP_le (by omega) hok) q W y P cp p hW hlp hasc hfW
    have hok2 := okP_act p hok
    have hcn := cnt_ok hok2
    rw [szT_actT] at hcn
    have hfit2 : Fit (actT p t) := fit_of _ (by
      have h8 : (40 + p.length + 1) * szT t ≤ 81 * 60 := Nat.mul_le_mul (by omega) hszt
      omega)
    have hia := fun (W : World) (q : Nat → Prop) (y : Value) (hW : FIn W q y (actT p t)) => ifAny_any (actT p t) q y W hW (by rw [szT_actT]; omega) (okP_le (by omega) hok2) hfit2
    have hm := askAct t
    have hn := enterAct t
    rw [h1] at hpm
    clear h1 h1' h2' hf hc hgt hok hasc hok2 hcn hfit2 hlp4 hszt
    go_enter Try.func12, Try.ntmps12
    go_wp2_with fail
    refine hpm.mono ?_
    rintro e w2 ⟨rfl, hb2⟩
    have hbz2 := hb0.trans (hb2.mono hb0.size)
    have hist2 := hist w2 _ (hx'.below hbz2)
    rw [h2] at hist2
    have hbox2 := (hb2.block w.heap.size (by rw [HSZ.out]; omega)).trans HBX.out
    have b0 : w2.cell? ⟨w.heap.size, 0, none⟩ = some (.int .i64 t.op) := by rw [cell_of_row _ w.heap.size 0 _ _ _ hbox2]; rfl
    have b1 : w2.cell? ⟨w.heap.size, 1, none⟩ = some (.int .i64 t.num) := by rw [cell_of_row _ w.heap.size 1 _ _ _ hbox2]; rfl
    have b2 : w2.cell? ⟨w.heap.size, 2, none⟩ = some (.slice A t.perm.length c) := by rw [cell_of_row _ w.heap.size 2 _ _ _ hbox2]; rfl
    have b3 : w2.cell? ⟨w.heap.size, 3, none⟩ = some (.slice B t.kids.length d) := by rw [cell_of_row _ w.heap.size 3 _ _ _ hbox2]; rfl
    have hres2 := (hb2.block (w.heap.size + 1) (by rw [HSZ.out]; omega)).trans HRS.out
    have hlt2 : w.heap.size + 1 < w2.heap.size := by have := hb2.size; rw [HSZ.out] at this; omega
    have hlt20 : w.heap.size < w2.heap.size := by omega
    have HB2 := Lib.hid hbox2
    clear hpm hist h2 hbox2 hb2 hb0 HBX HRS HSZ
    go_wp2_with fail
    refine hist2.mono ?_
    rintro e w3 ⟨rfl, hb3⟩
    have hbz3 := hbz2.trans (hb3.mono hbz2.size)
    have hbox3 := (hb3.block w.heap.size hlt20).trans HB2.out
    have hres3 := (hb3.block (w.heap.size + 1) hlt2).trans hres2
    have c0 : w3.cell? ⟨w.heap.size, 0, none⟩ = some (.int .i64 t.op) := by rw [cell_of_row _ w.heap.size 0 _ _ _ hbox3]; rfl
    have c1' : w3.cell? ⟨w.heap.size, 1, none⟩ = some (.int .i64 t.num) := by rw [cell_of_row _ w.heap.size 1 _ _ _ hbox3]; rfl
    have c2' : w3.cell? ⟨w.heap.size, 2, none⟩ = some (.slice A t.perm.length c) := by rw [cell_of_row _ w.heap.size 2 _ _ _ hbox3]; rfl
    have c3' : w3.cell? ⟨w.heap.size, 3, none⟩ = some (.slice B t.kids.length d) := by rw [cell_of_row _ w.heap.size 3 _ _ _ hbox3]; rfl
    have hfo3 := hfo w3 _ (hx'.below hbz3)
    have hP3 := hP.below hbz3
    have hlt3 := Nat.lt_of_lt_of_le hlt2 hb3.size
    clear hist2 hfo hx' hP hb3 hbz2 hres2 b0 b1 b2 b3 HB2 hbox3
    go_wp2_with fail
    refine hfo3.mono ?_
    rintro e w4 ⟨fv, rfl, hfv, hb4⟩
    obtain ⟨fx, rfl⟩ := hfv.iface
    have hac4 := hac w4 _ fx (hP3.below hb4) hfv
    have hbz4 := hbz3.trans (hb4.mono hbz3.size)
    have hres4 := (hb4.block (w.heap.size + 1) hlt3).trans hres3
    have hlt4 := Nat.lt_of_lt_of_le hlt3 hb4.size
    generalize actF t = F at hm hn hac4
    generalize fty t = T at *
    clear hfo3 hac hfv hb4 hP3 hbz3 hres3 c0 c1' c2' c3'
    go_wp2_with fail
    refine hac4.mono ?_
    rintro e w5 ⟨gv, rfl, hgv, hb5⟩
    have hia5 := hia w5 _ gv hgv
    have hbz5 := hbz4.trans (hb5.mono hbz4.size)
    have hres5 := (hb5.block (w.heap.size + 1) hlt4).trans hres4
    have hlt5 := Nat.lt_of_lt_of_le hlt4 hb5.size
    clear hac4 hia hgv hb5 hbz4 hres4 hm hn
    generalize orT (actT p t) (isTermB (actT p t)) = r at hia5 HT
    generalize isTermB (actT p t) = bb at hia5 HT
    go_wp2_with fail
    refine hia5.mono ?_
    rintro e w6 ⟨A6, c6, B6, d6, S6, rfl, hL6, hS6, hb6⟩
    have hres6 := (hb6.block (w.heap.size + 1) hlt5).trans hres5
    have r0 : w6.cell? ⟨w.heap.size + 1, 0, none⟩ = some (.int .i64 0) := by rw [cell_of_row _ (w.heap.size + 1) 0 _ _ _ hres6]; rfl
    have r1 : w6.cell? ⟨w.heap.size + 1, 1, none⟩ = some (.int .i64 0) := by rw [cell_of_row _ (w.heap.size + 1) 1 _ _ _ hres6]; rfl
    have r2 : w6.cell? ⟨w.heap.size + 1, 2, none⟩ = some (.slice none 0 0) := by rw [cell_of_row _ (w.heap.size + 1) 2 _ _ _ hres6]; rfl
    have r3 : w6.cell? ⟨w.heap.size + 1, 3, none⟩ = some (.slice none 0 0) := by rw [cell_of_row _ (w.heap.size + 1) 3 _ _ _ hres6]; rfl
    have z0 : w6.frozen? ⟨w.heap.size + 1, 0, none⟩ = false := frozen_of_row _ (w.heap.size + 1) 0 _ _ hres6
    have z1 : w6.frozen? ⟨w.heap.size + 1, 1, none⟩ = false := frozen_of_row _ (w.heap.size + 1) 1 _ _ hres6
    have z2 : w6.frozen? ⟨w.heap.size + 1, 2, none⟩ = false := frozen_of_row _ (w.heap.size + 1) 2 _ _ hres6
    have z3 : w6.frozen? ⟨w.heap.size + 1, 3, none⟩ = false := frozen_of_row _ (w.heap.size + 1) 3 _ _ hres6
    have hbz6 := hbz5.trans (hb6.mono hbz5.size)
    have hpost : TmOutB r bb w (.returned (.tuple #[.agg #[.int .i64 r.op, .int .i64 r.num, .slice A6 r.perm.length c6, .slice B6 r.kids.length d6], .bool bb])) ((((w6.setCell ⟨w.heap.size + 1, 0, none⟩ (.int .i64 r.op)).setCell ⟨w.heap.size + 1, 1, none⟩ (.int .i64 r.num)).setCell ⟨w.heap.size + 1, 2, none⟩ (.slice A6 r.perm.length c6)).setCell ⟨w.heap.size + 1, 3, none⟩ (.slice B6 r.kids.length d6)) :=
      ⟨A6, c6, B6, d6, S6, rfl, set4_own hL6 (fun b hb => by have := hS6 b hb; omega) _ _ _ _, fun b hb => by have := hS6 b hb; omega, set4_below hbz6 (by omega) _ _ _ _⟩
    clear hia5 hL6 hS6 hb6 hres5 hres6 hbz5 hbz6
    go_wp2
    exact bodyPost_ret (v := .tuple #[.agg #[.int .i64 r.op, .int .i64 r.num, .slice A6 r.perm.length c6, .slice B6 r.kids.length d6], .bool bb]) (by simp [results, Try.results12, go_sem, r0, r1, r2, r3]) rfl (by rw [HT.out.1, HT.out.2]; exact hpost)

set_option maxRecDepth 100000 in
set_option maxHeartbeats 4000000 in
theorem actOn_spec (P : Option Addr) (cp : Nat) (p : List (Int × Int)) (t : Tm) (x : Value) (w : World) (hP : PairsAt w P p) (hlp : p.length ≤ 1048576) (hx : TmIn w x t) (hc : cntT t ≤ 1048576) :
    Calls Try.prog 9 #[.slice P p.length cp, x] w (TmOutB (orT (actT p t) (actB p t)) (actB p t) w) := by
  have hf := fit_of t hc
  have hx' := hx
  obtain ⟨A, c, kv, rfl, hp, hk⟩ := hx
  obtain ⟨B, d, rfl⟩ := hk.form
  have hb0 : Below w.heap.size w ((w.alloc (.cells #[.int .i64 t.op, .int .i64 t.num, .slice A t.perm.length c, .slice B t.kids.length d] 31)).alloc (.cells #[.int .i64 0, .int .i64 0, .slice none 0 0, .slice none 0 0] 31)) := ((Below.refl _ _).alloc (Nat.le_refl _) _).alloc (by simp) _
  have hsz : ((w.alloc (.cells #[.int .i64 t.op, .int .i64 t.num, .slice A t.perm.length c, .slice B t.kids.length d] 31)).alloc (.cells #[.int .i64 0, .int .i64 0, .slice none 0 0, .slice none 0 0] 31)).heap.size = w.heap.size + 2 := by simp
  have HSZ := Lib.hid hsz
  obtain ⟨hres, hbox⟩ := box_row (Below.refl _ ((w.alloc (.cells #[.int .i64 t.op, .int .i64 t.num, .slice A t.perm.length c, .slice B t.kids.length d] 31)).alloc (.cells #[.int .i64 0, .int .i64 0, .slice none 0 0, .slice none 0 0] 31)))
  have hpm := isPerm_specB P cp p _ (hP.below hb0) (by omega)
  have HBX := Lib.hid hbox
  have HRS := Lib.hid hres
  clear hk hp hsz hbox hres
  by_cases h1' : permB p = false
  · have HT := Lib.hid (actB_no1 (t := t) h1')
    rw [h1'] at hpm
    clear h1' hP hx' hf hc
    go_enter Try.func9, Try.ntmps9
    go_wp2_with fail
    refine hpm.mono ?_
    rintro e w2 ⟨rfl, hb2⟩
    have hres2 := (hb2.block (w.heap.size + 1) (by rw [HSZ.out]; omega)).trans HRS.out
    have r0 : w2.cell? ⟨w.heap.size + 1, 0, none⟩ = some (.int .i64 0) := by rw [cell_of_row _ (w.heap.size + 1) 0 _ _ _ hres2]; rfl
    have r1 : w2.cell? ⟨w.heap.size + 1, 1, none⟩ = some (.int .i64 0) := by rw [cell_of_row _ (w.heap.size + 1) 1 _ _ _ hres2]; rfl
    have r2 : w2.cell? ⟨w.heap.size + 1, 2, none⟩ = some (.slice none 0 0) := by rw [cell_of_row _ (w.heap.size + 1) 2 _ _ _ hres2]; rfl
    have r3 : w2.cell? ⟨w.heap.size + 1, 3, none⟩ = some (.slice none 0 0) := by rw [cell_of_row _ (w.heap.size + 1) 3 _ _ _ hres2]; rfl
    have z0 : w2.frozen? ⟨w.heap.size + 1, 0, none⟩ = false := frozen_of_row _ (w.heap.size + 1) 0 _ _ hres2
    have z1 : w2.frozen? ⟨w.heap.size + 1, 1, none⟩ = false := frozen_of_row _ (w.heap.size + 1) 1 _ _ hres2
    have z2 : w2.frozen? ⟨w.heap.size + 1, 2, none⟩ = false := frozen_of_row _ (w.heap.size + 1) 2 _ _ hres2
    have z3 : w2.frozen? ⟨w.heap.size + 1, 3, none⟩ = false := frozen_of_row _ (w.heap.size + 1) 3 _ _ hres2
    have hbz := hb0.trans (hb2.mono hb0.size)
    have hpost : TmOutB tm0 false w (.returned (.tuple #[.agg #[.int .i64 0, .int .i64 0, .slice none 0 0, .slice none 0 0], .bool false])) ((((w2.setCell ⟨w.heap.size + 1, 0, none⟩ (.int .i64 0)).setCell ⟨w.heap.size + 1, 1, none⟩ (.int .i64 0)).setCell ⟨w.heap.size + 1, 2, none⟩ (.slice none 0 0)).setCell ⟨w.heap.size + 1, 3, none⟩ (.slice none 0 0)) :=
      ⟨none, 0, none, 0, _, rfl, own_four own_none own_nokids (fun b hb => by simp at hb), fun b hb => by simp at hb, set4_below hbz (by omega) _ _ _ _⟩
    clear hpm hb0 hb2 hres2 hbz HBX HRS HSZ
    go_wp2
    exact bodyPost_ret (v := .tuple #[.agg #[.int .i64 0, .int .i64 0, .slice none 0 0, .slice none 0 0], .bool false]) (by simp [results, Try.results9, go_sem, r0, r1, r2, r3]) rfl (by rw [HT.out, orT_no]; exact hpost)
  have h1 : permB p = true := by simpa using h1'
  by_cases h2' : isTermB t = false
  · have HT := Lib.hid (actB_no2 (p := p) h2')
    have hist := fun (W : World) (y : Value) (hW : TmIn W y t) => isTerm_spec t y W hW hc
    rw [h1] at hpm
    clear h1 h1' hP hf hc
    go_enter Try.func9, Try.ntmps9
    go_wp2_with fail
    refine hpm.mono ?_
    rintro e w2 ⟨rfl, hb2⟩
    have hbz2 := hb0.trans (hb2.mono hb0.size)
    have hist2 := hist w2 _ (hx'.below hbz2)
    rw [h2'] at hist2
    have hbox2 := (hb2.block w.heap.size (by rw [HSZ.out]; omega)).trans HBX.out
    have b0 : w2.cell? ⟨w.heap.size, 0, none⟩ = some (.int .i64 t.op) := by rw [cell_of_row _ w.heap.size 0 _ _ _ hbox2]; rfl
    have b1 : w2.cell? ⟨w.heap.size, 1, none⟩ = some (.int .i64 t.num) := by rw [cell_of_row _ w.heap.size 1 _ _ _ hbox2]; rfl
    have b2 : w2.cell? ⟨w.heap.size, 2, none⟩ = some (.slice A t.perm.length c) := by rw [cell_of_row _ w.heap.size 2 _ _ _ hbox2]; rfl
    have b3 : w2.cell? ⟨w.heap.size, 3, none⟩ = some (.slice B t.kids.length d) := by rw [cell_of_row _ w.heap.size 3 _ _ _ hbox2]; rfl
    have hres2 := (hb2.block (w.heap.size + 1) (by rw [HSZ.out]; omega)).trans HRS.out
    have hlt2 : w.heap.size + 1 < w2.heap.size := by have := hb2.size; rw [HSZ.out] at this; omega
    clear hpm hist hx' h2' hbox2
    go_wp2_with fail
    refine hist2.mono ?_
    rintro e w3 ⟨rfl, hb3⟩
    have hres3 := (hb3.block (w.heap.size + 1) hlt2).trans hres2
    have r0 : w3.cell? ⟨w.heap.size + 1, 0, none⟩ = some (.int .i64 0) := by rw [cell_of_row _ (w.heap.size + 1) 0 _ _ _ hres3]; rfl
    have r1 : w3.cell? ⟨w.heap.size + 1, 1, none⟩ = some (.int .i64 0) := by rw [cell_of_row _ (w.heap.size + 1) 1 _ _ _ hres3]; rfl
    have r2 : w3.cell? ⟨w.heap.size + 1, 2, none⟩ = some (.slice none 0 0) := by rw [cell_of_row _ (w.heap.size + 1) 2 _ _ _ hres3]; rfl
    have r3 : w3.cell? ⟨w.heap.size + 1, 3, none⟩ = some (.slice none 0 0) := by rw [cell_of_row _ (w.heap.size + 1) 3 _ _ _ hres3]; rfl
    have z0 : w3.frozen? ⟨w.heap.size + 1, 0, none⟩ = false := frozen_of_row _ (w.heap.size + 1) 0 _ _ hres3
    have z1 : w3.frozen? ⟨w.heap.size + 1, 1, none⟩ = false := frozen_of_row _ (w.heap.size + 1) 1 _ _ hres3
    have z2 : w3.frozen? ⟨w.heap.size + 1, 2, none⟩ = false := frozen_of_row _ (w.heap.size + 1) 2 _ _ hres3
    have z3 : w3.frozen? ⟨w.heap.size + 1, 3, none⟩ = false := frozen_of_row _ (w.heap.size + 1) 3 _ _ hres3
    have hbz := hbz2.trans (hb3.mono hbz2.size)
    have hpost : TmOutB tm0 false w (.returned (.tuple #[.agg #[.int .i64 0, .int .i64 0, .slice none 0 0, .slice none 0 0], .bool false])) ((((w3.setCell ⟨w.heap.size + 1, 0, none⟩ (.int .i64 0)).setCell ⟨w.heap.size + 1, 1, none⟩ (.int .i64 0)).setCell ⟨w.heap.size + 1, 2, none⟩ (.slice none 0 0)).setCell ⟨w.heap.size + 1, 3, none⟩ (.slice none 0 0)) :=
      ⟨none, 0, none, 0, _, rfl, own_four own_none own_nokids (fun b hb => by simp at hb), fun b hb => by simp at hb, set4_below hbz (by omega) _ _ _ _⟩
    clear hist2 hb0 hb2 hb3 hres2 hres3 hbz hbz2 HBX HRS HSZ b0 b1 b2 b3
    go_wp2
    exact bodyPost_ret (v := .tuple #[.agg #[.int .i64 0, .int .i64 0, .slice none 0 0, .slice none 0 0], .bool false]) (by simp [results, Try.results9, go_sem, r0, r1, r2, r3]) rfl (by rw [HT.out, orT_no]; exact hpost)
  have h2 : isTermB t = true := by simpa using h2'
  · have HT := Lib.hid (actB_yes h1 h2)
    have hist := fun (W : World) (y : Value) (hW : TmIn W y t) => isTerm_spec t y W hW hc
    have hgt := term_good h2
    have hok := okP_good hgt
    have hlp4 := (permB_parts h1).1
    have hszt := term_size h2
    have hac := fun (W : World) (y : Value) (hW : PairsAt W P p) (hfW : TmIn W y t) => l2Act_any (szT t) t (Nat.le_refl _) (by omega) (okP_le (by omega) hok) W y P cp p hfW hW hlp
    have hok2 := okP_act p hok
    have hcn := cnt_ok hok2
    rw [szT_actT] at hcn
    have hcr : cntT (actT p t) ≤ 1048576 := by
      have h8 : (40 + p.length + 1) * szT t ≤ 81 * 60 := Nat.mul_le_mul (by omega) hszt
      omega
    have hia := fun (W : World) (y : Value) (hW : TmIn W y (actT p t)) => isTerm_spec (actT p t) y W hW hcr
    rw [h1] at hpm
    clear h1 h1' h2' hf hc hgt hok hok2 hcn hcr hlp4 hszt
    go_enter Try.func9, Try.ntmps9
    go_wp2_with fail
    refine hpm.mono ?_
    rintro e w2 ⟨rfl, hb2⟩
    have hbz2 := hb0.trans (hb2.mono hb0.size)
    have hist2 := hist w2 _ (hx'.below hbz2)
    rw [h2] at hist2
    have hbox2 := (hb2.block w.heap.size (by rw [HSZ.out]; omega)).trans HBX.out
    have b0 : w2.cell? ⟨w.heap.size, 0, none⟩ = some (.int .i64 t.op) := by rw [cell_of_row _ w.heap.size 0 _ _ _ hbox2]; rfl
    have b1 : w2.cell? ⟨w.heap.size, 1, none⟩ = some (.int .i64 t.num) := by rw [cell_of_row _ w.heap.size 1 _ _ _ hbox2]; rfl
    have b2 : w2.cell? ⟨w.heap.size, 2, none⟩ = some (.slice A t.perm.length c) := by rw [cell_of_row _ w.heap.size 2 _ _ _ hbox2]; rfl
    have b3 : w2.cell? ⟨w.heap.size, 3, none⟩ = some (.slice B t.kids.length d) := by rw [cell_of_row _ w.heap.size 3 _ _ _ hbox2]; rfl
    have hres2 := (hb2.block (w.heap.size + 1) (by rw [HSZ.out]; omega)).trans HRS.out
    have hlt2 : w.heap.size + 1 < w2.heap.size := by have := hb2.size; rw [HSZ.out] at this; omega
    have hlt20 : w.heap.size < w2.heap.size := by omega
    have HB2 := Lib.hid hbox2
    clear hpm hist h2 hbox2 hb2 hb0 HBX HRS HSZ
    go_wp2_with fail
    refine hist2.mono ?_
    rintro e w3 ⟨rfl, hb3⟩
    have hbz3 := hbz2.trans (hb3.mono hbz2.size)
    have hbox3 := (hb3.block w.heap.size hlt20).trans HB2.out
    have hres3 := (hb3.block (w.heap.size + 1) hlt2).trans hres2
    have c0 : w3.cell? ⟨w.heap.size, 0, none⟩ = some (.int .i64 t.op) := by rw [cell_of_row _ w.heap.size 0 _ _ _ hbox3]; rfl
    have c1' : w3.cell? ⟨w.heap.size, 1, none⟩ = some (.int .i64 t.num) := by rw [cell_of_row _ w.heap.size 1 _ _ _ hbox3]; rfl
    have c2' : w3.cell? ⟨w.heap.size, 2, none⟩ = some (.slice A t.perm.length c) := by rw [cell_of_row _ w.heap.size 2 _ _ _ hbox3]; rfl
    have c3' : w3.cell? ⟨w.heap.size, 3, none⟩ = some (.slice B t.kids.length d) := by rw [cell_of_row _ w.heap.size 3 _ _ _ hbox3]; rfl
    have hac3 := hac w3 _ (hP.below hbz3) (hx'.below hbz3)
    have hlt3 := Nat.lt_of_lt_of_le hlt2 hb3.size
    generalize hX : orT (actT p t) (actB p t) = X at HT
    have HX := Lib.hid hX
    clear hX
    generalize actT p t = r at hac3 hia HT
    clear hist2 hac hx' hP hb3 hbz2 hres2 b0 b1 b2 b3 HB2 hbox3
    go_wp2_with fail
    refine hac3.mono ?_
    rintro e w4 ⟨A4, c4, B4, d4, S4, rfl, hL4, hS4, hb4⟩
    have hbx : Below w4.heap.size w4 (w4.alloc (.cells #[.int .i64 r.op, .int .i64 r.num, .slice A4 r.perm.length c4, .slice B4 r.kids.length d4] 31)) := (Below.refl _ _).alloc (Nat.le_refl _) _
    have hia5 := hia _ _ ((tm_box hL4).below hbx)
    have hbz4 := hbz3.trans (hb4.mono hbz3.size)
    have hlt4 := Nat.lt_of_lt_of_le hlt3 hb4.size
    have hres5 := (hbx.block (w.heap.size + 1) hlt4).trans ((hb4.block (w.heap.size + 1) hlt3).trans hres3)
    have hlt5 := Nat.lt_of_lt_of_le hlt4 hbx.size
    have hSb : ∀ b ∈ S4, w.heap.size + 1 < b := fun b hb => Nat.lt_of_lt_of_le hlt3 (hS4 b hb)
    clear hac3 hia hb4 hbz3 hres3 c0 c1' c2' c3' hS4
    by_cases h6' : isTermB r = false
    · rw [h6'] at hia5 HT
      have HT2 := Lib.hid h6'
      clear h6'
      go_wp2_with fail
      refine hia5.mono ?_
      rintro e w6 ⟨rfl, hb6⟩
      have hres6 := (hb6.block (w.heap.size + 1) hlt5).trans hres5
      have hbz6 := hbz4.trans ((hbx.trans (hb6.mono hbx.size)).mono hbz4.size)
      have r0 : w6.cell? ⟨w.heap.size + 1, 0, none⟩ = some (.int .i64 0) := by rw [cell_of_row _ (w.heap.size + 1) 0 _ _ _ hres6]; rfl
      have r1 : w6.cell? ⟨w.heap.size + 1, 1, none⟩ = some (.int .i64 0) := by rw [cell_of_row _ (w.heap.size + 1) 1 _ _ _ hres6]; rfl
      have r2 : w6.cell? ⟨w.heap.size + 1, 2, none⟩ = some (.slice none 0 0) := by rw [cell_of_row _ (w.heap.size + 1) 2 _ _ _ hres6]; rfl
      have r3 : w6.cell? ⟨w.heap.size + 1, 3, none⟩ = some (.slice none 0 0) := by rw [cell_of_row _ (w.heap.size + 1) 3 _ _ _ hres6]; rfl
      have z0 : w6.frozen? ⟨w.heap.size + 1, 0, none⟩ = false := frozen_of_row _ (w.heap.size + 1) 0 _ _ hres6
      have z1 : w6.frozen? ⟨w.heap.size + 1, 1, none⟩ = false := frozen_of_row _ (w.heap.size + 1) 1 _ _ hres6
      have z2 : w6.frozen? ⟨w.heap.size + 1, 2, none⟩ = false := frozen_of_row _ (w.heap.size + 1) 2 _ _ hres6
      have z3 : w6.frozen? ⟨w.heap.size + 1, 3, none⟩ = false := frozen_of_row _ (w.heap.size + 1) 3 _ _ hres6
      have hpost : TmOutB tm0 false w (.returned (.tuple #[.agg #[.int .i64 0, .int .i64 0, .slice none 0 0, .slice none 0 0], .bool false])) ((((w6.setCell ⟨w.heap.size + 1, 0, none⟩ (.int .i64 0)).setCell ⟨w.heap.size + 1, 1, none⟩ (.int .i64 0)).setCell ⟨w.heap.size + 1, 2, none⟩ (.slice none 0 0)).setCell ⟨w.heap.size + 1, 3, none⟩ (.slice none 0 0)) :=
        ⟨none, 0, none, 0, _, rfl, own_four own_none own_nokids (fun b hb => by simp at hb), fun b hb => by simp at hb, set4_below hbz6 (by omega) _ _ _ _⟩
      clear hia5 hL4 hSb hb6 hres5 hres6 hbz4 hbz6 hbx
      go_wp2
      exact bodyPost_ret (v := .tuple #[.agg #[.int .i64 0, .int .i64 0, .slice none 0 0, .slice none 0 0], .bool false]) (by simp [results, Try.results9, go_sem, r0, r1, r2, r3]) rfl (by rw [HX.out, HT.out.1, HT.out.2, orT_no]; exact hpost)
    · have h6 : isTermB r = true := by simpa using h6'
      rw [h6] at hia5 HT
      clear h6 h6'
      go_wp2_with fail
      refine hia5.mono ?_
      rintro e w6 ⟨rfl, hb6⟩
      obtain ⟨e0, e1, e2, e3⟩ := box4 hb6
      have hres6 := (hb6.block (w.heap.size + 1) hlt5).trans hres5
      have hb46 := hbx.trans (hb6.mono hbx.size)
      have hbz6 := hbz4.trans (hb46.mono hbz4.size)
      have r0 : w6.cell? ⟨w.heap.size + 1, 0, none⟩ = some (.int .i64 0) := by rw [cell_of_row _ (w.heap.size + 1) 0 _ _ _ hres6]; rfl
      have r1 : w6.cell? ⟨w.heap.size + 1, 1, none⟩ = some (.int .i64 0) := by rw [cell_of_row _ (w.heap.size + 1) 1 _ _ _ hres6]; rfl
      have r2 : w6.cell? ⟨w.heap.size + 1, 2, none⟩ = some (.slice none 0 0) := by rw [cell_of_row _ (w.heap.size + 1) 2 _ _ _ hres6]; rfl
      have r3 : w6.cell? ⟨w.heap.size + 1, 3, none⟩ = some (.slice none 0 0) := by rw [cell_of_row _ (w.heap.size + 1) 3 _ _ _ hres6]; rfl
      have z0 : w6.frozen? ⟨w.heap.size + 1, 0, none⟩ = false := frozen_of_row _ (w.heap.size + 1) 0 _ _ hres6
      have z1 : w6.frozen? ⟨w.heap.size + 1, 1, none⟩ = false := frozen_of_row _ (w.heap.size + 1) 1 _ _ hres6
      have z2 : w6.frozen? ⟨w.heap.size + 1, 2, none⟩ = false := frozen_of_row _ (w.heap.size + 1) 2 _ _ hres6
      have z3 : w6.frozen? ⟨w.heap.size + 1, 3, none⟩ = false := frozen_of_row _ (w.heap.size + 1) 3 _ _ hres6
      have hL6 := hL4.alike (w' := w6) (fun b hb => hb46.block b (hL4.lt b hb))
      have hpost : TmOutB r true w (.returned (.tuple #[.agg #[.int .i64 r.op, .int .i64 r.num, .slice A4 r.perm.length c4, .slice B4 r.kids.length d4], .bool true])) ((((w6.setCell ⟨w.heap.size + 1, 0, none⟩ (.int .i64 r.op)).setCell ⟨w.heap.size + 1, 1, none⟩ (.int .i64 r.num)).setCell ⟨w.heap.size + 1, 2, none⟩ (.slice A4 r.perm.length c4)).setCell ⟨w.heap.size + 1, 3, none⟩ (.slice B4 r.kids.length d4)) :=
        ⟨A4, c4, B4, d4, S4, rfl, set4_own hL6 (fun b hb => by have := hSb b hb; omega) _ _ _ _, fun b hb => by have := hSb b hb; omega, set4_below hbz6 (by omega) _ _ _ _⟩
      clear hia5 hL4 hL6 hSb hb6 hb46 hres5 hres6 hbz4 hbz6 hbx
      go_wp2
      exact bodyPost_ret (v := .tuple #[.agg #[.int .i64 r.op, .int .i64 r.num, .slice A4 r.perm.length c4, .slice B4 r.kids.length d4], .bool true]) (by simp [results, Try.results9, go_sem, r0, r1, r2, r3]) rfl (by rw [HX.out, HT.out.1, HT.out.2, orT_yes]; exact hpost)
end Go.Proofs.Ytbfkfklaplgebaa
