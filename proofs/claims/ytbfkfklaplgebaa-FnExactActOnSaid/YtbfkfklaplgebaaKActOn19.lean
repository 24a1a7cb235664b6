/-
  The law FnExactActOn returns true for every pair of values: the program acts on a term as the model does, in memory of its own, and leaves its arguments as they were. No condition.
-/
import Derived.Test.YtbfkfklaplgebaaKActOn9
import Derived.Test.YtbfkfklaplgebaaKActOn5
import Derived.Test.YtbfkfklaplgebaaKActOn10
import Derived.Test.YtbfkfklaplgebaaKActOn6
import Derived.Test.YtbfkfklaplgebaaKActOn18
import Derived.Test.YtbfkfklaplgebaaKActOn4
import Derived.Test.YtbfkfklaplgebaaKActOn8
import Derived.Deep.DeepCutAuto
namespace Go.Proofs.Ytbfkfklaplgebaa.fnExactActOn
open Go.ChangeShapes Go.WideShapes Go.ChangeAt Go.RowKit
set_option linter.unusedVariables false

/-- What a region leaves that has put an answer into a box. -/
def RegRel (w0 : World) (R : Tm) (bb : Bool) (s t : Value) (wx : World) : Prop :=
  ∃ g A c B d S, s = .pointer (some ⟨g, 0, none⟩) ∧ t = .bool bb ∧ wx.heap[g]? = some (.cells #[.int .i64 R.op, .int .i64 R.num, .slice A R.perm.length c, .slice B R.kids.length d] 31) ∧
    OwnL wx S [.int .i64 R.op, .int .i64 R.num, .slice A R.perm.length c, .slice B R.kids.length d] (encT R) ∧ g ∉ S ∧ (∀ b ∈ S, w0.heap.size ≤ b) ∧ w0.heap.size ≤ g ∧ Below w0.heap.size w0 wx
theorem set4_only (w : World) (R : Nat) (a b c d : Value) : Only [R] w ((((w.setCell ⟨R, 0, none⟩ a).setCell ⟨R, 1, none⟩ b).setCell ⟨R, 2, none⟩ c).setCell ⟨R, 3, none⟩ d) :=
  ((((Only.refl _ _).set ⟨R, 0, none⟩ a (by simp)).set ⟨R, 1, none⟩ b (by simp)).set ⟨R, 2, none⟩ c (by simp)).set ⟨R, 3, none⟩ d (by simp)
theorem set4_box {w : World} {R : Nat} {o0 o1 o2 o3 : Value} {T : TypeId} (h : w.heap[R]? = some (.cells #[o0, o1, o2, o3] T)) (a b c d : Value) : ((((w.setCell ⟨R, 0, none⟩ a).setCell ⟨R, 1, none⟩ b).setCell ⟨R, 2, none⟩ c).setCell ⟨R, 3, none⟩ d).heap[R]? = some (.cells #[a, b, c, d] T) := by
  have h1 := heap_setCell_same w R 0 _ _ a h
  have h2 := heap_setCell_same _ R 1 _ _ b h1
  have h3 := heap_setCell_same _ R 2 _ _ c h2
  have h4 := heap_setCell_same _ R 3 _ _ d h3
  exact h4
theorem regRel_set {w0 w4 : World} {g : Nat} {R : Tm} {bb : Bool} {A B : Option Addr} {c d : Nat} {S : List Nat} (hz : w4.heap[g]? = some (.cells #[.int .i64 0, .int .i64 0, .slice none 0 0, .slice none 0 0] 31))
    (hL : OwnL w4 S [.int .i64 R.op, .int .i64 R.num, .slice A R.perm.length c, .slice B R.kids.length d] (encT R)) (hS : ∀ b ∈ S, w0.heap.size ≤ b) (hne : ∀ b ∈ S, b ≠ g) (hg : w0.heap.size ≤ g) (hb : Below w0.heap.size w0 w4) :
    RegRel w0 R bb (.pointer (some ⟨g, 0, none⟩)) (.bool bb) ((((w4.setCell ⟨g, 0, none⟩ (.int .i64 R.op)).setCell ⟨g, 1, none⟩ (.int .i64 R.num)).setCell ⟨g, 2, none⟩ (.slice A R.perm.length c)).setCell ⟨g, 3, none⟩ (.slice B R.kids.length d)) :=
  ⟨g, A, c, B, d, S, rfl, rfl, set4_box hz _ _ _ _, set4_own hL hne _ _ _ _, fun hm => hne g hm rfl, hS, hg, set4_below hb hg _ _ _ _⟩
theorem regRel_new {w0 w4 : World} {R : Tm} {bb : Bool} {A B : Option Addr} {c d : Nat} {S : List Nat}
    (hL : OwnL w4 S [.int .i64 R.op, .int .i64 R.num, .slice A R.perm.length c, .slice B R.kids.length d] (encT R)) (hS : ∀ b ∈ S, w0.heap.size ≤ b) (hb : Below w0.heap.size w0 w4) :
    RegRel w0 R bb (.pointer (some ⟨w4.heap.size, 0, none⟩)) (.bool bb) (w4.alloc (.cells #[.int .i64 R.op, .int .i64 R.num, .slice A R.perm.length c, .slice B R.kids.length d] 31)) :=
  ⟨w4.heap.size, A, c, B, d, S, rfl, rfl, heap_alloc_new _ _, hL.alike fun b hb' => Below.heap_alloc _ _ _ (hL.lt b hb'), fun hm => by have := hL.lt _ hm; omega, hS, hb.size, hb.alloc hb.size _⟩
theorem set4_keep {w : World} {h g q : Nat} {v a b c d : Value} (hv : w.cell? ⟨h, q, none⟩ = some v) (hne : h ≠ g) : ((((w.setCell ⟨g, 0, none⟩ a).setCell ⟨g, 1, none⟩ b).setCell ⟨g, 2, none⟩ c).setCell ⟨g, 3, none⟩ d).cell? ⟨h, q, none⟩ = some v := by
  have h1 := (set4_only w g a b c d)
  have h2 : w.heap[h]? = w.heap[h]? := rfl
  have hlt : h < w.heap.size := by
    rcases Nat.lt_or_ge h w.heap.size with h3 | h3
    · exact h3
    · simp [World.cell?, Array.getElem?_eq_none h3] at hv
  exact (World.cell?_of_block (w := w) (a := ⟨h, q, none⟩) (h1.block h hlt (by simpa using hne))).trans hv
theorem fit_orAct (p : List (Int × Int)) (t : Tm) : Fit (orT (actT p t) (actB p t)) := by
  unfold orT
  split
  · rename_i h
    have h1 := actB_parts h
    exact fit_of _ (by have := h1.2.2; omega)
  · exact fit_of _ (by decide)
theorem mc_orAct (p : List (Int × Int)) (t : Tm) : mcR (orT (actT p t) (actB p t)) ≤ 2097152 := by
  unfold orT
  split
  · rename_i h
    have h1 := actB_parts h
    have h2 := mcTs_le (actT p t).kids
    have h3 := cntT_eq (actT p t)
    unfold mcR
    omega
  · decide
theorem actOn_implR {l0 : List (Int × Int)} {t1 R : Tm} {bb : Bool} (h1 : orT (actT l0 t1) (actB l0 t1) = R) (h2 : actB l0 t1 = bb) (P : Option Addr) (cp : Nat) (x : Value) (w : World) (hP : PairsAt w P l0) (hlp : l0.length ≤ 1048576) (hx : TmIn w x t1) (hc : cntT t1 ≤ 1048576) :
    Calls Try.prog 12 #[.slice P l0.length cp, x] w (TmOutB R bb w) := by
  subst h1; subst h2; exact actOn_impl P cp l0 t1 x w hP hlp hx hc
theorem actOn_specR {l0 : List (Int × Int)} {t1 R : Tm} {bb : Bool} (h1 : orT (actT l0 t1) (actB l0 t1) = R) (h2 : actB l0 t1 = bb) (P : Option Addr) (cp : Nat) (x : Value) (w : World) (hP : PairsAt w P l0) (hlp : l0.length ≤ 1048576) (hx : TmIn w x t1) (hc : cntT t1 ≤ 1048576) :
    Calls Try.prog 9 #[.slice P l0.length cp, x] w (TmOutB R bb w) := by
  subst h1; subst h2; exact actOn_spec P cp l0 t1 x w hP hlp hx hc

set_option maxRecDepth 100000 in
set_option maxHeartbeats 16000000 in
theorem walk (w : World) (A0 : Option Addr) (c0 : Nat) (l0 : List (Int × Int)) (hA0 : PairsAt w A0 l0) (hm0 : l0.length ≤ maxLen) (x1 : Value) (t1 : Tm) (hx1 : TmIn w x1 t1) (hs1 : Short t1) :
    Calls Try.prog 3 #[.slice A0 l0.length c0, x1] w fun e w' => e = .returned (.bool true) ∧ Below w.heap.size w w' := by
  unfold maxLen at hm0
  obtain ⟨A, c, kv, rfl, hp, hk⟩ := hx1
  obtain ⟨B, d, rfl⟩ := hk.form
  have hsh := (short_eq t1).1 hs1
  have hb0 : Below w.heap.size w (w.alloc (.cells #[.int .i64 t1.op, .int .i64 t1.num, .slice A t1.perm.length c, .slice B t1.kids.length d] 25)) := (Below.refl _ _).alloc (Nat.le_refl _) _
  have HX := Lib.hid (show TmIn w (.agg #[.int .i64 t1.op, .int .i64 t1.num, .slice A t1.perm.length c, .slice B t1.kids.length d]) t1 from ⟨A, c, _, rfl, hp, hk⟩)
  have HA := Lib.hid hA0
  have hx1 := HX.out.below hb0
  clear hp hk hA0 hs1
  by_cases hn0 : (l0.length : Int) ≤ 1048576
  · have hsz0 := sz_yes A0 l0.length c0 1048576 (w.alloc (.cells #[.int .i64 t1.op, .int .i64 t1.num, .slice A t1.perm.length c, .slice B t1.kids.length d] 25)) (by omega) (by omega) hn0
    have hleft0 : ¬ 1048576 - (l0.length : Int) < 0 := by omega
    have hsz := szTerm_of t1 _ _ (1048576 - (l0.length : Int)) (by omega) (by omega) hx1 hsh.1 fun l' w' y g0 g1 hy => szTermS_any _ t1.kids (Nat.le_refl _) hsh.2.2 hsh.2.1 l' w' y g0 g1 hy
    unfold LeftPost at hsz
    clear hsh hx1
    by_cases hn1 : (cntT t1 : Int) ≤ 1048576 - (l0.length : Int)
    · rw [leftR_yes hn1] at hsz
      have hleft1 : ¬ 1048576 - (l0.length : Int) - (cntT t1 : Int) < 0 := by omega
      have hcn : cntT t1 ≤ 1048576 := by omega
      have HCN := Lib.hid hcn
      have HFT := Lib.hid (fit_of t1 hcn)
      have HFR := Lib.hid (fit_orAct l0 t1)
      have hmR := mc_orAct l0 t1
      have hmk : t1.perm.length * 2 + mcTs t1.kids ≤ 2097152 := by
        have h1 := mcTs_le t1.kids
        have h2 := cntT_eq t1
        omega
      clear hcn
      generalize hRR : orT (actT l0 t1) (actB l0 t1) = R at hmR HFR
      have HRR := Lib.hid hRR
      clear hRR
      generalize hBB : actB l0 t1 = bb
      have HBB := Lib.hid hBB
      clear hBB
      go_enter Try.func3, Try.ntmps3
      go_wp2_with fail
      refine hsz0.mono ?_
      rintro e w' ⟨rfl, rfl⟩
      clear hsz0
      go_wp2_with fail
      refine hsz.mono ?_
      rintro e w1 ⟨rfl, hb1⟩
      have KA_0 := Lib.hid ((hb1.block w.heap.size (by simp)).trans (heap_alloc_new w (.cells #[.int .i64 t1.op, .int .i64 t1.num, .slice A t1.perm.length c, .slice B t1.kids.length d] 25)))
      have FR_0 := Lib.hid (hb0.trans (hb1.mono hb0.size))
      have s1 : w.heap.size < w1.heap.size := by have := hb1.size; rw [World.size_alloc] at this; omega
      clear hsz hb0 hb1
      go_upto_region 8 with fail
      go_cut [6, 7] (fun s t wx => RegRel w1 R bb s t wx)
      case first =>
        have hdw : Below w1.heap.size w1 w1.drew := ⟨rfl, rfl, rfl, Nat.le_refl _, fun _ _ => rfl⟩
        have sd : w1.heap.size ≤ w1.drew.heap.size := hdw.size
        have hbA := (hdw.block _ (box_lt KA_0.out)).trans KA_0.out
        obtain ⟨u0, u1, u2, u3⟩ := row4 hbA
        have su : w.heap.size < w1.drew.heap.size := box_lt hbA
        have hne0 : w.heap.size ≠ w1.heap.size := Nat.ne_of_lt su
        have fr0 := FR_0.out.trans (hdw.mono FR_0.out.size)
        have hal : Below w1.heap.size w1 (w1.alloc (.cells #[.int .i64 0, .int .i64 0, .slice none 0 0, .slice none 0 0] 31)) := (Below.refl _ _).alloc (Nat.le_refl _) _
        have hbx0 : Below w1.drew.heap.size w1.drew (w1.alloc (.cells #[.int .i64 0, .int .i64 0, .slice none 0 0, .slice none 0 0] 31)).drew := ⟨hal.os, hal.tape, hal.output, hal.size, hal.block⟩
        have x0 := (hbx0.cell (p := ⟨w.heap.size, 0, none⟩) su).trans u0
        have x1 := (hbx0.cell (p := ⟨w.heap.size, 1, none⟩) su).trans u1
        have x2 := (hbx0.cell (p := ⟨w.heap.size, 2, none⟩) su).trans u2
        have x3 := (hbx0.cell (p := ⟨w.heap.size, 3, none⟩) su).trans u3
        have h0a := toPairS_any A0 c0 l0 w1.drew (HA.out.below fr0) (by omega)
        have h0b := toPairS_any A0 c0 l0 (w1.alloc (.cells #[.int .i64 0, .int .i64 0, .slice none 0 0, .slice none 0 0] 31)).drew (HA.out.below (fr0.trans (hbx0.mono fr0.size))) (by omega)
        have HDW := Lib.hid hdw
        clear hdw hbA hal
        go_region_held3 (fun w' => w'.cell? ⟨w.heap.size, 0, none⟩ = some (.int .i64 t1.op) ∧ w'.cell? ⟨w.heap.size, 1, none⟩ = some (.int .i64 t1.num) ∧ w'.cell? ⟨w.heap.size, 2, none⟩ = some (.slice A t1.perm.length c) ∧ w'.cell? ⟨w.heap.size, 3, none⟩ = some (.slice B t1.kids.length d))
          (first | ((try dsimp only); (with_reducible exact ⟨by assumption, by assumption, by assumption, by assumption⟩)) | (with_reducible exact ⟨set4_keep (by assumption) (by assumption), set4_keep (by assumption) (by assumption), set4_keep (by assumption) (by assumption), set4_keep (by assumption) (by assumption)⟩) | go_keep)
          (first
            | (go_at_call 10; (first | (with_reducible refine h0a.mono ?_) | (with_reducible refine h0b.mono ?_)); rintro e w2 ⟨vp, rfl, opp, hba0⟩; obtain ⟨Ap, cp, rfl, hpa⟩ := own_pairsAt opp; have hba : Below w1.drew.heap.size w1.drew w2 := (by first | (with_reducible exact hba0) | (with_reducible exact hbx0.trans (hba0.mono hbx0.size))); (try (have z2 : w2.heap[w1.heap.size]? = some (.cells #[.int .i64 0, .int .i64 0, .slice none 0 0, .slice none 0 0] 31) := (hba0.block w1.heap.size (by simp)).trans (heap_alloc_new w1 (.cells #[.int .i64 0, .int .i64 0, .slice none 0 0, .slice none 0 0] 31)))); have ua0 := (hba.cell (p := ⟨w.heap.size, 0, none⟩) su).trans u0; have ua1 := (hba.cell (p := ⟨w.heap.size, 1, none⟩) su).trans u1; have ua2 := (hba.cell (p := ⟨w.heap.size, 2, none⟩) su).trans u2; have ua3 := (hba.cell (p := ⟨w.heap.size, 3, none⟩) su).trans u3; have sua := Nat.lt_of_lt_of_le su hba.size; have hne1 : w.heap.size ≠ w2.heap.size := Nat.ne_of_lt sua; have fra := fr0.trans (hba.mono fr0.size); have hbx1 : Below w2.heap.size w2 (w2.alloc (.cells #[.int .i64 0, .int .i64 0, .slice none 0 0, .slice none 0 0] 31)) := (Below.refl _ _).alloc (Nat.le_refl _) _; have h1a := toTerm_any t1 HFT.out w2 _ (HX.out.below fra); have h1b := toTerm_any t1 HFT.out (w2.alloc (.cells #[.int .i64 0, .int .i64 0, .slice none 0 0, .slice none 0 0] 31)) _ (HX.out.below (fra.trans (hbx1.mono fra.size))); clear hba0 opp h0a h0b)
            | (go_at_call 11; (first | (with_reducible refine h1a.mono ?_) | (with_reducible refine h1b.mono ?_)); rintro e w3 ⟨Pb, qb, Kb, rb, Sb, rfl, hLb, hSb, hbb0⟩; have hti := tmOut_in hLb; have hbb : Below w2.heap.size w2 w3 := (by first | (with_reducible exact hbb0) | (with_reducible exact hbx1.trans (hbb0.mono hbx1.size))); (try (have z3 := (hbb.block _ (box_lt z2)).trans z2)); (try (have z3 : w3.heap[w2.heap.size]? = some (.cells #[.int .i64 0, .int .i64 0, .slice none 0 0, .slice none 0 0] 31) := (hbb0.block _ (by simp)).trans (heap_alloc_new w2 (.cells #[.int .i64 0, .int .i64 0, .slice none 0 0, .slice none 0 0] 31)))); have ub0 := (hbb.cell (p := ⟨w.heap.size, 0, none⟩) sua).trans ua0; have ub1 := (hbb.cell (p := ⟨w.heap.size, 1, none⟩) sua).trans ua1; have ub2 := (hbb.cell (p := ⟨w.heap.size, 2, none⟩) sua).trans ua2; have ub3 := (hbb.cell (p := ⟨w.heap.size, 3, none⟩) sua).trans ua3; have sub := Nat.lt_of_lt_of_le sua hbb.size; have hne2 : w.heap.size ≠ w3.heap.size := Nat.ne_of_lt sub; have hbx2 : Below w3.heap.size w3 (w3.alloc (.cells #[.int .i64 0, .int .i64 0, .slice none 0 0, .slice none 0 0] 31)) := (Below.refl _ _).alloc (Nat.le_refl _) _; have h2a := actOn_specR HRR.out HBB.out Ap cp _ w3 (hpa.below hbb) (by omega) hti HCN.out; have h2b := actOn_specR HRR.out HBB.out Ap cp _ (w3.alloc (.cells #[.int .i64 0, .int .i64 0, .slice none 0 0, .slice none 0 0] 31)) ((hpa.below hbb).below hbx2) (by omega) (hti.below hbx2) HCN.out; clear hbb0 hLb hSb hti hpa h1a h1b)
            | (go_at_call 9; (first | (with_reducible refine h2a.mono ?_) | (with_reducible refine h2b.mono ?_)); rintro e w4 ⟨Aw, cw, Bw, dw, Sw, rfl, hLw, hSw, hbc0⟩; have hbc : Below w3.heap.size w3 w4 := (by first | (with_reducible exact hbc0) | (with_reducible exact hbx2.trans (hbc0.mono hbx2.size))); (try (have z4 := (hbc.block _ (box_lt z3)).trans z3)); (try (have z4 : w4.heap[w3.heap.size]? = some (.cells #[.int .i64 0, .int .i64 0, .slice none 0 0, .slice none 0 0] 31) := (hbc0.block _ (by simp)).trans (heap_alloc_new w3 (.cells #[.int .i64 0, .int .i64 0, .slice none 0 0, .slice none 0 0] 31)))); have uc0 := (hbc.cell (p := ⟨w.heap.size, 0, none⟩) sub).trans ub0; have uc1 := (hbc.cell (p := ⟨w.heap.size, 1, none⟩) sub).trans ub1; have uc2 := (hbc.cell (p := ⟨w.heap.size, 2, none⟩) sub).trans ub2; have uc3 := (hbc.cell (p := ⟨w.heap.size, 3, none⟩) sub).trans ub3; have suc := Nat.lt_of_lt_of_le sub hbc.size; have hne3 : w.heap.size ≠ w4.heap.size := Nat.ne_of_lt suc; (try (obtain ⟨q0, q1, q2, q3⟩ := row4 z4; have y0 := frozen_of_row _ _ 0 _ _ z4; have y1 := frozen_of_row _ _ 1 _ _ z4; have y2 := frozen_of_row _ _ 2 _ _ z4; have y3 := frozen_of_row _ _ 3 _ _ z4))))
        all_goals
          have hbz := ((HDW.out.trans (hba.mono HDW.out.size)).trans (hbb.mono (Nat.le_trans sd hba.size))).trans (hbc.mono (Nat.le_trans sd (Nat.le_trans hba.size hbb.size)))
          have sza : w1.drew.heap.size ≤ w2.heap.size := hba.size
          have szb : w2.heap.size ≤ w3.heap.size := hbb.size
          go_wp2_with fail
          go_meet
          first | (with_reducible exact regRel_set z4 hLw (fun b hb => Nat.le_trans (by omega) (hSw b hb)) (fun b hb => Nat.ne_of_gt (Nat.lt_of_lt_of_le (box_lt z3) (hSw b hb))) (by omega) hbz) | (with_reducible exact regRel_set z4 hLw (fun b hb => Nat.le_trans (by simp; omega) (hSw b hb)) (fun b hb => Nat.ne_of_gt (Nat.lt_of_lt_of_le (by simp) (hSw b hb))) (by omega) hbz) | (with_reducible exact regRel_new hLw (fun b hb => Nat.le_trans (by omega) (hSw b hb)) hbz)
      case rest =>
        obtain ⟨Wg, AW, cW, BW, dW, SW, rfl, rfl, hbox, hL, hgS, hSb, hgb, hbz⟩ := hcut
        have KA_1 := Lib.hid ((hbz.block _ (box_lt KA_0.out)).trans KA_0.out)
        have FR_1 := Lib.hid (FR_0.out.trans (hbz.mono FR_0.out.size))
        have sW : w1.heap.size ≤ wc.heap.size := hbz.size
        have sgW : Wg < wc.heap.size := box_lt hbox
        have NW := Lib.hid hL
        have HTW : Hid (∀ b ∈ SW, w1.heap.size ≤ b ∧ b < wc.heap.size) := Lib.hid (fun b hb => ⟨hSb b hb, hL.lt b hb⟩)
        have KW_2 := Lib.hid hbox
        clear hbox hL hgS hSb hbz KA_0 FR_0
        obtain ⟨w4b, rfl⟩ : ∃ x : World, x = wc := ⟨_, rfl⟩
        have h0 := toPairS_any A0 c0 l0 w4b (HA.out.below FR_1.out) (by omega)
        go_wp2_with fail
        refine h0.mono ?_
        rintro e w5 ⟨v0, rfl, op0, hb5⟩
        obtain ⟨Ax, cx, rfl, _⟩ := own_pairsAt op0
        have KA_3 := Lib.hid ((hb5.block _ (box_lt KA_1.out)).trans KA_1.out)
        have KW_3 := Lib.hid ((hb5.block _ (box_lt KW_2.out)).trans KW_2.out)
        have NW_3 := Lib.hid (NW.out.alike (w' := w5) fun b hb => hb5.block b (NW.out.lt b hb))
        have FR_3 := Lib.hid (FR_1.out.trans (hb5.mono FR_1.out.size))
        have s5 : w4b.heap.size ≤ w5.heap.size := hb5.size
        obtain ⟨S0, hS0, hS0b, hS0e⟩ := own_pairMem op0
        have HT0 : Hid (∀ b ∈ S0, w4b.heap.size ≤ b ∧ b < w5.heap.size) := Lib.hid (fun b hb => ⟨hS0b b hb, hS0.lt b hb⟩)
        have HE0 := Lib.hid hS0e
        have QX_0 := Lib.hid op0
        clear h0 hb5 op0 hS0 hS0b hS0e KA_1 KW_2 NW FR_1
        obtain ⟨u0, u1, u2, u3⟩ := row4 KA_3.out
        have ul : w.heap.size < w5.heap.size := box_lt KA_3.out
        have h1 := toTerm_any t1 HFT.out w5 _ (HX.out.below FR_3.out)
        go_wp2_with fail
        refine h1.mono ?_
        rintro e w6 ⟨P6, q6, K6, r6, S6, rfl, hL6, hS6, hb6⟩
        have KA_4 := Lib.hid ((hb6.block _ (box_lt KA_3.out)).trans KA_3.out)
        have KW_4 := Lib.hid ((hb6.block _ (box_lt KW_3.out)).trans KW_3.out)
        have NW_4 := Lib.hid (NW_3.out.alike (w' := w6) fun b hb => hb6.block b (NW_3.out.lt b hb))
        have QX_4 := Lib.hid (own_below QX_0.out hb6)
        have FR_4 := Lib.hid (FR_3.out.trans (hb6.mono FR_3.out.size))
        have s6 : w5.heap.size ≤ w6.heap.size := hb6.size
        have HT6 : Hid (∀ b ∈ S6, w5.heap.size ≤ b ∧ b < w6.heap.size) := Lib.hid (fun b hb => ⟨hS6 b hb, hL6.lt b hb⟩)
        have NX := Lib.hid hL6
        clear h1 hb6 hL6 hS6 u0 u1 u2 u3 ul KA_3 KW_3 NW_3 QX_0 FR_3
        have hbx : Below w6.heap.size w6 (w6.alloc (.cells #[.int .i64 t1.op, .int .i64 t1.num, .slice P6 t1.perm.length q6, .slice K6 t1.kids.length r6] 31)) := (Below.refl _ _).alloc (Nat.le_refl _) _
        have KA_5 := Lib.hid ((hbx.block _ (box_lt KA_4.out)).trans KA_4.out)
        have KW_5 := Lib.hid ((hbx.block _ (box_lt KW_4.out)).trans KW_4.out)
        have NW_5 := Lib.hid (NW_4.out.alike (w' := (w6.alloc (.cells #[.int .i64 t1.op, .int .i64 t1.num, .slice P6 t1.perm.length q6, .slice K6 t1.kids.length r6] 31))) fun b hb => hbx.block b (NW_4.out.lt b hb))
        have NX_5 := Lib.hid (NX.out.alike (w' := (w6.alloc (.cells #[.int .i64 t1.op, .int .i64 t1.num, .slice P6 t1.perm.length q6, .slice K6 t1.kids.length r6] 31))) fun b hb => hbx.block b (NX.out.lt b hb))
        have QX_5 := Lib.hid (own_below QX_4.out hbx)
        have FR_5 := Lib.hid (FR_4.out.trans (hbx.mono FR_4.out.size))
        have KX_6 := Lib.hid (heap_alloc_new w6 (.cells #[.int .i64 t1.op, .int .i64 t1.num, .slice P6 t1.perm.length q6, .slice K6 t1.kids.length r6] 31))
        have hbx2 := hbx
        clear hbx KA_4 KW_4 NW_4 NX QX_4 FR_4
        obtain ⟨Ay, cy, ey, hpy⟩ := own_pairsAt QX_5.out
        injection ey with ey1 _ ey3
        subst ey1; subst ey3
        have h2 := actOn_implR HRR.out HBB.out Ax cx _ (w6.alloc (.cells #[.int .i64 t1.op, .int .i64 t1.num, .slice P6 t1.perm.length q6, .slice K6 t1.kids.length r6] 31)) hpy (by omega) (tmOut_in NX_5.out) HCN.out
        clear hbx2 hpy
        go_wp2_with fail
        refine h2.mono ?_
        rintro e w7 ⟨Aw7, cw7, Bw7, dw7, Sw7, rfl, hL7, hS7, hb7⟩
        have KA_7 := Lib.hid ((hb7.block _ (box_lt KA_5.out)).trans KA_5.out)
        have KW_7 := Lib.hid ((hb7.block _ (box_lt KW_5.out)).trans KW_5.out)
        have KX_7 := Lib.hid ((hb7.block _ (box_lt KX_6.out)).trans KX_6.out)
        have NW_7 := Lib.hid (NW_5.out.alike (w' := w7) fun b hb => hb7.block b (NW_5.out.lt b hb))
        have NX_7 := Lib.hid (NX_5.out.alike (w' := w7) fun b hb => hb7.block b (NX_5.out.lt b hb))
        have QX_7 := Lib.hid (own_below QX_5.out hb7)
        have FR_7 := Lib.hid (FR_5.out.trans (hb7.mono FR_5.out.size))
        have s7 : w6.heap.size < w7.heap.size := by have := hb7.size; rw [World.size_alloc] at this; omega
        have HT7 : Hid (∀ b ∈ Sw7, w6.heap.size + 1 ≤ b ∧ b < w7.heap.size) := Lib.hid (fun b hb => ⟨by have := hS7 b hb; rw [World.size_alloc] at this; exact this, hL7.lt b hb⟩)
        have NG := Lib.hid hL7
        obtain ⟨v0, v1, v2, v3⟩ := row4 KW_7.out
        have vl : Wg < w7.heap.size := box_lt KW_7.out
        have tb : (bb != bb) = false := by simp
        clear h2 hb7 hL7 hS7 KA_5 KW_5 KX_6 NW_5 NX_5 QX_5 FR_5
        have hbx : Below w7.heap.size w7 (w7.alloc (.cells #[.int .i64 R.op, .int .i64 R.num, .slice Aw7 R.perm.length cw7, .slice Bw7 R.kids.length dw7] 31)) := (Below.refl _ _).alloc (Nat.le_refl _) _
        have KA_8 := Lib.hid ((hbx.block _ (box_lt KA_7.out)).trans KA_7.out)
        have KW_8 := Lib.hid ((hbx.block _ (box_lt KW_7.out)).trans KW_7.out)
        have KX_8 := Lib.hid ((hbx.block _ (box_lt KX_7.out)).trans KX_7.out)
        have NW_8 := Lib.hid (NW_7.out.alike (w' := (w7.alloc (.cells #[.int .i64 R.op, .int .i64 R.num, .slice Aw7 R.perm.length cw7, .slice Bw7 R.kids.length dw7] 31))) fun b hb => hbx.block b (NW_7.out.lt b hb))
        have NX_8 := Lib.hid (NX_7.out.alike (w' := (w7.alloc (.cells #[.int .i64 R.op, .int .i64 R.num, .slice Aw7 R.perm.length cw7, .slice Bw7 R.kids.length dw7] 31))) fun b hb => hbx.block b (NX_7.out.lt b hb))
        have NG_8 := Lib.hid (NG.out.alike (w' := (w7.alloc (.cells #[.int .i64 R.op, .int .i64 R.num, .slice Aw7 R.perm.length cw7, .slice Bw7 R.kids.length dw7] 31))) fun b hb => hbx.block b (NG.out.lt b hb))
        have QX_8 := Lib.hid (own_below QX_7.out hbx)
        have FR_8 := Lib.hid (FR_7.out.trans (hbx.mono FR_7.out.size))
        have KG_9 := Lib.hid (heap_alloc_new w7 (.cells #[.int .i64 R.op, .int .i64 R.num, .slice Aw7 R.perm.length cw7, .slice Bw7 R.kids.length dw7] 31))
        have hbx2 := hbx
        clear hbx KA_7 KW_7 KX_7 NW_7 NX_7 NG QX_7 FR_7
        have h3 := eqTerm_any R HFR.out (w7.alloc (.cells #[.int .i64 R.op, .int .i64 R.num, .slice Aw7 R.perm.length cw7, .slice Bw7 R.kids.length dw7] 31)) _ _ (tmOut_in NG_8.out) (tmOut_in NW_8.out)
        clear hbx2
        go_wp2_with fail
        refine h3.mono ?_
        rintro e w8 ⟨rfl, hb8⟩
        have KA_10 := Lib.hid ((hb8.block _ (box_lt KA_8.out)).trans KA_8.out)
        have KW_10 := Lib.hid ((hb8.block _ (box_lt KW_8.out)).trans KW_8.out)
        have KX_10 := Lib.hid ((hb8.block _ (box_lt KX_8.out)).trans KX_8.out)
        have KG_10 := Lib.hid ((hb8.block _ (box_lt KG_9.out)).trans KG_9.out)
        have NW_10 := Lib.hid (NW_8.out.alike (w' := w8) fun b hb => hb8.block b (NW_8.out.lt b hb))
        have NX_10 := Lib.hid (NX_8.out.alike (w' := w8) fun b hb => hb8.block b (NX_8.out.lt b hb))
        have NG_10 := Lib.hid (NG_8.out.alike (w' := w8) fun b hb => hb8.block b (NG_8.out.lt b hb))
        have QX_10 := Lib.hid (own_below QX_8.out hb8)
        have FR_10 := Lib.hid (FR_8.out.trans (hb8.mono FR_8.out.size))
        have s8 : w7.heap.size < w8.heap.size := by have := hb8.size; rw [World.size_alloc] at this; omega
        clear h3 hb8 v0 v1 v2 v3 vl KA_8 KW_8 KX_8 KG_9 NW_8 NX_8 NG_8 QX_8 FR_8
        have h4 := toPairS_any A0 c0 l0 w8 (HA.out.below FR_10.out) (by omega)
        go_wp2_with fail
        refine h4.mono ?_
        rintro e w9 ⟨v9, rfl, op9, hb9⟩
        obtain ⟨A9, c9, rfl, _⟩ := own_pairsAt op9
        have KA_11 := Lib.hid ((hb9.block _ (box_lt KA_10.out)).trans KA_10.out)
        have KW_11 := Lib.hid ((hb9.block _ (box_lt KW_10.out)).trans KW_10.out)
        have KX_11 := Lib.hid ((hb9.block _ (box_lt KX_10.out)).trans KX_10.out)
        have KG_11 := Lib.hid ((hb9.block _ (box_lt KG_10.out)).trans KG_10.out)
        have NW_11 := Lib.hid (NW_10.out.alike (w' := w9) fun b hb => hb9.block b (NW_10.out.lt b hb))
        have NX_11 := Lib.hid (NX_10.out.alike (w' := w9) fun b hb => hb9.block b (NX_10.out.lt b hb))
        have NG_11 := Lib.hid (NG_10.out.alike (w' := w9) fun b hb => hb9.block b (NG_10.out.lt b hb))
        have QX_11 := Lib.hid (own_below QX_10.out hb9)
        have FR_11 := Lib.hid (FR_10.out.trans (hb9.mono FR_10.out.size))
        have s9 : w8.heap.size ≤ w9.heap.size := hb9.size
        have h5 := eqPairS_own _ _ _ _ l0 l0 w9 QX_11.out op9 (by omega)
        rw [decide_eq_true (rfl : l0 = l0)] at h5
        clear h4 hb9 op9 KA_10 KW_10 KX_10 KG_10 NW_10 NX_10 NG_10 QX_10 FR_10
        go_wp2_with fail
        refine h5.mono ?_
        rintro e w10 ⟨rfl, hb10⟩
        have KA_12 := Lib.hid ((hb10.block _ (box_lt KA_11.out)).trans KA_11.out)
        have KW_12 := Lib.hid ((hb10.block _ (box_lt KW_11.out)).trans KW_11.out)
        have KX_12 := Lib.hid ((hb10.block _ (box_lt KX_11.out)).trans KX_11.out)
        have KG_12 := Lib.hid ((hb10.block _ (box_lt KG_11.out)).trans KG_11.out)
        have NW_12 := Lib.hid (NW_11.out.alike (w' := w10) fun b hb => hb10.block b (NW_11.out.lt b hb))
        have NX_12 := Lib.hid (NX_11.out.alike (w' := w10) fun b hb => hb10.block b (NX_11.out.lt b hb))
        have NG_12 := Lib.hid (NG_11.out.alike (w' := w10) fun b hb => hb10.block b (NG_11.out.lt b hb))
        have QX_12 := Lib.hid (own_below QX_11.out hb10)
        have FR_12 := Lib.hid (FR_11.out.trans (hb10.mono FR_11.out.size))
        have s10 : w9.heap.size ≤ w10.heap.size := hb10.size
        clear h5 hb10 KA_11 KW_11 KX_11 KG_11 NW_11 NX_11 NG_11 QX_11 FR_11
        have hdw : Below w10.heap.size w10 w10.drew := ⟨rfl, rfl, rfl, Nat.le_refl _, fun _ _ => rfl⟩
        have KA_13 := Lib.hid ((hdw.block _ (box_lt KA_12.out)).trans KA_12.out)
        have KW_13 := Lib.hid ((hdw.block _ (box_lt KW_12.out)).trans KW_12.out)
        have KX_13 := Lib.hid ((hdw.block _ (box_lt KX_12.out)).trans KX_12.out)
        have KG_13 := Lib.hid ((hdw.block _ (box_lt KG_12.out)).trans KG_12.out)
        have NW_13 := Lib.hid (NW_12.out.alike (w' := w10.drew) fun b hb => hdw.block b (NW_12.out.lt b hb))
        have NX_13 := Lib.hid (NX_12.out.alike (w' := w10.drew) fun b hb => hdw.block b (NX_12.out.lt b hb))
        have NG_13 := Lib.hid (NG_12.out.alike (w' := w10.drew) fun b hb => hdw.block b (NG_12.out.lt b hb))
        have QX_13 := Lib.hid (own_below QX_12.out hdw)
        have FR_13 := Lib.hid (FR_12.out.trans (hdw.mono FR_12.out.size))
        have sd : w10.heap.size ≤ w10.drew.heap.size := hdw.size
        obtain ⟨u0, u1, u2, u3⟩ := row4 KA_13.out
        have ul : w.heap.size < w10.drew.heap.size := box_lt KA_13.out
        obtain ⟨y0, y1, y2, y3⟩ := row4 KX_13.out
        have yl : w6.heap.size < w10.drew.heap.size := box_lt KX_13.out
        have h6 := toTerm_any t1 HFT.out w10.drew _ (HX.out.below FR_13.out)
        have hxx := tmOut_in NX_13.out
        clear hdw KA_12 KW_12 KX_12 KG_12 NW_12 NX_12 NG_12 QX_12 FR_12
        go_wp2
        go_region_held3 (fun w' => w'.cell? ⟨w.heap.size, 0, none⟩ = some (.int .i64 t1.op) ∧ w'.cell? ⟨w.heap.size, 1, none⟩ = some (.int .i64 t1.num) ∧ w'.cell? ⟨w.heap.size, 2, none⟩ = some (.slice A t1.perm.length c) ∧ w'.cell? ⟨w.heap.size, 3, none⟩ = some (.slice B t1.kids.length d) ∧ w'.cell? ⟨w6.heap.size, 0, none⟩ = some (.int .i64 t1.op) ∧ w'.cell? ⟨w6.heap.size, 1, none⟩ = some (.int .i64 t1.num) ∧ w'.cell? ⟨w6.heap.size, 2, none⟩ = some (.slice P6 t1.perm.length q6) ∧ w'.cell? ⟨w6.heap.size, 3, none⟩ = some (.slice K6 t1.kids.length r6))
          (first | ((try dsimp only); (with_reducible exact ⟨by assumption, by assumption, by assumption, by assumption, by assumption, by assumption, by assumption, by assumption⟩)) | go_keep)
          (first
            | (go_at_call 11; refine h6.mono ?_; rintro e w11 ⟨P11, q11, K11, r11, S11, rfl, hL11, _, hb11⟩; have hz11 := tmOut_in hL11; have hy11 := hxx.below hb11; have ua0 := (hb11.cell (p := ⟨w.heap.size, 0, none⟩) ul).trans u0; have ua1 := (hb11.cell (p := ⟨w.heap.size, 1, none⟩) ul).trans u1; have ua2 := (hb11.cell (p := ⟨w.heap.size, 2, none⟩) ul).trans u2; have ua3 := (hb11.cell (p := ⟨w.heap.size, 3, none⟩) ul).trans u3; have ya0 := (hb11.cell (p := ⟨w6.heap.size, 0, none⟩) yl).trans y0; have ya1 := (hb11.cell (p := ⟨w6.heap.size, 1, none⟩) yl).trans y1; have ya2 := (hb11.cell (p := ⟨w6.heap.size, 2, none⟩) yl).trans y2; have ya3 := (hb11.cell (p := ⟨w6.heap.size, 3, none⟩) yl).trans y3; have ula := Nat.lt_of_lt_of_le ul hb11.size; have yla := Nat.lt_of_lt_of_le yl hb11.size)
            | (go_at_call 13; refine (eqTerm_any t1 HFT.out _ _ _ hy11 hz11).mono ?_; rintro e w12 ⟨rfl, hb12⟩; have ub0 := (hb12.cell (p := ⟨w.heap.size, 0, none⟩) ula).trans ua0; have ub1 := (hb12.cell (p := ⟨w.heap.size, 1, none⟩) ula).trans ua1; have ub2 := (hb12.cell (p := ⟨w.heap.size, 2, none⟩) ula).trans ua2; have ub3 := (hb12.cell (p := ⟨w.heap.size, 3, none⟩) ula).trans ua3; have yb0 := (hb12.cell (p := ⟨w6.heap.size, 0, none⟩) yla).trans ya0; have yb1 := (hb12.cell (p := ⟨w6.heap.size, 1, none⟩) yla).trans ya1; have yb2 := (hb12.cell (p := ⟨w6.heap.size, 2, none⟩) yla).trans ya2; have yb3 := (hb12.cell (p := ⟨w6.heap.size, 3, none⟩) yla).trans ya3))
        have hbz := hb11.trans (hb12.mono hb11.size)
        have KA_14 := Lib.hid ((hbz.block _ (box_lt KA_13.out)).trans KA_13.out)
        have KW_14 := Lib.hid ((hbz.block _ (box_lt KW_13.out)).trans KW_13.out)
        have KX_14 := Lib.hid ((hbz.block _ (box_lt KX_13.out)).trans KX_13.out)
        have KG_14 := Lib.hid ((hbz.block _ (box_lt KG_13.out)).trans KG_13.out)
        have NW_14 := Lib.hid (NW_13.out.alike (w' := w12) fun b hb => hbz.block b (NW_13.out.lt b hb))
        have NX_14 := Lib.hid (NX_13.out.alike (w' := w12) fun b hb => hbz.block b (NX_13.out.lt b hb))
        have NG_14 := Lib.hid (NG_13.out.alike (w' := w12) fun b hb => hbz.block b (NG_13.out.lt b hb))
        have QX_14 := Lib.hid (own_below QX_13.out hbz)
        have FR_14 := Lib.hid (FR_13.out.trans (hbz.mono FR_13.out.size))
        have s12 : w10.heap.size ≤ w12.heap.size := Nat.le_trans sd hbz.size
        clear hbz hb11 hb12 h6 hxx hz11 hy11 hL11 ula yla sd u0 u1 u2 u3 ul y0 y1 y2 y3 yl ua0 ua1 ua2 ua3 ya0 ya1 ya2 ya3 ub0 ub1 ub2 ub3 yb0 yb1 yb2 yb3 KA_13 KW_13 KX_13 KG_13 NW_13 NX_13 NG_13 QX_13 FR_13
        have h7 := markPairS_own _ l0.length (.slice Ax l0.length cx) (cellsOf l0) 1 w12 QX_14.out (by omega) (by omega)
        go_wp2_with fail
        (with_reducible refine h7.mono ?_)
        rintro e w13 ⟨rfl, _, hg13⟩
        have hon13 : Only S0 w12 w13 := Only.of_grown hg13 (fun b e => by rw [HE0.out, e]; simp)
        have KA_15 := Lib.hid ((hon13.block _ (box_lt KA_14.out) (fun hm => by have := HT0.out _ hm; omega)).trans KA_14.out)
        have KW_15 := Lib.hid ((hon13.block _ (box_lt KW_14.out) (fun hm => by have := HT0.out _ hm; omega)).trans KW_14.out)
        have KX_15 := Lib.hid ((hon13.block _ (box_lt KX_14.out) (fun hm => by have := HT0.out _ hm; omega)).trans KX_14.out)
        have KG_15 := Lib.hid ((hon13.block _ (box_lt KG_14.out) (fun hm => by have := HT0.out _ hm; omega)).trans KG_14.out)
        have NW_15 := Lib.hid (NW_14.out.alike (w' := w13) fun b hb => hon13.block b (NW_14.out.lt b hb) (fun hm => by have h1 := HT0.out _ hm; have h2 := HTW.out _ hb; omega))
        have NG_15 := Lib.hid (NG_14.out.alike (w' := w13) fun b hb => hon13.block b (NG_14.out.lt b hb) (fun hm => by have h1 := HT0.out _ hm; have h2 := HT7.out _ hb; omega))
        have NX_15 := Lib.hid (NX_14.out.alike (w' := w13) fun b hb => hon13.block b (NX_14.out.lt b hb) (fun hm => by have h1 := HT0.out _ hm; have h2 := HT6.out _ hb; omega))
        have FR_15 := Lib.hid (Only.below FR_14.out hon13 FR_14.out.size (fun b hb => by have := HT0.out _ hb; omega))
        have s13 : w12.heap.size ≤ w13.heap.size := hon13.size
        obtain ⟨y0, y1, y2, y3⟩ := row4 KX_15.out
        have yl : w6.heap.size < w13.heap.size := box_lt KX_15.out
        have h8 := markTerm_any t1 HFT.out S6 P6 K6 q6 r6 (1 + (l0.length : Int) * 2) w13 (by omega) (by omega) NX_15.out
        clear h7 hg13 hon13 QX_14 KA_14 KW_14 KX_14 KG_14 NW_14 NG_14 NX_14 FR_14
        go_wp2_with fail
        (with_reducible refine h8.mono ?_)
        rintro e w14 ⟨rfl, hon14⟩
        have KA_16 := Lib.hid ((hon14.block _ (box_lt KA_15.out) (fun hm => by have := HT6.out _ hm; omega)).trans KA_15.out)
        have KW_16 := Lib.hid ((hon14.block _ (box_lt KW_15.out) (fun hm => by have := HT6.out _ hm; omega)).trans KW_15.out)
        have KX_16 := Lib.hid ((hon14.block _ (box_lt KX_15.out) (fun hm => by have := HT6.out _ hm; omega)).trans KX_15.out)
        have KG_16 := Lib.hid ((hon14.block _ (box_lt KG_15.out) (fun hm => by have := HT6.out _ hm; omega)).trans KG_15.out)
        have NW_16 := Lib.hid (NW_15.out.alike (w' := w14) fun b hb => hon14.block b (NW_15.out.lt b hb) (fun hm => by have h1 := HT6.out _ hm; have h2 := HTW.out _ hb; omega))
        have NG_16 := Lib.hid (NG_15.out.alike (w' := w14) fun b hb => hon14.block b (NG_15.out.lt b hb) (fun hm => by have h1 := HT6.out _ hm; have h2 := HT7.out _ hb; omega))
        have FR_16 := Lib.hid (Only.below FR_15.out hon14 FR_15.out.size (fun b hb => by have := HT6.out _ hb; omega))
        have s14 : w13.heap.size ≤ w14.heap.size := hon14.size
        have tk : ¬ 1 + (l0.length : Int) * 2 + (t1.perm.length : Int) * 2 + (mcTs t1.kids : Int) < 0 := by omega
        obtain ⟨z0, z1, z2, z3⟩ := row4 KG_16.out
        have zl : w7.heap.size < w14.heap.size := box_lt KG_16.out
        obtain ⟨v0, v1, v2, v3⟩ := row4 KW_16.out
        have vl : Wg < w14.heap.size := box_lt KW_16.out
        have h9 := eqTerm_any R HFR.out w14 _ _ (tmOut_in NG_16.out) (tmOut_in NW_16.out)
        clear h8 hon14 y0 y1 y2 y3 yl NX_15 KA_15 KW_15 KX_15 KG_15 NW_15 NG_15 FR_15
        go_wp2_with fail
        refine h9.mono ?_
        rintro e w15 ⟨rfl, hb15⟩
        have KA_17 := Lib.hid ((hb15.block _ (box_lt KA_16.out)).trans KA_16.out)
        have KW_17 := Lib.hid ((hb15.block _ (box_lt KW_16.out)).trans KW_16.out)
        have KG_17 := Lib.hid ((hb15.block _ (box_lt KG_16.out)).trans KG_16.out)
        have NW_17 := Lib.hid (NW_16.out.alike (w' := w15) fun b hb => hb15.block b (NW_16.out.lt b hb))
        have NG_17 := Lib.hid (NG_16.out.alike (w' := w15) fun b hb => hb15.block b (NG_16.out.lt b hb))
        have FR_17 := Lib.hid (FR_16.out.trans (hb15.mono FR_16.out.size))
        have s15 : w14.heap.size ≤ w15.heap.size := hb15.size
        clear h9 hb15 z0 z1 z2 z3 zl v0 v1 v2 v3 vl KA_16 KW_16 KG_16 NW_16 NG_16 FR_16
        obtain ⟨z0, z1, z2, z3⟩ := row4 KG_17.out
        have zl : w7.heap.size < w15.heap.size := box_lt KG_17.out
        have h10 := markTerm_full R HFR.out Sw7 Aw7 Bw7 cw7 dw7 1 w15 (by omega) (by omega) NG_17.out
        go_wp2_with fail
        (with_reducible refine h10.mono ?_)
        rintro e w16 ⟨rfl, ⟨S', hLm, hSm⟩, hon16⟩
        have KA_18 := Lib.hid ((hon16.block _ (box_lt KA_17.out) (fun hm => by have := HT7.out _ hm; omega)).trans KA_17.out)
        have KW_18 := Lib.hid ((hon16.block _ (box_lt KW_17.out) (fun hm => by have := HT7.out _ hm; omega)).trans KW_17.out)
        have KG_18 := Lib.hid ((hon16.block _ (box_lt KG_17.out) (fun hm => by have := HT7.out _ hm; omega)).trans KG_17.out)
        have NW_18 := Lib.hid (NW_17.out.alike (w' := w16) fun b hb => hon16.block b (NW_17.out.lt b hb) (fun hm => by have h1 := HT7.out _ hm; have h2 := HTW.out _ hb; omega))
        have FR_18 := Lib.hid (Only.below FR_17.out hon16 FR_17.out.size (fun b hb => by have := HT7.out _ hb; omega))
        have s16 : w15.heap.size ≤ w16.heap.size := hon16.size
        have NM := Lib.hid hLm
        have HTM : Hid (∀ b ∈ S', w6.heap.size + 1 ≤ b ∧ b < w7.heap.size) := Lib.hid (fun b hb => HT7.out b (hSm b hb))
        clear h10 hon16 hLm hSm z0 z1 z2 z3 zl NG_17 KA_17 KW_17 KG_17 NW_17 FR_17
        obtain ⟨z0, z1, z2, z3⟩ := row4 KG_18.out
        have zl : w7.heap.size < w16.heap.size := box_lt KG_18.out
        have tm : ¬ 1 + (mcR R : Int) < 0 := by omega
        have tq : (1 + (mcR R : Int) != 1 + (mcR R : Int)) = false := by simp
        have h11 := heldTerm_any R HFR.out Aw7 Bw7 cw7 dw7 1 w16 (by omega) (by omega) S' NM.out
        go_wp2_with fail
        (with_reducible refine h11.mono ?_)
        rintro e w17 ⟨rfl, hb17⟩
        have KA_19 := Lib.hid ((hb17.block _ (box_lt KA_18.out)).trans KA_18.out)
        have KW_19 := Lib.hid ((hb17.block _ (box_lt KW_18.out)).trans KW_18.out)
        have KG_19 := Lib.hid ((hb17.block _ (box_lt KG_18.out)).trans KG_18.out)
        have NW_19 := Lib.hid (NW_18.out.alike (w' := w17) fun b hb => hb17.block b (NW_18.out.lt b hb))
        have NM_19 := Lib.hid (NM.out.alike (w' := w17) fun b hb => hb17.block b (NM.out.lt b hb))
        have FR_19 := Lib.hid (FR_18.out.trans (hb17.mono FR_18.out.size))
        have s17 : w16.heap.size ≤ w17.heap.size := hb17.size
        clear h11 hb17 z0 z1 z2 z3 zl KA_18 KW_18 KG_18 NW_18 NM FR_18
        go_upto_region 31 with fail
        go_cut [15, 16] (fun s t wx => RegRel w17 R bb s t wx)
        case first =>
          have hdw : Below w17.heap.size w17 w17.drew := ⟨rfl, rfl, rfl, Nat.le_refl _, fun _ _ => rfl⟩
          have sd : w17.heap.size ≤ w17.drew.heap.size := hdw.size
          have hbA := (hdw.block _ (box_lt KA_19.out)).trans KA_19.out
          obtain ⟨u0, u1, u2, u3⟩ := row4 hbA
          have su : w.heap.size < w17.drew.heap.size := box_lt hbA
          have hne0 : w.heap.size ≠ w17.heap.size := Nat.ne_of_lt su
          have fr0 := FR_19.out.trans (hdw.mono FR_19.out.size)
          have hal : Below w17.heap.size w17 (w17.alloc (.cells #[.int .i64 0, .int .i64 0, .slice none 0 0, .slice none 0 0] 31)) := (Below.refl _ _).alloc (Nat.le_refl _) _
          have hbx0 : Below w17.drew.heap.size w17.drew (w17.alloc (.cells #[.int .i64 0, .int .i64 0, .slice none 0 0, .slice none 0 0] 31)).drew := ⟨hal.os, hal.tape, hal.output, hal.size, hal.block⟩
          have x0 := (hbx0.cell (p := ⟨w.heap.size, 0, none⟩) su).trans u0
          have x1 := (hbx0.cell (p := ⟨w.heap.size, 1, none⟩) su).trans u1
          have x2 := (hbx0.cell (p := ⟨w.heap.size, 2, none⟩) su).trans u2
          have x3 := (hbx0.cell (p := ⟨w.heap.size, 3, none⟩) su).trans u3
          have h0a := toPairS_any A0 c0 l0 w17.drew (HA.out.below fr0) (by omega)
          have h0b := toPairS_any A0 c0 l0 (w17.alloc (.cells #[.int .i64 0, .int .i64 0, .slice none 0 0, .slice none 0 0] 31)).drew (HA.out.below (fr0.trans (hbx0.mono fr0.size))) (by omega)
          have HDW := Lib.hid hdw
          clear hdw hbA hal
          go_region_held3 (fun w' => w'.cell? ⟨w.heap.size, 0, none⟩ = some (.int .i64 t1.op) ∧ w'.cell? ⟨w.heap.size, 1, none⟩ = some (.int .i64 t1.num) ∧ w'.cell? ⟨w.heap.size, 2, none⟩ = some (.slice A t1.perm.length c) ∧ w'.cell? ⟨w.heap.size, 3, none⟩ = some (.slice B t1.kids.length d))
            (first | ((try dsimp only); (with_reducible exact ⟨by assumption, by assumption, by assumption, by assumption⟩)) | (with_reducible exact ⟨set4_keep (by assumption) (by assumption), set4_keep (by assumption) (by assumption), set4_keep (by assumption) (by assumption), set4_keep (by assumption) (by assumption)⟩) | go_keep)
            (first
              | (go_at_call 10; (first | (with_reducible refine h0a.mono ?_) | (with_reducible refine h0b.mono ?_)); rintro e w18 ⟨vp, rfl, opp, hba0⟩; obtain ⟨Ap, cp, rfl, hpa⟩ := own_pairsAt opp; have hba : Below w17.drew.heap.size w17.drew w18 := (by first | (with_reducible exact hba0) | (with_reducible exact hbx0.trans (hba0.mono hbx0.size))); (try (have z2 : w18.heap[w17.heap.size]? = some (.cells #[.int .i64 0, .int .i64 0, .slice none 0 0, .slice none 0 0] 31) := (hba0.block w17.heap.size (by simp)).trans (heap_alloc_new w17 (.cells #[.int .i64 0, .int .i64 0, .slice none 0 0, .slice none 0 0] 31)))); have ua0 := (hba.cell (p := ⟨w.heap.size, 0, none⟩) su).trans u0; have ua1 := (hba.cell (p := ⟨w.heap.size, 1, none⟩) su).trans u1; have ua2 := (hba.cell (p := ⟨w.heap.size, 2, none⟩) su).trans u2; have ua3 := (hba.cell (p := ⟨w.heap.size, 3, none⟩) su).trans u3; have sua := Nat.lt_of_lt_of_le su hba.size; have hne1 : w.heap.size ≠ w18.heap.size := Nat.ne_of_lt sua; have fra := fr0.trans (hba.mono fr0.size); have hbx1 : Below w18.heap.size w18 (w18.alloc (.cells #[.int .i64 0, .int .i64 0, .slice none 0 0, .slice none 0 0] 31)) := (Below.refl _ _).alloc (Nat.le_refl _) _; have h1a := toTerm_any t1 HFT.out w18 _ (HX.out.below fra); have h1b := toTerm_any t1 HFT.out (w18.alloc (.cells #[.int .i64 0, .int .i64 0, .slice none 0 0, .slice none 0 0] 31)) _ (HX.out.below (fra.trans (hbx1.mono fra.size))); clear hba0 opp h0a h0b)
              | (go_at_call 11; (first | (with_reducible refine h1a.mono ?_) | (with_reducible refine h1b.mono ?_)); rintro e w19 ⟨Pb, qb, Kb, rb, Sb, rfl, hLb, hSb, hbb0⟩; have hti := tmOut_in hLb; have hbb : Below w18.heap.size w18 w19 := (by first | (with_reducible exact hbb0) | (with_reducible exact hbx1.trans (hbb0.mono hbx1.size))); (try (have z3 := (hbb.block _ (box_lt z2)).trans z2)); (try (have z3 : w19.heap[w18.heap.size]? = some (.cells #[.int .i64 0, .int .i64 0, .slice none 0 0, .slice none 0 0] 31) := (hbb0.block _ (by simp)).trans (heap_alloc_new w18 (.cells #[.int .i64 0, .int .i64 0, .slice none 0 0, .slice none 0 0] 31)))); have ub0 := (hbb.cell (p := ⟨w.heap.size, 0, none⟩) sua).trans ua0; have ub1 := (hbb.cell (p := ⟨w.heap.size, 1, none⟩) sua).trans ua1; have ub2 := (hbb.cell (p := ⟨w.heap.size, 2, none⟩) sua).trans ua2; have ub3 := (hbb.cell (p := ⟨w.heap.size, 3, none⟩) sua).trans ua3; have sub := Nat.lt_of_lt_of_le sua hbb.size; have hne2 : w.heap.size ≠ w19.heap.size := Nat.ne_of_lt sub; have hbx2 : Below w19.heap.size w19 (w19.alloc (.cells #[.int .i64 0, .int .i64 0, .slice none 0 0, .slice none 0 0] 31)) := (Below.refl _ _).alloc (Nat.le_refl _) _; have h2a := actOn_implR HRR.out HBB.out Ap cp _ w19 (hpa.below hbb) (by omega) hti HCN.out; have h2b := actOn_implR HRR.out HBB.out Ap cp _ (w19.alloc (.cells #[.int .i64 0, .int .i64 0, .slice none 0 0, .slice none 0 0] 31)) ((hpa.below hbb).below hbx2) (by omega) (hti.below hbx2) HCN.out; clear hbb0 hLb hSb hti hpa h1a h1b)
              | (go_at_call 12; (first | (with_reducible refine h2a.mono ?_) | (with_reducible refine h2b.mono ?_)); rintro e w20 ⟨Aw, cw, Bw, dw, Sw, rfl, hLw, hSw, hbc0⟩; have hbc : Below w19.heap.size w19 w20 := (by first | (with_reducible exact hbc0) | (with_reducible exact hbx2.trans (hbc0.mono hbx2.size))); (try (have z4 := (hbc.block _ (box_lt z3)).trans z3)); (try (have z4 : w20.heap[w19.heap.size]? = some (.cells #[.int .i64 0, .int .i64 0, .slice none 0 0, .slice none 0 0] 31) := (hbc0.block _ (by simp)).trans (heap_alloc_new w19 (.cells #[.int .i64 0, .int .i64 0, .slice none 0 0, .slice none 0 0] 31)))); have uc0 := (hbc.cell (p := ⟨w.heap.size, 0, none⟩) sub).trans ub0; have uc1 := (hbc.cell (p := ⟨w.heap.size, 1, none⟩) sub).trans ub1; have uc2 := (hbc.cell (p := ⟨w.heap.size, 2, none⟩) sub).trans ub2; have uc3 := (hbc.cell (p := ⟨w.heap.size, 3, none⟩) sub).trans ub3; have suc := Nat.lt_of_lt_of_le sub hbc.size; have hne3 : w.heap.size ≠ w20.heap.size := Nat.ne_of_lt suc; (try (obtain ⟨q0, q1, q2, q3⟩ := row4 z4; have y0 := frozen_of_row _ _ 0 _ _ z4; have y1 := frozen_of_row _ _ 1 _ _ z4; have y2 := frozen_of_row _ _ 2 _ _ z4; have y3 := frozen_of_row _ _ 3 _ _ z4))))
          all_goals
            have hbz := ((HDW.out.trans (hba.mono HDW.out.size)).trans (hbb.mono (Nat.le_trans sd hba.size))).trans (hbc.mono (Nat.le_trans sd (Nat.le_trans hba.size hbb.size)))
            have sza : w17.drew.heap.size ≤ w18.heap.size := hba.size
            have szb : w18.heap.size ≤ w19.heap.size := hbb.size
            go_wp2_with fail
            go_meet
            first | (with_reducible exact regRel_set z4 hLw (fun b hb => Nat.le_trans (by omega) (hSw b hb)) (fun b hb => Nat.ne_of_gt (Nat.lt_of_lt_of_le (box_lt z3) (hSw b hb))) (by omega) hbz) | (with_reducible exact regRel_set z4 hLw (fun b hb => Nat.le_trans (by simp; omega) (hSw b hb)) (fun b hb => Nat.ne_of_gt (Nat.lt_of_lt_of_le (by simp) (hSw b hb))) (by omega) hbz) | (with_reducible exact regRel_new hLw (fun b hb => Nat.le_trans (by omega) (hSw b hb)) hbz)
        case rest =>
          obtain ⟨Hg, AH, cH, BH, dH, SH, rfl, rfl, hbox, hL, hgS, hSb, hgb, hbz⟩ := hcut
          have KA_20 := Lib.hid ((hbz.block _ (box_lt KA_19.out)).trans KA_19.out)
          have KW_20 := Lib.hid ((hbz.block _ (box_lt KW_19.out)).trans KW_19.out)
          have KG_20 := Lib.hid ((hbz.block _ (box_lt KG_19.out)).trans KG_19.out)
          have NW_20 := Lib.hid (NW_19.out.alike (w' := wc) fun b hb => hbz.block b (NW_19.out.lt b hb))
          have NM_20 := Lib.hid (NM_19.out.alike (w' := wc) fun b hb => hbz.block b (NM_19.out.lt b hb))
          have FR_20 := Lib.hid (FR_19.out.trans (hbz.mono FR_19.out.size))
          have sH : w17.heap.size ≤ wc.heap.size := hbz.size
          have sgH : Hg < wc.heap.size := box_lt hbox
          have NH := Lib.hid hL
          have HTH : Hid (∀ b ∈ SH, w17.heap.size ≤ b ∧ b < wc.heap.size) := Lib.hid (fun b hb => ⟨hSb b hb, hL.lt b hb⟩)
          have KH_21 := Lib.hid hbox
          clear hbox hL hgS hSb hbz KA_19 KW_19 KG_19 NW_19 NM_19 FR_19
          obtain ⟨w20b, rfl⟩ : ∃ x : World, x = wc := ⟨_, rfl⟩
          obtain ⟨v0, v1, v2, v3⟩ := row4 KW_20.out
          have vl : Wg < w20b.heap.size := box_lt KW_20.out
          obtain ⟨z0, z1, z2, z3⟩ := row4 KG_20.out
          have zl : w7.heap.size < w20b.heap.size := box_lt KG_20.out
          obtain ⟨x0, x1, x2, x3⟩ := row4 KH_21.out
          have xl : Hg < w20b.heap.size := box_lt KH_21.out
          have h12 := eqTerm_any R HFR.out w20b _ _ (tmOut_in NH.out) (tmOut_in NW_20.out)
          go_wp2_with fail
          refine h12.mono ?_
          rintro e w21 ⟨rfl, hb21⟩
          have KA_22 := Lib.hid ((hb21.block _ (box_lt KA_20.out)).trans KA_20.out)
          have KW_22 := Lib.hid ((hb21.block _ (box_lt KW_20.out)).trans KW_20.out)
          have KG_22 := Lib.hid ((hb21.block _ (box_lt KG_20.out)).trans KG_20.out)
          have KH_22 := Lib.hid ((hb21.block _ (box_lt KH_21.out)).trans KH_21.out)
          have NW_22 := Lib.hid (NW_20.out.alike (w' := w21) fun b hb => hb21.block b (NW_20.out.lt b hb))
          have NM_22 := Lib.hid (NM_20.out.alike (w' := w21) fun b hb => hb21.block b (NM_20.out.lt b hb))
          have NH_22 := Lib.hid (NH.out.alike (w' := w21) fun b hb => hb21.block b (NH.out.lt b hb))
          have FR_22 := Lib.hid (FR_20.out.trans (hb21.mono FR_20.out.size))
          have s21 : w20b.heap.size ≤ w21.heap.size := hb21.size
          clear h12 hb21 v0 v1 v2 v3 vl z0 z1 z2 z3 zl x0 x1 x2 x3 xl KA_20 KW_20 KG_20 KH_21 NW_20 NM_20 NH FR_20
          obtain ⟨z0, z1, z2, z3⟩ := row4 KG_22.out
          have zl : w7.heap.size < w21.heap.size := box_lt KG_22.out
          have h13 := heldTerm_any R HFR.out Aw7 Bw7 cw7 dw7 1 w21 (by omega) (by omega) S' NM_22.out
          go_wp2_with fail
          (with_reducible refine h13.mono ?_)
          rintro e w22 ⟨rfl, hb22⟩
          have KA_23 := Lib.hid ((hb22.block _ (box_lt KA_22.out)).trans KA_22.out)
          have KW_23 := Lib.hid ((hb22.block _ (box_lt KW_22.out)).trans KW_22.out)
          have KG_23 := Lib.hid ((hb22.block _ (box_lt KG_22.out)).trans KG_22.out)
          have KH_23 := Lib.hid ((hb22.block _ (box_lt KH_22.out)).trans KH_22.out)
          have NW_23 := Lib.hid (NW_22.out.alike (w' := w22) fun b hb => hb22.block b (NW_22.out.lt b hb))
          have NM_23 := Lib.hid (NM_22.out.alike (w' := w22) fun b hb => hb22.block b (NM_22.out.lt b hb))
          have NH_23 := Lib.hid (NH_22.out.alike (w' := w22) fun b hb => hb22.block b (NH_22.out.lt b hb))
          have FR_23 := Lib.hid (FR_22.out.trans (hb22.mono FR_22.out.size))
          have hend := FR_23.out
          clear h13 hb22 z0 z1 z2 z3 zl KA_22 KW_22 KG_22 KH_22 NW_22 NM_22 NH_22 FR_22 KA_23 KW_23 KG_23 KH_23 NW_23 NM_23 NH_23
          go_wp2
          go_ret
          exact ⟨rfl, hend⟩
    · rw [leftR_no hn1] at hsz
      go_enter Try.func3, Try.ntmps3
      go_wp2_with fail
      refine hsz0.mono ?_
      rintro e w' ⟨rfl, rfl⟩
      clear hsz0
      go_wp2_with fail
      refine hsz.mono ?_
      rintro e w1 ⟨rfl, hb1⟩
      have hs1 := hb0.trans (hb1.mono hb0.size)
      clear hsz hb0 hb1
      go_wp2
      go_ret
      exact ⟨rfl, hs1⟩
  · have hsz0 := sz_no A0 l0.length c0 1048576 (w.alloc (.cells #[.int .i64 t1.op, .int .i64 t1.num, .slice A t1.perm.length c, .slice B t1.kids.length d] 25)) (by omega) (by omega) (by omega) (by omega)
    clear hx1 hsh
    go_enter Try.func3, Try.ntmps3
    go_wp2_with fail
    refine hsz0.mono ?_
    rintro e w' ⟨rfl, rfl⟩
    clear hsz0
    go_wp2
    go_ret
    exact ⟨rfl, hb0⟩

set_option maxRecDepth 100000 in
theorem lifted (os : Os) (started : os.Started) (H : Type) (enc : TypeId × Value → H) :
    ReturnsInHanded {} Try.checked os 3 .any (Rows.fnExactActOnSpec.pre6 enc Try.prog Try.f3 Rows.fnExactActOnRow.domain false) (Rows.fnExactActOnSpec.post enc Try.prog Try.f3 false true false false) := by
  refine returnsInHanded_of_change (C := Try.checked) own started (by kernel_rfl) Try.func3
    (ChangeSpec.witness6 (enc := enc) (C := Try.checked) false ⟨#[], #[.slice none 0 0, .agg #[.int .i64 0, .int .i64 0, .slice none 0 0, .slice none 0 0]], []⟩ 8 (by kernel_rfl) (by kernel_rfl) (by kernel_rfl) (by kernel_rfl)) ?_
  intro W base args ds gs before hval0 hW hcnd _
  have hval : ∀ (j : Nat) t v, Try.f3.params[j]? = some t → args[j]? = some v → Value.okWide Try.prog W .any base t v := hval0
  have hW' := hW
  obtain ⟨p, q, hA0, hV, rfl, hfz, hnd⟩ := hW
  have hA : DataW.TrodAll enc Try.prog W 0 (fun _ => true) true Try.f3.params.toList args.toList ds p := hA0
  rw [Try.params3] at hA hval
  obtain ⟨v0, vs0, d0, ds0, p0, q0, hargs, rfl, rfl, h0, r0⟩ := trodAll_cons hA
  obtain ⟨v1, vs1, d1, ds1, p1, q1, rfl, rfl, rfl, h1, r1⟩ := trodAll_cons r0
  obtain ⟨rfl, rfl, rfl⟩ := trodAll_nil r1
  obtain rfl : args = #[v0, v1] := by cases args; simp_all
  obtain ⟨rfl, rfl⟩ := trodVars_none hV
  have k0 := h0
  have lt0 : ∀ x ∈ p0, x.block < W.heap.size := by obtain ⟨m, hm⟩ := k0; exact DataW.trod_lt m _ _ _ hm
  have k1 := h1
  have lt1 : ∀ x ∈ p1, x.block < W.heap.size := by obtain ⟨m, hm⟩ := k1; exact DataW.trod_lt m _ _ _ hm
  obtain ⟨A0, n0, c0, rfl⟩ := okWide_slice Try.underlying22 (hval 0 22 v0 rfl rfl)
  obtain ⟨l0, rfl, w0, m0⟩ := open_pairs h0
  obtain ⟨t1, tx1, ts1⟩ := open_term (hval 1 25 v1 rfl rfl) h1
  clear hA0 hval0
  refine (walk W A0 c0 l0 w0 m0 v1 t1 tx1 ts1).mono fun e W' ⟨he, bel⟩ => ?_
  subst he
  exact ⟨_, rfl, _, _, _, [], _, [], hW', trodAll_mk1 (shut_bool Try.underlying4 _), (trodAll_cons_mk (Below.trod laidOut (by kernel_rfl) (of_decide_eq_true (by kernel_rfl)) k0 bel lt0) (trodAll_cons_mk (Below.trod laidOut (by kernel_rfl) (of_decide_eq_true (by kernel_rfl)) k1 bel lt1) trodAll_mk0)), rfl, bel.frame _, fun h => by cases h⟩

theorem over : Rows.fnExactActOnRow.holds Try.pinned (OpenSpec.ofChange Rows.fnExactActOnSpec) :=
  OpenClaim.holds_of_wide 3 Try.f3 rfl rfl rfl rfl rfl rfl rfl ⟨rfl, rfl, rfl, rfl, rfl⟩ rfl rfl rfl rfl rfl (by kernel_rfl) Try.func3 (by kernel_rfl)
    (of_decide_eq_true (by kernel_rfl)) (by unfold Func.isWrapper; first | (rw [if_pos (by decide +kernel)]; kernel_rfl) | (rw [if_neg (by decide +kernel)]; exact ⟨rfl, rfl⟩))
    (fun os started H enc _ => lifted os started H enc)

theorem proved : Rows.FnExactActOnSaid := over
#print axioms proved
end Go.Proofs.Ytbfkfklaplgebaa.fnExactActOn
