/-
  What a machine does with a word, in the program, as contracts.
-/
import Derived.Test.YthacnbeckhdhiaaKComplement6
import Derived.Test.YthacnbeckhdhiaaKComplement8
import Derived.Deep.DeepCutAuto
import Derived.Deep.RegionHeld3
namespace Go.Proofs.Ythacnbeckhdhiaa
open Go.RowKit Go.Sort
set_option linter.unusedVariables false

namespace MvR
theorem box_lt {w : World} {g : Nat} {o : Obj} (h : w.heap[g]? = some o) : g < w.heap.size := (Array.getElem?_eq_some_iff.1 h).1
theorem row2 {w : World} {g : Nat} {a b : Value} {T : TypeId} (h : w.heap[g]? = some (.cells #[a, b] T (0, 0))) : w.cell? ⟨g, 0, none⟩ = some a ∧ w.cell? ⟨g, 1, none⟩ = some b := by
  refine ⟨?_, ?_⟩ <;> rw [cell_of_row w g _ _ _ _ h] <;> rfl
/-- A pointer to a box that holds a move, and the world that has grown. -/
def Rel (w0 : World) (m : Int × Int) (s : Value) (wx : World) : Prop :=
  ∃ g, s = .pointer (some ⟨g, 0, none⟩) ∧ wx.heap[g]? = some (.cells #[.int .i64 m.1, .int .i64 m.2] 45 (0, 0)) ∧ w0.heap.size ≤ g ∧ Below w0.heap.size w0 wx
theorem rel_set {w0 w4 : World} {g : Nat} {m : Int × Int} (hz : w4.heap[g]? = some (.cells #[.int .i64 0, .int .i64 0] 45)) (hg : w0.heap.size ≤ g) (hb : Below w0.heap.size w0 w4) :
    Rel w0 m (.pointer (some ⟨g, 0, none⟩)) ((w4.setCell ⟨g, 0, none⟩ (.int .i64 m.1)).setCell ⟨g, 1, none⟩ (.int .i64 m.2)) := by
  have h1 := heap_setCell_same w4 g 0 _ _ (.int .i64 m.1) hz
  have h2 := heap_setCell_same _ g 1 _ _ (.int .i64 m.2) h1
  exact ⟨g, rfl, h2, hg, (hb.setCell (p := ⟨g, 0, none⟩) hg _).setCell (p := ⟨g, 1, none⟩) hg _⟩
theorem rel_new {w0 w4 : World} {m : Int × Int} (hb : Below w0.heap.size w0 w4) :
    Rel w0 m (.pointer (some ⟨w4.heap.size, 0, none⟩)) (w4.alloc (.cells #[.int .i64 m.1, .int .i64 m.2] 45)) :=
  ⟨w4.heap.size, rfl, heap_alloc_new _ _, hb.size, hb.alloc hb.size _⟩
theorem rel_drew {w0 : World} {m : Int × Int} :
    Rel w0 m (.pointer (some ⟨w0.heap.size, 0, none⟩)) (w0.alloc (.cells #[.int .i64 m.1, .int .i64 m.2] 45)).drew := by
  have h : Below w0.heap.size w0 (w0.alloc (.cells #[.int .i64 m.1, .int .i64 m.2] 45)) := (Below.refl _ _).alloc (Nat.le_refl _) _
  exact ⟨w0.heap.size, rfl, heap_alloc_new w0 _, Nat.le_refl _, ⟨h.os, h.tape, h.output, h.size, h.block⟩⟩
end MvR

set_option maxRecDepth 100000 in
set_option maxHeartbeats 2000000 in
theorem setHolding_any (A : Option Addr) (c : Nat) (rs : List Int) (a : Int) (w : World) (hA : IntsAt w A rs) (hl : rs.length ≤ 6) :
    Calls Try.prog 38 #[.slice A rs.length c, .int .i64 a] w fun e w' => e = .returned (.int .i64 (setN rs a)) ∧ w = w' := by
  go_enter Try.func38, Try.ntmps38
  go_wp2
  go_loop [5, 6, 7, 10] (fun s _ _ i => ∃ k : Nat, k ≤ rs.length ∧ i = .int .i64 k ∧ s = .int .i64 (setN (rs.take k) a)) (fun _ _ _ i => rs.length - (intOf i).toNat)
  case atStart => exact ⟨0, Nat.zero_le _, rfl, rfl⟩
  case round =>
    obtain ⟨k, hk, rfl, rfl⟩ := hrel
    by_cases hlt : k < rs.length
    · obtain ⟨b1, o1, rfl, hb1, hc1⟩ := hA (by omega)
      have c1 := hc1 k hlt
      have hnx := Lib.hid (setN_take a hlt)
      have hb := setN_bound a (rs.take k)
      rw [List.length_take, Nat.min_eq_left (by omega)] at hb
      generalize itAt rs k = y at c1 hnx
      generalize setN (rs.take k) a = s at hb hnx
      clear hc1 hA
      have h6 : k = 0 ∨ k = 1 ∨ k = 2 ∨ k = 3 ∨ k = 4 ∨ k = 5 := by omega
      by_cases he : y = a
      · have hn : Hid (setN (rs.take (k + 1)) a = s + ((2 ^ k : Nat) : Int)) := Lib.hid (by rw [hnx.out, if_pos he])
        subst he
        clear hnx
        rcases h6 with rfl | rfl | rfl | rfl | rfl | rfl
        all_goals
          have hb2 : s < 64 := by have := hb.2; simp at this; omega
          have hb0 := hb.1
          clear hb
          (try rw [Nat.add_zero] at c1)
          go_wp2
          refine ⟨⟨_, hlt, by go_num, by rw [hn.out]; rfl⟩, ?_⟩
          simp [intOf]
          omega
      · have hn : Hid (setN (rs.take (k + 1)) a = s) := Lib.hid (by rw [hnx.out, if_neg he]; omega)
        have hq : (y == a) = false := by simp [he]
        clear hnx hb h6 he
        go_wp2
        refine ⟨⟨k + 1, by omega, by go_num, by rw [hn.out]⟩, ?_⟩
        simp only [intOf]
        omega
    · have e : k = rs.length := by omega
      subst e
      clear hA
      go_wp2
      go_ret
      first | exact ⟨rfl, rfl⟩ | exact ⟨by rw [List.take_length], rfl⟩

set_option maxRecDepth 100000 in
set_option maxHeartbeats 4000000 in
theorem readLetter_any (t : Mach) (g : Good t) (x : Value) (q a : Int) (rs : List Int) (base : Nat) (v : Value) (w : World) (hx : MachIx w x t) (hq0 : 0 ≤ q) (hq1 : q < t.st) (hl : rs.length = t.rg.toNat)
    (hown : w.ownsRow base 3 1 v rs.length (icells rs)) :
    Calls Try.prog 31 #[x, .int .i64 q, v, .int .i64 a] w fun e w' => e = .returned (.int .i64 (mvOf t q rs a).1) ∧ w'.ownsRow base 3 1 v rs.length (icells (stored rs (mvOf t q rs a).2 a)) ∧ w.grownBy w' v.ownBlock := by
  obtain ⟨A, c, B, d, rfl, hA, hB, _⟩ := hx
  obtain ⟨V, cv, rfl, hV⟩ := own_intsAt hown
  obtain ⟨hix, hs0, hs1, hs2⟩ := g.ix (a := a) hq0 hq1 hl
  have hmo := g.move (a := a) hq0 hq1 hl
  have hmp : 0 < t.mv.length := by omega
  obtain ⟨b1, o1, rfl, hb1, hc1⟩ := hB hmp
  obtain ⟨e0, e1⟩ := hc1 _ hix
  have hr3 := g.r3
  have hr0 := g.r0
  have hs9 := g.s9
  have hmle : t.mv.length ≤ 100 := by have := g.ml; rcases casZ_of g.r0 g.r3 with ⟨_, h⟩ | ⟨_, h⟩ | ⟨_, h⟩ | ⟨_, h⟩ <;> rw [h] at this <;> omega
  have hl3 : rs.length ≤ 3 := by omega
  obtain ⟨W, hW⟩ : ∃ W, W = w.alloc (.cells #[.int .i64 t.st, .int .i64 t.rg, .slice A t.ac.length c, .slice (some ⟨b1, o1, none⟩) t.mv.length d] 27) := ⟨_, rfl⟩
  have hbW : Below w.heap.size w W := by rw [hW]; exact (Below.refl _ _).alloc (Nat.le_refl _) _
  have hkW := heap_alloc_new w (.cells #[.int .i64 t.st, .int .i64 t.rg, .slice A t.ac.length c, .slice (some ⟨b1, o1, none⟩) t.mv.length d] 27)
  rw [← hW] at hkW
  have hset := fun (W' : World) (h : Below w.heap.size w W') => setHolding_any V cv rs a W' (hV.below h) (by omega)
  have hm : Hid (mvOf t q rs a = prAt t.mv (q * casZ t.rg + setN rs a).toNat) := Lib.hid rfl
  unfold mvIx at e0 e1 hix
  generalize mvOf t q rs a = m at *
  rw [← hm.out] at e0 e1
  clear hm hc1
  generalize setN rs a = sn at *
  have hcz := casZ_of g.r0 g.r3
  generalize casZ t.rg = cz at *
  obtain ⟨m1, m2⟩ := m
  dsimp only at *
  have hpost1 := Lib.hid (show ¬ 0 ≤ m2 → stored rs m2 a = rs from fun h => if_neg h)
  have hpost2 := Lib.hid (show 0 ≤ m2 → stored rs m2 a = rs.set m2.toNat a from fun h => if_pos h)
  obtain ⟨st, rg, ac, mv⟩ := t
  dsimp only at *
  clear hA hB g
  generalize ac.length = la at *
  generalize mv.length = lm at *
  generalize stored rs m2 a = rs2 at *
  have HLN := Lib.hid hl
  obtain ⟨ln, hln⟩ : ∃ n : Nat, n = rs.length := ⟨_, rfl⟩
  have HLL := Lib.hid hln
  rw [← hln] at hset hown hl3 ⊢
  clear hl hln
  have HOWN := Lib.hid hown
  have HV := Lib.hid hV
  obtain ⟨d0, d1, d2, d3⟩ := MachK.row4 hkW
  rw [← hbW.cell (p := ⟨b1, _, none⟩) hb1] at e0 e1
  have hlt0 : w.heap.size < W.heap.size := MachK.box_lt hkW
  have hlt1 : b1 < W.heap.size := by omega
  have HCC : Hid (∀ w' : World, Below W.heap.size W w' → w'.cell? ⟨w.heap.size, 1, none⟩ = some (.int .i64 rg) ∧ w'.cell? ⟨w.heap.size, 3, none⟩ = some (.slice (some ⟨b1, o1, none⟩) lm d) ∧ w'.cell? ⟨b1, o1 + (q * cz + sn).toNat * 2, none⟩ = some (.int .i64 m1) ∧ w'.cell? ⟨b1, o1 + (q * cz + sn).toNat * 2 + 1, none⟩ = some (.int .i64 m2)) :=
    Lib.hid fun w' h => ⟨(h.cell (p := ⟨w.heap.size, 1, none⟩) hlt0).trans d1, (h.cell (p := ⟨w.heap.size, 3, none⟩) hlt0).trans d3, (h.cell (p := ⟨b1, _, none⟩) hlt1).trans e0, (h.cell (p := ⟨b1, _, none⟩) hlt1).trans e1⟩
  have HW := Lib.hid hW
  have HBW := Lib.hid hbW
  clear hown hV d0 d1 d2 d3 e0 e1 hkW hW hbW
  rcases hcz with ⟨rfl, rfl⟩ | ⟨rfl, rfl⟩ | ⟨rfl, rfl⟩ | ⟨rfl, rfl⟩
  · simp only [Int.mul_one] at HCC hix hs0 hs2
    have hwr1 : IntKind.i64.wrap (q) = q := IntWalk.i64_in _ (by omega)
    have hwr2 : IntKind.i64.wrap (q + sn) = q + sn := IntWalk.i64_in _ (by omega)
    have hbI : q + sn < (lm : Int) := by omega
    have hbJ : ¬ q + sn < 0 := by omega
    go_enter Try.func31, Try.ntmps31
    go_upto_region 1 with fail
    rw [← HW.out]
    go_cut [9] (fun s wx => MvR.Rel W (m1, m2) s wx)
    case first =>
      have hdw : Below W.heap.size W W.drew := ⟨rfl, rfl, rfl, Nat.le_refl _, fun _ _ => rfl⟩
      have hal : Below W.heap.size W (W.alloc (.cells #[.int .i64 0, .int .i64 0] 45)).drew := by
        have h : Below W.heap.size W (W.alloc (.cells #[.int .i64 0, .int .i64 0] 45)) := (Below.refl _ _).alloc (Nat.le_refl _) _
        exact ⟨h.os, h.tape, h.output, h.size, h.block⟩
      obtain ⟨u1, u2, u3, u4⟩ := HCC.out W.drew hdw
      obtain ⟨v1, v2, v3, v4⟩ := HCC.out (W.alloc (.cells #[.int .i64 0, .int .i64 0] 45)).drew hal
      have hal2 : Below W.heap.size W (W.alloc (.cells #[.int .i64 m1, .int .i64 m2] 45)).drew := by
        have h : Below W.heap.size W (W.alloc (.cells #[.int .i64 m1, .int .i64 m2] 45)) := (Below.refl _ _).alloc (Nat.le_refl _) _
        exact ⟨h.os, h.tape, h.output, h.size, h.block⟩
      obtain ⟨x1, x2, x3, x4⟩ := HCC.out (W.alloc (.cells #[.int .i64 m1, .int .i64 m2] 45)).drew hal2
      have h0a := hset W.drew (HBW.out.trans (hdw.mono HBW.out.size))
      have h0b := hset (W.alloc (.cells #[.int .i64 0, .int .i64 0] 45)).drew (HBW.out.trans (hal.mono HBW.out.size))
      clear hset
      go_region_held3 (fun w' => w'.cell? ⟨w.heap.size, 1, none⟩ = some (.int .i64 0) ∧ w'.cell? ⟨w.heap.size, 3, none⟩ = some (.slice (some ⟨b1, o1, none⟩) lm d) ∧ w'.cell? ⟨b1, o1 + (q + sn).toNat * 2, none⟩ = some (.int .i64 m1) ∧ w'.cell? ⟨b1, o1 + (q + sn).toNat * 2 + 1, none⟩ = some (.int .i64 m2))
        (first | (with_reducible exact ⟨by assumption, by assumption, by assumption, by assumption⟩) | ((try dsimp only); exact ⟨by assumption, by assumption, by assumption, by assumption⟩) | go_keep)
        (first
          | (go_at_call 38; (first | (with_reducible refine h0a.mono ?_) | (with_reducible refine h0b.mono ?_)); rintro e w9 ⟨rfl, rfl⟩)
          | fail)
      all_goals
        go_wp2_with fail
        go_meet
        exact MvR.rel_drew (m := (m1, m2))
    case rest =>
      obtain ⟨gm, rfl, hgm, hge, hbm⟩ := hcut
      obtain ⟨c0, c1⟩ := MvR.row2 hgm
      dsimp only at c0 c1
      have hbw := HBW.out.trans (hbm.mono HBW.out.size)
      have hown2 := own_below HOWN.out hbw
      have hgr := grown_of_below hbw (Value.slice V ln cv).ownBlock
      have HGR := Lib.hid hgr
      have HHB := Lib.hid hbw
      have hgml : gm < wc.heap.size := MvR.box_lt hgm
      have HGE : Hid (w.heap.size ≤ gm) := Lib.hid (Nat.le_trans HBW.out.size hge)
      have HGW := Lib.hid (fun k (e : (Value.slice V ln cv).ownBlock = some k) => (HOWN.out.lt k e).2)
      clear hgm hge hbm hset HCC hgr hbw HOWN hwr1 hwr2 hbI hbJ
      by_cases hm0 : 0 ≤ m2
      · exfalso; omega
      · have em : m2 = -1 := by omega
        subst em
        have HP := Lib.hid (hpost1.out (by omega))
        have HFIN := Lib.hid (show wc.ownsRow base 3 1 (.slice V ln cv) ln (icells rs2) ∧ w.grownBy wc (Value.slice V ln cv).ownBlock from ⟨by rw [HP.out]; exact hown2, HGR.out⟩)
        clear hown2 hpost1 hpost2 HV HGR
        go_wp2
        go_ret
        exact ⟨rfl, HFIN.out⟩
  · skip
    have hwr1 : IntKind.i64.wrap (q * 2) = q * 2 := IntWalk.i64_in _ (by omega)
    have hwr2 : IntKind.i64.wrap (q * 2 + sn) = q * 2 + sn := IntWalk.i64_in _ (by omega)
    have hbI : q * 2 + sn < (lm : Int) := by omega
    have hbJ : ¬ q * 2 + sn < 0 := by omega
    go_enter Try.func31, Try.ntmps31
    go_upto_region 1 with fail
    rw [← HW.out]
    go_cut [9] (fun s wx => MvR.Rel W (m1, m2) s wx)
    case first =>
      have hdw : Below W.heap.size W W.drew := ⟨rfl, rfl, rfl, Nat.le_refl _, fun _ _ => rfl⟩
      have hal : Below W.heap.size W (W.alloc (.cells #[.int .i64 0, .int .i64 0] 45)).drew := by
        have h : Below W.heap.size W (W.alloc (.cells #[.int .i64 0, .int .i64 0] 45)) := (Below.refl _ _).alloc (Nat.le_refl _) _
        exact ⟨h.os, h.tape, h.output, h.size, h.block⟩
      obtain ⟨u1, u2, u3, u4⟩ := HCC.out W.drew hdw
      obtain ⟨v1, v2, v3, v4⟩ := HCC.out (W.alloc (.cells #[.int .i64 0, .int .i64 0] 45)).drew hal
      have hal2 : Below W.heap.size W (W.alloc (.cells #[.int .i64 m1, .int .i64 m2] 45)).drew := by
        have h : Below W.heap.size W (W.alloc (.cells #[.int .i64 m1, .int .i64 m2] 45)) := (Below.refl _ _).alloc (Nat.le_refl _) _
        exact ⟨h.os, h.tape, h.output, h.size, h.block⟩
      obtain ⟨x1, x2, x3, x4⟩ := HCC.out (W.alloc (.cells #[.int .i64 m1, .int .i64 m2] 45)).drew hal2
      have h0a := hset W.drew (HBW.out.trans (hdw.mono HBW.out.size))
      have h0b := hset (W.alloc (.cells #[.int .i64 0, .int .i64 0] 45)).drew (HBW.out.trans (hal.mono HBW.out.size))
      clear hset
      go_region_held3 (fun w' => w'.cell? ⟨w.heap.size, 1, none⟩ = some (.int .i64 1) ∧ w'.cell? ⟨w.heap.size, 3, none⟩ = some (.slice (some ⟨b1, o1, none⟩) lm d) ∧ w'.cell? ⟨b1, o1 + (q * 2 + sn).toNat * 2, none⟩ = some (.int .i64 m1) ∧ w'.cell? ⟨b1, o1 + (q * 2 + sn).toNat * 2 + 1, none⟩ = some (.int .i64 m2))
        (first | (with_reducible exact ⟨by assumption, by assumption, by assumption, by assumption⟩) | ((try dsimp only); exact ⟨by assumption, by assumption, by assumption, by assumption⟩) | go_keep)
        (first
          | (go_at_call 38; (first | (with_reducible refine h0a.mono ?_) | (with_reducible refine h0b.mono ?_)); rintro e w9 ⟨rfl, rfl⟩)
          | fail)
      all_goals
        go_wp2_with fail
        go_meet
        exact MvR.rel_drew (m := (m1, m2))
    case rest =>
      obtain ⟨gm, rfl, hgm, hge, hbm⟩ := hcut
      obtain ⟨c0, c1⟩ := MvR.row2 hgm
      dsimp only at c0 c1
      have hbw := HBW.out.trans (hbm.mono HBW.out.size)
      have hown2 := own_below HOWN.out hbw
      have hgr := grown_of_below hbw (Value.slice V ln cv).ownBlock
      have HGR := Lib.hid hgr
      have HHB := Lib.hid hbw
      have hgml : gm < wc.heap.size := MvR.box_lt hgm
      have HGE : Hid (w.heap.size ≤ gm) := Lib.hid (Nat.le_trans HBW.out.size hge)
      have HGW := Lib.hid (fun k (e : (Value.slice V ln cv).ownBlock = some k) => (HOWN.out.lt k e).2)
      clear hgm hge hbm hset HCC hgr hbw HOWN hwr1 hwr2 hbI hbJ
      by_cases hm0 : 0 ≤ m2
      · obtain ⟨j, rfl⟩ : ∃ j : Nat, m2 = j := ⟨m2.toNat, by omega⟩
        have hP := hpost2.out hm0
        rw [Int.toNat_natCast] at hP
        have HP := Lib.hid hP
        have hne : ((j : Int) != -1) = true := by simp only [bne_iff_ne]; omega
        have hjl : j < ln := by have := HLN.out; have := HLL.out; omega
        rcases hown2.2 with ⟨e9, h9⟩ | ⟨gr, cap, cur, e9, _⟩
        · omega
        · injection e9 with e91 _ e93
          subst e91; subst e93
          have k0 := (hown2.cellAt j (by omega)).trans (icells_at rs j (by have := HLL.out; omega))
          have k1 := hown2.frozenAt j
          have hgrl : gr < wc.heap.size := (hown2.lt gr rfl).2
          obtain ⟨ho3, hg3⟩ := hown2.stored j (.int .i64 a)
          have HFIN := Lib.hid (show (wc.setCell ⟨gr, j, none⟩ (.int .i64 a)).ownsRow base 3 1 (.slice (some ⟨gr, 0, none⟩) ln cv) ln (icells rs2) ∧ w.grownBy (wc.setCell ⟨gr, j, none⟩ (.int .i64 a)) (Value.slice (some ⟨gr, 0, none⟩) ln cv).ownBlock from ⟨by rw [HP.out]; unfold icells; rw [List.map_set]; exact ho3, grownBy_trans HGR.out hg3⟩)
          have hgne : gm ≠ gr := fun e => by have h1 := HGW.out gr rfl; have h2 := HGE.out; omega
          clear ho3 hg3 hown2 hpost1 hpost2 hP HV HGR
          go_wp2
          go_ret
          exact ⟨rfl, HFIN.out⟩
      · have em : m2 = -1 := by omega
        subst em
        have HP := Lib.hid (hpost1.out (by omega))
        have HFIN := Lib.hid (show wc.ownsRow base 3 1 (.slice V ln cv) ln (icells rs2) ∧ w.grownBy wc (Value.slice V ln cv).ownBlock from ⟨by rw [HP.out]; exact hown2, HGR.out⟩)
        clear hown2 hpost1 hpost2 HV HGR
        go_wp2
        go_ret
        exact ⟨rfl, HFIN.out⟩
  · skip
    have hwr1 : IntKind.i64.wrap (q * 4) = q * 4 := IntWalk.i64_in _ (by omega)
    have hwr2 : IntKind.i64.wrap (q * 4 + sn) = q * 4 + sn := IntWalk.i64_in _ (by omega)
    have hbI : q * 4 + sn < (lm : Int) := by omega
    have hbJ : ¬ q * 4 + sn < 0 := by omega
    go_enter Try.func31, Try.ntmps31
    go_upto_region 1 with fail
    rw [← HW.out]
    go_cut [9] (fun s wx => MvR.Rel W (m1, m2) s wx)
    case first =>
      have hdw : Below W.heap.size W W.drew := ⟨rfl, rfl, rfl, Nat.le_refl _, fun _ _ => rfl⟩
      have hal : Below W.heap.size W (W.alloc (.cells #[.int .i64 0, .int .i64 0] 45)).drew := by
        have h : Below W.heap.size W (W.alloc (.cells #[.int .i64 0, .int .i64 0] 45)) := (Below.refl _ _).alloc (Nat.le_refl _) _
        exact ⟨h.os, h.tape, h.output, h.size, h.block⟩
      obtain ⟨u1, u2, u3, u4⟩ := HCC.out W.drew hdw
      obtain ⟨v1, v2, v3, v4⟩ := HCC.out (W.alloc (.cells #[.int .i64 0, .int .i64 0] 45)).drew hal
      have hal2 : Below W.heap.size W (W.alloc (.cells #[.int .i64 m1, .int .i64 m2] 45)).drew := by
        have h : Below W.heap.size W (W.alloc (.cells #[.int .i64 m1, .int .i64 m2] 45)) := (Below.refl _ _).alloc (Nat.le_refl _) _
        exact ⟨h.os, h.tape, h.output, h.size, h.block⟩
      obtain ⟨x1, x2, x3, x4⟩ := HCC.out (W.alloc (.cells #[.int .i64 m1, .int .i64 m2] 45)).drew hal2
      have h0a := hset W.drew (HBW.out.trans (hdw.mono HBW.out.size))
      have h0b := hset (W.alloc (.cells #[.int .i64 0, .int .i64 0] 45)).drew (HBW.out.trans (hal.mono HBW.out.size))
      clear hset
      go_region_held3 (fun w' => w'.cell? ⟨w.heap.size, 1, none⟩ = some (.int .i64 2) ∧ w'.cell? ⟨w.heap.size, 3, none⟩ = some (.slice (some ⟨b1, o1, none⟩) lm d) ∧ w'.cell? ⟨b1, o1 + (q * 4 + sn).toNat * 2, none⟩ = some (.int .i64 m1) ∧ w'.cell? ⟨b1, o1 + (q * 4 + sn).toNat * 2 + 1, none⟩ = some (.int .i64 m2))
        (first | (with_reducible exact ⟨by assumption, by assumption, by assumption, by assumption⟩) | ((try dsimp only); exact ⟨by assumption, by assumption, by assumption, by assumption⟩) | go_keep)
        (first
          | (go_at_call 38; (first | (with_reducible refine h0a.mono ?_) | (with_reducible refine h0b.mono ?_)); rintro e w9 ⟨rfl, rfl⟩)
          | fail)
      all_goals
        go_wp2_with fail
        go_meet
        exact MvR.rel_drew (m := (m1, m2))
    case rest =>
      obtain ⟨gm, rfl, hgm, hge, hbm⟩ := hcut
      obtain ⟨c0, c1⟩ := MvR.row2 hgm
      dsimp only at c0 c1
      have hbw := HBW.out.trans (hbm.mono HBW.out.size)
      have hown2 := own_below HOWN.out hbw
      have hgr := grown_of_below hbw (Value.slice V ln cv).ownBlock
      have HGR := Lib.hid hgr
      have HHB := Lib.hid hbw
      have hgml : gm < wc.heap.size := MvR.box_lt hgm
      have HGE : Hid (w.heap.size ≤ gm) := Lib.hid (Nat.le_trans HBW.out.size hge)
      have HGW := Lib.hid (fun k (e : (Value.slice V ln cv).ownBlock = some k) => (HOWN.out.lt k e).2)
      clear hgm hge hbm hset HCC hgr hbw HOWN hwr1 hwr2 hbI hbJ
      by_cases hm0 : 0 ≤ m2
      · obtain ⟨j, rfl⟩ : ∃ j : Nat, m2 = j := ⟨m2.toNat, by omega⟩
        have hP := hpost2.out hm0
        rw [Int.toNat_natCast] at hP
        have HP := Lib.hid hP
        have hne : ((j : Int) != -1) = true := by simp only [bne_iff_ne]; omega
        have hjl : j < ln := by have := HLN.out; have := HLL.out; omega
        rcases hown2.2 with ⟨e9, h9⟩ | ⟨gr, cap, cur, e9, _⟩
        · omega
        · injection e9 with e91 _ e93
          subst e91; subst e93
          have k0 := (hown2.cellAt j (by omega)).trans (icells_at rs j (by have := HLL.out; omega))
          have k1 := hown2.frozenAt j
          have hgrl : gr < wc.heap.size := (hown2.lt gr rfl).2
          obtain ⟨ho3, hg3⟩ := hown2.stored j (.int .i64 a)
          have HFIN := Lib.hid (show (wc.setCell ⟨gr, j, none⟩ (.int .i64 a)).ownsRow base 3 1 (.slice (some ⟨gr, 0, none⟩) ln cv) ln (icells rs2) ∧ w.grownBy (wc.setCell ⟨gr, j, none⟩ (.int .i64 a)) (Value.slice (some ⟨gr, 0, none⟩) ln cv).ownBlock from ⟨by rw [HP.out]; unfold icells; rw [List.map_set]; exact ho3, grownBy_trans HGR.out hg3⟩)
          have hgne : gm ≠ gr := fun e => by have h1 := HGW.out gr rfl; have h2 := HGE.out; omega
          clear ho3 hg3 hown2 hpost1 hpost2 hP HV HGR
          go_wp2
          go_ret
          exact ⟨rfl, HFIN.out⟩
      · have em : m2 = -1 := by omega
        subst em
        have HP := Lib.hid (hpost1.out (by omega))
        have HFIN := Lib.hid (show wc.ownsRow base 3 1 (.slice V ln cv) ln (icells rs2) ∧ w.grownBy wc (Value.slice V ln cv).ownBlock from ⟨by rw [HP.out]; exact hown2, HGR.out⟩)
        clear hown2 hpost1 hpost2 HV HGR
        go_wp2
        go_ret
        exact ⟨rfl, HFIN.out⟩
  · skip
    have hwr1 : IntKind.i64.wrap (q * 8) = q * 8 := IntWalk.i64_in _ (by omega)
    have hwr2 : IntKind.i64.wrap (q * 8 + sn) = q * 8 + sn := IntWalk.i64_in _ (by omega)
    have hbI : q * 8 + sn < (lm : Int) := by omega
    have hbJ : ¬ q * 8 + sn < 0 := by omega
    go_enter Try.func31, Try.ntmps31
    go_upto_region 1 with fail
    rw [← HW.out]
    go_cut [9] (fun s wx => MvR.Rel W (m1, m2) s wx)
    case first =>
      have hdw : Below W.heap.size W W.drew := ⟨rfl, rfl, rfl, Nat.le_refl _, fun _ _ => rfl⟩
      have hal : Below W.heap.size W (W.alloc (.cells #[.int .i64 0, .int .i64 0] 45)).drew := by
        have h : Below W.heap.size W (W.alloc (.cells #[.int .i64 0, .int .i64 0] 45)) := (Below.refl _ _).alloc (Nat.le_refl _) _
        exact ⟨h.os, h.tape, h.output, h.size, h.block⟩
      obtain ⟨u1, u2, u3, u4⟩ := HCC.out W.drew hdw
      obtain ⟨v1, v2, v3, v4⟩ := HCC.out (W.alloc (.cells #[.int .i64 0, .int .i64 0] 45)).drew hal
      have hal2 : Below W.heap.size W (W.alloc (.cells #[.int .i64 m1, .int .i64 m2] 45)).drew := by
        have h : Below W.heap.size W (W.alloc (.cells #[.int .i64 m1, .int .i64 m2] 45)) := (Below.refl _ _).alloc (Nat.le_refl _) _
        exact ⟨h.os, h.tape, h.output, h.size, h.block⟩
      obtain ⟨x1, x2, x3, x4⟩ := HCC.out (W.alloc (.cells #[.int .i64 m1, .int .i64 m2] 45)).drew hal2
      have h0a := hset W.drew (HBW.out.trans (hdw.mono HBW.out.size))
      have h0b := hset (W.alloc (.cells #[.int .i64 0, .int .i64 0] 45)).drew (HBW.out.trans (hal.mono HBW.out.size))
      clear hset
      go_region_held3 (fun w' => w'.cell? ⟨w.heap.size, 1, none⟩ = some (.int .i64 3) ∧ w'.cell? ⟨w.heap.size, 3, none⟩ = some (.slice (some ⟨b1, o1, none⟩) lm d) ∧ w'.cell? ⟨b1, o1 + (q * 8 + sn).toNat * 2, none⟩ = some (.int .i64 m1) ∧ w'.cell? ⟨b1, o1 + (q * 8 + sn).toNat * 2 + 1, none⟩ = some (.int .i64 m2))
        (first | (with_reducible exact ⟨by assumption, by assumption, by assumption, by assumption⟩) | ((try dsimp only); exact ⟨by assumption, by assumption, by assumption, by assumption⟩) | go_keep)
        (first
          | (go_at_call 38; (first | (with_reducible refine h0a.mono ?_) | (with_reducible refine h0b.mono ?_)); rintro e w9 ⟨rfl, rfl⟩)
          | fail)
      all_goals
        go_wp2_with fail
        go_meet
        exact MvR.rel_drew (m := (m1, m2))
    case rest =>
      obtain ⟨gm, rfl, hgm, hge, hbm⟩ := hcut
      obtain ⟨c0, c1⟩ := MvR.row2 hgm
      dsimp only at c0 c1
      have hbw := HBW.out.trans (hbm.mono HBW.out.size)
      have hown2 := own_below HOWN.out hbw
      have hgr := grown_of_below hbw (Value.slice V ln cv).ownBlock
      have HGR := Lib.hid hgr
      have HHB := Lib.hid hbw
      have hgml : gm < wc.heap.size := MvR.box_lt hgm
      have HGE : Hid (w.heap.size ≤ gm) := Lib.hid (Nat.le_trans HBW.out.size hge)
      have HGW := Lib.hid (fun k (e : (Value.slice V ln cv).ownBlock = some k) => (HOWN.out.lt k e).2)
      clear hgm hge hbm hset HCC hgr hbw HOWN hwr1 hwr2 hbI hbJ
      by_cases hm0 : 0 ≤ m2
      · obtain ⟨j, rfl⟩ : ∃ j : Nat, m2 = j := ⟨m2.toNat, by omega⟩
        have hP := hpost2.out hm0
        rw [Int.toNat_natCast] at hP
        have HP := Lib.hid hP
        have hne : ((j : Int) != -1) = true := by simp only [bne_iff_ne]; omega
        have hjl : j < ln := by have := HLN.out; have := HLL.out; omega
        rcases hown2.2 with ⟨e9, h9⟩ | ⟨gr, cap, cur, e9, _⟩
        · omega
        · injection e9 with e91 _ e93
          subst e91; subst e93
          have k0 := (hown2.cellAt j (by omega)).trans (icells_at rs j (by have := HLL.out; omega))
          have k1 := hown2.frozenAt j
          have hgrl : gr < wc.heap.size := (hown2.lt gr rfl).2
          obtain ⟨ho3, hg3⟩ := hown2.stored j (.int .i64 a)
          have HFIN := Lib.hid (show (wc.setCell ⟨gr, j, none⟩ (.int .i64 a)).ownsRow base 3 1 (.slice (some ⟨gr, 0, none⟩) ln cv) ln (icells rs2) ∧ w.grownBy (wc.setCell ⟨gr, j, none⟩ (.int .i64 a)) (Value.slice (some ⟨gr, 0, none⟩) ln cv).ownBlock from ⟨by rw [HP.out]; unfold icells; rw [List.map_set]; exact ho3, grownBy_trans HGR.out hg3⟩)
          have hgne : gm ≠ gr := fun e => by have h1 := HGW.out gr rfl; have h2 := HGE.out; omega
          clear ho3 hg3 hown2 hpost1 hpost2 hP HV HGR
          go_wp2
          go_ret
          exact ⟨rfl, HFIN.out⟩
      · have em : m2 = -1 := by omega
        subst em
        have HP := Lib.hid (hpost1.out (by omega))
        have HFIN := Lib.hid (show wc.ownsRow base 3 1 (.slice V ln cv) ln (icells rs2) ∧ w.grownBy wc (Value.slice V ln cv).ownBlock from ⟨by rw [HP.out]; exact hown2, HGR.out⟩)
        clear hown2 hpost1 hpost2 HV HGR
        go_wp2
        go_ret
        exact ⟨rfl, HFIN.out⟩
end Go.Proofs.Ythacnbeckhdhiaa
