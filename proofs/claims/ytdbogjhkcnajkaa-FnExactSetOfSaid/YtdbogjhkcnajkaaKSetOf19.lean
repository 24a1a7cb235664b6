/-
  The law FnExactSetOf returns true for every three values: the program gives the orbit set of tuples over constants, and whether there is one, as the model does, in memory of its own, and leaves its arguments as they were. No condition.
-/
import Derived.Test.YtdbogjhkcnajkaaKSetOf15
import Derived.Test.YtdbogjhkcnajkaaKSetOf16
import Derived.Test.YtdbogjhkcnajkaaKSetOf9
import Derived.Test.YtdbogjhkcnajkaaKSetOf18
import Derived.Test.YtdbogjhkcnajkaaKSetOf17
namespace Go.Proofs.Ytdbogjhkcnajkaa.fnExactSetOf
open Go.ChangeShapes Go.WideShapes Go.ChangeAt Go.RowKit
set_option linter.unusedVariables false

theorem ownZ {w : World} {base size n len d : Nat} {e : TypeId} {B : Option Addr} {xs : List Value} (h : w.ownsRow base e size (.slice B n d) len xs) : B = none → d = 0 := by
  rintro rfl
  rcases h.2 with ⟨e1, _⟩ | ⟨g, cap, cur, e1, _⟩
  · injection e1
  · cases e1

namespace Args4
theorem box_lt {w : World} {g : Nat} {o : Obj} (h : w.heap[g]? = some o) : g < w.heap.size := (Array.getElem?_eq_some_iff.1 h).1
theorem row4 {w : World} {g : Nat} {a b c d : Value} {T : TypeId} (h : w.heap[g]? = some (.cells #[a, b, c, d] T (0, 0))) : w.cell? ⟨g, 0, none⟩ = some a ∧ w.cell? ⟨g, 1, none⟩ = some b ∧ w.cell? ⟨g, 2, none⟩ = some c ∧ w.cell? ⟨g, 3, none⟩ = some d := by
  refine ⟨?_, ?_, ?_, ?_⟩ <;> rw [cell_of_row w g _ _ _ _ h] <;> rfl
end Args4
theorem pairsAt_of {w : World} {base n : Nat} {e : TypeId} {B : Option Addr} {d : Nat} {l : List (Int × Int)} (h : w.ownsRow base e 2 (.slice B n d) l.length (cellsOf l)) : PairsAt w B l := by
  obtain ⟨A, c, ee, hp⟩ := own_pairsAt h
  injection ee with e1 e2 e3
  subst e1
  exact hp

theorem intsAt_of {w : World} {base n : Nat} {e : TypeId} {B : Option Addr} {d : Nat} {l : List Int} (h : w.ownsRow base e 1 (.slice B n d) l.length (icells l)) : IntsAt w B l := by
  obtain ⟨A, c, ee, hp⟩ := own_intsAt h
  injection ee with e1 e2 e3
  subst e1
  exact hp

set_option maxRecDepth 100000 in
set_option maxHeartbeats 16000000 in
theorem walk_big0 (w : World) (A0 : Option Addr) (c0 : Nat) (l0 : List Int) (hA0 : IntsAt w A0 l0) (hm0 : l0.length ≤ maxLen) (a1 : Int) (wf1 : (Lit.int .i64 a1).wf = true) (A2 : Option Addr) (c2 : Nat) (l2 : List RRow) (hA2 : RRowsIn w (.slice A2 l2.length c2) l2) (hs2 : ShortRRows l2) (hm2 : l2.length ≤ maxLen) (hn0 : ¬ l0.length ≤ 1048576) :
    Calls Try.prog 4 #[.slice A0 l0.length c0, .int .i64 a1, .slice A2 l2.length c2] w fun e w' => e = .returned (.bool true) ∧ Below w.heap.size w w' := by
  unfold maxLen at hm0
  have hb0 : Below w.heap.size w w := (Below.refl _ w)
  have HI0 : Hid (∀ w' : World, Below w.heap.size w w' → IntsAt w' A0 l0) := Lib.hid (fun w' h => hA0.below (hb0.trans (h.mono hb0.size)))
  have HI2 : Hid (∀ w' : World, Below w.heap.size w w' → RRowsIn w' (.slice A2 l2.length c2) l2) := Lib.hid (fun w' h => hA2.below (hb0.trans (h.mono hb0.size)))
  clear hA0 hA2
  have HC0 : Hid (Below w.heap.size w w) := Lib.hid (Below.refl _ _)
  have HW0 := Lib.hid hb0
  clear hb0
  go_enter Try.func4, Try.ntmps4
  have hbig : 1048576 < l0.length := by omega
  have hfin := HW0.out
  clear hn0
  go_wp2
  go_ret
  exact ⟨rfl, hfin⟩

set_option maxRecDepth 100000 in
set_option maxHeartbeats 16000000 in
theorem walk_no2 (w : World) (A0 : Option Addr) (c0 : Nat) (l0 : List Int) (hA0 : IntsAt w A0 l0) (hm0 : l0.length ≤ maxLen) (a1 : Int) (wf1 : (Lit.int .i64 a1).wf = true) (A2 : Option Addr) (c2 : Nat) (l2 : List RRow) (hA2 : RRowsIn w (.slice A2 l2.length c2) l2) (hs2 : ShortRRows l2) (hm2 : l2.length ≤ maxLen) (hn0 : l0.length ≤ 1048576) (hn2 : ¬ ((l2.length + sumR l2 : Nat) : Int) ≤ 1048576) :
    Calls Try.prog 4 #[.slice A0 l0.length c0, .int .i64 a1, .slice A2 l2.length c2] w fun e w' => e = .returned (.bool true) ∧ Below w.heap.size w w' := by
  unfold maxLen at hm0
  have hb0 : Below w.heap.size w w := (Below.refl _ w)
  have HI0 : Hid (∀ w' : World, Below w.heap.size w w' → IntsAt w' A0 l0) := Lib.hid (fun w' h => hA0.below (hb0.trans (h.mono hb0.size)))
  have HI2 : Hid (∀ w' : World, Below w.heap.size w w' → RRowsIn w' (.slice A2 l2.length c2) l2) := Lib.hid (fun w' h => hA2.below (hb0.trans (h.mono hb0.size)))
  clear hA0 hA2
  have HC0 : Hid (Below w.heap.size w w) := Lib.hid (Below.refl _ _)
  have HW0 := Lib.hid hb0
  clear hb0
  go_enter Try.func4, Try.ntmps4
  have hsz := szRowS_any l2 hs2 hm2 (1048576) w _ (by omega) (by omega) (HI2.out w HC0.out)
  unfold LeftPost at hsz
  rw [leftR_no (by omega)] at hsz
  go_wp2_with fail
  refine hsz.mono ?_
  rintro e u1 ⟨rfl, hb⟩
  clear hsz
  have s2 : w.heap.size ≤ u1.heap.size := hb.size
  have HC2 := Lib.hid (HC0.out.trans (hb.mono HC0.out.size))
  clear hb HC0
  have hfin := HW0.out.trans (HC2.out.mono HW0.out.size)
  go_wp2
  go_ret
  exact ⟨rfl, hfin⟩

set_option maxRecDepth 100000 in
set_option maxHeartbeats 16000000 in
theorem walk_yes (w : World) (A0 : Option Addr) (c0 : Nat) (l0 : List Int) (hA0 : IntsAt w A0 l0) (hm0 : l0.length ≤ maxLen) (a1 : Int) (wf1 : (Lit.int .i64 a1).wf = true) (A2 : Option Addr) (c2 : Nat) (l2 : List RRow) (hA2 : RRowsIn w (.slice A2 l2.length c2) l2) (hs2 : ShortRRows l2) (hm2 : l2.length ≤ maxLen) (hn0 : l0.length ≤ 1048576) (hn2 : ((l2.length + sumR l2 : Nat) : Int) ≤ 1048576) :
    Calls Try.prog 4 #[.slice A0 l0.length c0, .int .i64 a1, .slice A2 l2.length c2] w fun e w' => e = .returned (.bool true) ∧ Below w.heap.size w w' := by
  have HN0 : Hid (l0.length ≤ 1048576) := Lib.hid (by omega)
  have HL2 : Hid (l2.length ≤ 1048576) := Lib.hid (by omega)
  have HF2 : Hid (FitRRows l2) := Lib.hid (fitR_of (by omega))
  have HN2 : Hid (∀ k, k < l2.length → (rwAt l2 k).length ≤ 1048576) := Lib.hid (fun k hk => by have := sumR_at hk; omega)
  have HFR := Lib.hid (show FitO (olR (setOk l0 a1 l2) l0) (omR (setOk l0 a1 l2) (setM l0 a1 l2)) from setFit l0 a1 l2)
  have hmR : (olR (setOk l0 a1 l2) l0).length + sumR (omR (setOk l0 a1 l2) (setM l0 a1 l2)) ≤ 8388608 := setSum l0 a1 l2
  generalize qzR : ozR (setOk l0 a1 l2) a1 = zR
  have HzR := Lib.hid qzR
  clear qzR
  generalize qlR : olR (setOk l0 a1 l2) l0 = lR at HFR hmR
  have HlR := Lib.hid qlR
  clear qlR
  generalize qmR : omR (setOk l0 a1 l2) (setM l0 a1 l2) = mR at HFR hmR
  have HmR := Lib.hid qmR
  clear qmR
  generalize hFF : setOk l0 a1 l2 = fl
  have HFL := Lib.hid hFF
  have hfl : (fl != fl) = false := by simp
  clear hFF
  unfold maxLen at hm0
  have hb0 : Below w.heap.size w w := (Below.refl _ w)
  have HI0 : Hid (∀ w' : World, Below w.heap.size w w' → IntsAt w' A0 l0) := Lib.hid (fun w' h => hA0.below (hb0.trans (h.mono hb0.size)))
  have HI2 : Hid (∀ w' : World, Below w.heap.size w w' → RRowsIn w' (.slice A2 l2.length c2) l2) := Lib.hid (fun w' h => hA2.below (hb0.trans (h.mono hb0.size)))
  clear hA0 hA2
  have HC0 : Hid (Below w.heap.size w w) := Lib.hid (Below.refl _ _)
  have HW0 := Lib.hid hb0
  clear hb0
  go_enter Try.func4, Try.ntmps4
  have hsz := szRowS_any l2 hs2 hm2 (1048576) w _ (by omega) (by omega) (HI2.out w HC0.out)
  unfold LeftPost at hsz
  rw [leftR_yes hn2] at hsz
  have hleft2 : ¬ 1048576 - ((l2.length + sumR l2 : Nat) : Int) < 0 := by omega
  go_wp2_with fail
  refine hsz.mono ?_
  rintro e u1 ⟨rfl, hb⟩
  clear hsz
  have s2 : w.heap.size ≤ u1.heap.size := hb.size
  have HC2 := Lib.hid (HC0.out.trans (hb.mono HC0.out.size))
  clear hb HC0
  have HZ : Hid (w.heap.size ≤ u1.heap.size) := Lib.hid HC2.out.size
  have hto := toIntS_any A0 c0 l0 u1 (HI0.out u1 HC2.out) (by have := HN0.out; omega)
  go_wp2_with fail
  (with_reducible refine hto.mono ?_)
  rintro e w3 ⟨v0, rfl, ho0, hb⟩
  obtain ⟨Bv0, dv0, rfl, hin0⟩ := own_intsAt ho0
  have hzz0 := ownZ ho0
  have s4 : u1.heap.size ≤ w3.heap.size := hb.size
  have HC4 := Lib.hid (HC2.out.trans (hb.mono HC2.out.size))
  clear hto hb ho0 HC2
  have hto := toRowS_any l2 HF2.out HL2.out w3 _ (HI2.out w3 HC4.out)
  go_wp2_with fail
  (with_reducible refine hto.mono ?_)
  rintro e w5 ⟨v2, S2, rfl, hL2, _, hb⟩
  have hin2 := ownRRows_in hL2
  replace hin0 := hin0.below hb
  have s6 : w3.heap.size ≤ w5.heap.size := hb.size
  have HC6 := Lib.hid (HC4.out.trans (hb.mono HC4.out.size))
  clear hto hb hL2 HC4
  have hsp := setOf_specV l0 a1 l2 Bv0 dv0 _ w5 (by have := HN0.out; omega) HF2.out HL2.out HN2.out hin0 hzz0 hin2
  rw [HzR.out] at hsp
  rw [HlR.out] at hsp
  rw [HmR.out] at hsp
  rw [HFL.out] at hsp
  clear hin0 hin2
  go_wp2_with fail
  (with_reducible refine hsp.mono ?_)
  rintro e w7 ⟨AW, cW, BW, dW, SW, rfl, hL, hS, hb⟩
  have s8 : w5.heap.size ≤ w7.heap.size := hb.size
  have HC8 := Lib.hid (HC6.out.trans (hb.mono HC6.out.size))
  have HTW : Hid (∀ b ∈ SW, w5.heap.size ≤ b ∧ b < w7.heap.size) := Lib.hid (fun b hb => ⟨hS b hb, hL.lt b hb⟩)
  have NW := Lib.hid hL
  clear hb hS HC6 hL
  have hbx : Below w7.heap.size w7 (w7.alloc (.cells #[.int .i64 zR, .slice AW lR.length cW, .slice BW mR.length dW] 29)) := (Below.refl _ _).alloc (Nat.le_refl _) _
  have s9 : w7.heap.size ≤ (w7.alloc (.cells #[.int .i64 zR, .slice AW lR.length cW, .slice BW mR.length dW] 29)).heap.size := hbx.size
  have NW_9 := Lib.hid (NW.out.alike (w' := (w7.alloc (.cells #[.int .i64 zR, .slice AW lR.length cW, .slice BW mR.length dW] 29))) fun bb hbb => hbx.block bb (NW.out.lt bb hbb))
  have HC9 := Lib.hid (HC8.out.trans (hbx.mono HC8.out.size))
  have KBW := Lib.hid (heap_alloc_new w7 (.cells #[.int .i64 zR, .slice AW lR.length cW, .slice BW mR.length dW] 29))
  clear hbx NW HC8
  have lt_W : w7.heap.size < (w7.alloc (.cells #[.int .i64 zR, .slice AW lR.length cW, .slice BW mR.length dW] 29)).heap.size := by simp
  clear hsp
  have hto := toIntS_any A0 c0 l0 (w7.alloc (.cells #[.int .i64 zR, .slice AW lR.length cW, .slice BW mR.length dW] 29)) (HI0.out (w7.alloc (.cells #[.int .i64 zR, .slice AW lR.length cW, .slice BW mR.length dW] 29)) HC9.out) (by have := HN0.out; omega)
  go_wp2_with fail
  refine hto.mono ?_
  rintro e w10 ⟨vX0, rfl, oX0, hb⟩
  obtain ⟨BX0, dX0, rfl, hq⟩ := own_intsAt oX0
  have s11 : (w7.alloc (.cells #[.int .i64 zR, .slice AW lR.length cW, .slice BW mR.length dW] 29)).heap.size ≤ w10.heap.size := hb.size
  have KBW_11 := Lib.hid ((hb.block _ (Args4.box_lt KBW.out)).trans KBW.out)
  have NW_11 := Lib.hid (NW_9.out.alike (w' := w10) fun bb hbb => hb.block bb (NW_9.out.lt bb hbb))
  have HC11 := Lib.hid (HC9.out.trans (hb.mono HC9.out.size))
  have HRX0 := Lib.hid (show ∀ k, (.slice BX0 l0.length dX0 : Value).ownBlock = some k → (w7.alloc (.cells #[.int .i64 zR, .slice AW lR.length cW, .slice BW mR.length dW] 29)).heap.size ≤ k ∧ k < w10.heap.size from fun k hk => oX0.lt k hk)
  have QX0 := Lib.hid oX0
  clear hto hb hq KBW NW_9 HC9 oX0
  have hto := toRowS_any l2 HF2.out HL2.out w10 _ (HI2.out w10 HC11.out)
  go_wp2_with fail
  refine hto.mono ?_
  rintro e w12 ⟨vX2, SX2, rfl, hL, hS, hb⟩
  have s13 : w10.heap.size ≤ w12.heap.size := hb.size
  have KBW_13 := Lib.hid ((hb.block _ (Args4.box_lt KBW_11.out)).trans KBW_11.out)
  have NW_13 := Lib.hid (NW_11.out.alike (w' := w12) fun bb hbb => hb.block bb (NW_11.out.lt bb hbb))
  have QX0_13 := Lib.hid (own_below QX0.out hb)
  have HC13 := Lib.hid (HC11.out.trans (hb.mono HC11.out.size))
  have HTX2 : Hid (∀ b ∈ SX2, w10.heap.size ≤ b ∧ b < w12.heap.size) := Lib.hid (fun b hb => ⟨hS b hb, hL.lt b hb⟩)
  have NX2 := Lib.hid hL
  clear hto hb hS KBW_11 NW_11 QX0 HC11 hL
  have hsp := setOf_implV l0 a1 l2 BX0 dX0 _ w12 (by have := HN0.out; omega) HF2.out (intsAt_of QX0_13.out) (ownRRows_in NX2.out)
  rw [HzR.out] at hsp
  rw [HlR.out] at hsp
  rw [HmR.out] at hsp
  rw [HFL.out] at hsp
  go_wp2_with fail
  refine hsp.mono ?_
  rintro e w14 ⟨AG, cG, BG, dG, SG, rfl, hL, hS, hb⟩
  have s15 : w12.heap.size ≤ w14.heap.size := hb.size
  have KBW_15 := Lib.hid ((hb.block _ (Args4.box_lt KBW_13.out)).trans KBW_13.out)
  have NW_15 := Lib.hid (NW_13.out.alike (w' := w14) fun bb hbb => hb.block bb (NW_13.out.lt bb hbb))
  have NX2_15 := Lib.hid (NX2.out.alike (w' := w14) fun bb hbb => hb.block bb (NX2.out.lt bb hbb))
  have QX0_15 := Lib.hid (own_below QX0_13.out hb)
  have HC15 := Lib.hid (HC13.out.trans (hb.mono HC13.out.size))
  have HTG : Hid (∀ b ∈ SG, w12.heap.size ≤ b ∧ b < w14.heap.size) := Lib.hid (fun b hb => ⟨hS b hb, hL.lt b hb⟩)
  have NG := Lib.hid hL
  clear hb hS KBW_13 NW_13 NX2 QX0_13 HC13 hL
  have hbx : Below w14.heap.size w14 (w14.alloc (.cells #[.int .i64 zR, .slice AG lR.length cG, .slice BG mR.length dG] 29)) := (Below.refl _ _).alloc (Nat.le_refl _) _
  have s16 : w14.heap.size ≤ (w14.alloc (.cells #[.int .i64 zR, .slice AG lR.length cG, .slice BG mR.length dG] 29)).heap.size := hbx.size
  have KBW_16 := Lib.hid ((hbx.block _ (Args4.box_lt KBW_15.out)).trans KBW_15.out)
  have NW_16 := Lib.hid (NW_15.out.alike (w' := (w14.alloc (.cells #[.int .i64 zR, .slice AG lR.length cG, .slice BG mR.length dG] 29))) fun bb hbb => hbx.block bb (NW_15.out.lt bb hbb))
  have NX2_16 := Lib.hid (NX2_15.out.alike (w' := (w14.alloc (.cells #[.int .i64 zR, .slice AG lR.length cG, .slice BG mR.length dG] 29))) fun bb hbb => hbx.block bb (NX2_15.out.lt bb hbb))
  have NG_16 := Lib.hid (NG.out.alike (w' := (w14.alloc (.cells #[.int .i64 zR, .slice AG lR.length cG, .slice BG mR.length dG] 29))) fun bb hbb => hbx.block bb (NG.out.lt bb hbb))
  have QX0_16 := Lib.hid (own_below QX0_15.out hbx)
  have HC16 := Lib.hid (HC15.out.trans (hbx.mono HC15.out.size))
  have KBG := Lib.hid (heap_alloc_new w14 (.cells #[.int .i64 zR, .slice AG lR.length cG, .slice BG mR.length dG] 29))
  clear hbx KBW_15 NW_15 NX2_15 NG QX0_15 HC15
  have lt_G : w14.heap.size < (w14.alloc (.cells #[.int .i64 zR, .slice AG lR.length cG, .slice BG mR.length dG] 29)).heap.size := by simp
  clear hsp
  have heq := eqOrbitSet_any zR lR mR HFR.out (w14.alloc (.cells #[.int .i64 zR, .slice AG lR.length cG, .slice BG mR.length dG] 29)) _ _ (orbOut_ix NG_16.out) (orbOut_ix NW_16.out)
  obtain ⟨ya0, ya1, ya2⟩ := OrbK.row3 KBG.out
  obtain ⟨yb0, yb1, yb2⟩ := OrbK.row3 KBW_16.out
  go_wp2_with fail
  refine heq.mono ?_
  rintro e w17 ⟨rfl, hb⟩
  have s18 : (w14.alloc (.cells #[.int .i64 zR, .slice AG lR.length cG, .slice BG mR.length dG] 29)).heap.size ≤ w17.heap.size := hb.size
  have KBW_18 := Lib.hid ((hb.block _ (Args4.box_lt KBW_16.out)).trans KBW_16.out)
  have KBG_18 := Lib.hid ((hb.block _ (Args4.box_lt KBG.out)).trans KBG.out)
  have NW_18 := Lib.hid (NW_16.out.alike (w' := w17) fun bb hbb => hb.block bb (NW_16.out.lt bb hbb))
  have NX2_18 := Lib.hid (NX2_16.out.alike (w' := w17) fun bb hbb => hb.block bb (NX2_16.out.lt bb hbb))
  have NG_18 := Lib.hid (NG_16.out.alike (w' := w17) fun bb hbb => hb.block bb (NG_16.out.lt bb hbb))
  have QX0_18 := Lib.hid (own_below QX0_16.out hb)
  have HC18 := Lib.hid (HC16.out.trans (hb.mono HC16.out.size))
  clear heq hb ya0 ya1 ya2 yb0 yb1 yb2 KBW_16 KBG NW_16 NX2_16 NG_16 QX0_16 HC16
  have hto := toIntS_any A0 c0 l0 w17 (HI0.out w17 HC18.out) (by have := HN0.out; omega)
  go_wp2_with fail
  refine hto.mono ?_
  rintro e w19 ⟨vv, rfl, ho, hb⟩
  have s20 : w17.heap.size ≤ w19.heap.size := hb.size
  have KBW_20 := Lib.hid ((hb.block _ (Args4.box_lt KBW_18.out)).trans KBW_18.out)
  have KBG_20 := Lib.hid ((hb.block _ (Args4.box_lt KBG_18.out)).trans KBG_18.out)
  have NW_20 := Lib.hid (NW_18.out.alike (w' := w19) fun bb hbb => hb.block bb (NW_18.out.lt bb hbb))
  have NX2_20 := Lib.hid (NX2_18.out.alike (w' := w19) fun bb hbb => hb.block bb (NX2_18.out.lt bb hbb))
  have NG_20 := Lib.hid (NG_18.out.alike (w' := w19) fun bb hbb => hb.block bb (NG_18.out.lt bb hbb))
  have QX0_20 := Lib.hid (own_below QX0_18.out hb)
  have HC20 := Lib.hid (HC18.out.trans (hb.mono HC18.out.size))
  have heq := eqIntS_own _ _ _ _ l0 l0 w19 QX0_20.out ho (by have := HN0.out; omega)
  rw [decide_eq_true (rfl : l0 = l0)] at heq
  clear hto hb ho KBW_18 KBG_18 NW_18 NX2_18 NG_18 QX0_18 HC18
  go_wp2_with fail
  refine heq.mono ?_
  rintro e w21 ⟨rfl, hb⟩
  have s22 : w19.heap.size ≤ w21.heap.size := hb.size
  have KBW_22 := Lib.hid ((hb.block _ (Args4.box_lt KBW_20.out)).trans KBW_20.out)
  have KBG_22 := Lib.hid ((hb.block _ (Args4.box_lt KBG_20.out)).trans KBG_20.out)
  have NW_22 := Lib.hid (NW_20.out.alike (w' := w21) fun bb hbb => hb.block bb (NW_20.out.lt bb hbb))
  have NX2_22 := Lib.hid (NX2_20.out.alike (w' := w21) fun bb hbb => hb.block bb (NX2_20.out.lt bb hbb))
  have NG_22 := Lib.hid (NG_20.out.alike (w' := w21) fun bb hbb => hb.block bb (NG_20.out.lt bb hbb))
  have QX0_22 := Lib.hid (own_below QX0_20.out hb)
  have HC22 := Lib.hid (HC20.out.trans (hb.mono HC20.out.size))
  clear heq hb KBW_20 KBG_20 NW_20 NX2_20 NG_20 QX0_20 HC20
  have hto := toRowS_any l2 HF2.out HL2.out w21 _ (HI2.out w21 HC22.out)
  go_wp2_with fail
  refine hto.mono ?_
  rintro e w23 ⟨vv, SS, rfl, hL, _, hb⟩
  have s24 : w21.heap.size ≤ w23.heap.size := hb.size
  have KBW_24 := Lib.hid ((hb.block _ (Args4.box_lt KBW_22.out)).trans KBW_22.out)
  have KBG_24 := Lib.hid ((hb.block _ (Args4.box_lt KBG_22.out)).trans KBG_22.out)
  have NW_24 := Lib.hid (NW_22.out.alike (w' := w23) fun bb hbb => hb.block bb (NW_22.out.lt bb hbb))
  have NX2_24 := Lib.hid (NX2_22.out.alike (w' := w23) fun bb hbb => hb.block bb (NX2_22.out.lt bb hbb))
  have NG_24 := Lib.hid (NG_22.out.alike (w' := w23) fun bb hbb => hb.block bb (NG_22.out.lt bb hbb))
  have QX0_24 := Lib.hid (own_below QX0_22.out hb)
  have HC24 := Lib.hid (HC22.out.trans (hb.mono HC22.out.size))
  have heq := eqRowS_any l2 HF2.out HL2.out w23 _ _ (ownRRows_in NX2_24.out) (ownRRows_in hL)
  clear hto hb hL KBW_22 KBG_22 NW_22 NX2_22 NG_22 QX0_22 HC22
  go_wp2_with fail
  refine heq.mono ?_
  rintro e w25 ⟨rfl, hb⟩
  have s26 : w23.heap.size ≤ w25.heap.size := hb.size
  have KBW_26 := Lib.hid ((hb.block _ (Args4.box_lt KBW_24.out)).trans KBW_24.out)
  have KBG_26 := Lib.hid ((hb.block _ (Args4.box_lt KBG_24.out)).trans KBG_24.out)
  have NW_26 := Lib.hid (NW_24.out.alike (w' := w25) fun bb hbb => hb.block bb (NW_24.out.lt bb hbb))
  have NX2_26 := Lib.hid (NX2_24.out.alike (w' := w25) fun bb hbb => hb.block bb (NX2_24.out.lt bb hbb))
  have NG_26 := Lib.hid (NG_24.out.alike (w' := w25) fun bb hbb => hb.block bb (NG_24.out.lt bb hbb))
  have QX0_26 := Lib.hid (own_below QX0_24.out hb)
  have HC26 := Lib.hid (HC24.out.trans (hb.mono HC24.out.size))
  clear heq hb KBW_24 KBG_24 NW_24 NX2_24 NG_24 QX0_24 HC24
  have hmk := markIntS_own _ l0.length (.slice BX0 l0.length dX0) _ (1) w25 QX0_26.out (by omega) (by have := HN0.out; omega)
  go_wp2_with fail
  (with_reducible refine hmk.mono ?_)
  rintro e w27 ⟨rfl, _, hg⟩
  have hon : Only (.slice BX0 l0.length dX0 : Value).ownBlock.toList w25 w27 := Only.of_grown hg (fun b e => by rw [e]; simp)
  have HTM0 : Hid (∀ b ∈ (.slice BX0 l0.length dX0 : Value).ownBlock.toList, _ ∧ _) := Lib.hid (fun b hb => HRX0.out b (by simpa using hb))
  have s28 : w25.heap.size ≤ w27.heap.size := hon.size
  have KBW_28 := Lib.hid ((hon.block _ (Args4.box_lt KBW_26.out) (fun hm => by have := HTM0.out _ hm; omega)).trans KBW_26.out)
  have KBG_28 := Lib.hid ((hon.block _ (Args4.box_lt KBG_26.out) (fun hm => by have := HTM0.out _ hm; omega)).trans KBG_26.out)
  have NW_28 := Lib.hid (NW_26.out.alike (w' := w27) fun bb hbb => hon.block bb (NW_26.out.lt bb hbb) (fun hm => by have h1 := HTM0.out _ hm; have h2 := HTW.out _ hbb; omega))
  have NX2_28 := Lib.hid (NX2_26.out.alike (w' := w27) fun bb hbb => hon.block bb (NX2_26.out.lt bb hbb) (fun hm => by have h1 := HTM0.out _ hm; have h2 := HTX2.out _ hbb; omega))
  have NG_28 := Lib.hid (NG_26.out.alike (w' := w27) fun bb hbb => hon.block bb (NG_26.out.lt bb hbb) (fun hm => by have h1 := HTM0.out _ hm; have h2 := HTG.out _ hbb; omega))
  have HC28 := Lib.hid (Only.below HC26.out hon HC26.out.size (fun b hb => by have := HTM0.out _ hb; have := HZ.out; omega))
  clear hmk hg hon QX0_26 KBW_26 KBG_26 NW_26 NX2_26 NG_26 HC26
  have hml2 := mcRRows_le l2
  have hmk := markRowS_any l2 HL2.out HF2.out SX2 vX2 (1 + (l0.length : Int)) w27 (by omega) (by omega) NX2_28.out
  go_wp2_with fail
  (with_reducible refine hmk.mono ?_)
  rintro e w29 ⟨rfl, _, hon⟩
  have s30 : w27.heap.size ≤ w29.heap.size := hon.size
  have KBW_30 := Lib.hid ((hon.block _ (Args4.box_lt KBW_28.out) (fun hm => by have := HTX2.out _ hm; omega)).trans KBW_28.out)
  have KBG_30 := Lib.hid ((hon.block _ (Args4.box_lt KBG_28.out) (fun hm => by have := HTX2.out _ hm; omega)).trans KBG_28.out)
  have NW_30 := Lib.hid (NW_28.out.alike (w' := w29) fun bb hbb => hon.block bb (NW_28.out.lt bb hbb) (fun hm => by have h1 := HTX2.out _ hm; have h2 := HTW.out _ hbb; omega))
  have NG_30 := Lib.hid (NG_28.out.alike (w' := w29) fun bb hbb => hon.block bb (NG_28.out.lt bb hbb) (fun hm => by have h1 := HTX2.out _ hm; have h2 := HTG.out _ hbb; omega))
  have HC30 := Lib.hid (Only.below HC28.out hon HC28.out.size (fun b hb => by have := HTX2.out _ hb; have := HZ.out; omega))
  clear hmk hon NX2_28 KBW_28 KBG_28 NW_28 NG_28 HC28
  have tk : ¬ 1 + (l0.length : Int) + (sumR l2 : Int) < 0 := by omega
  have heq := eqOrbitSet_any zR lR mR HFR.out w29 _ _ (orbOut_ix NG_30.out) (orbOut_ix NW_30.out)
  obtain ⟨ya0, ya1, ya2⟩ := OrbK.row3 KBG_30.out
  obtain ⟨yb0, yb1, yb2⟩ := OrbK.row3 KBW_30.out
  go_wp2_with fail
  refine heq.mono ?_
  rintro e w31 ⟨rfl, hb⟩
  have s32 : w29.heap.size ≤ w31.heap.size := hb.size
  have KBW_32 := Lib.hid ((hb.block _ (Args4.box_lt KBW_30.out)).trans KBW_30.out)
  have KBG_32 := Lib.hid ((hb.block _ (Args4.box_lt KBG_30.out)).trans KBG_30.out)
  have NW_32 := Lib.hid (NW_30.out.alike (w' := w31) fun bb hbb => hb.block bb (NW_30.out.lt bb hbb))
  have NG_32 := Lib.hid (NG_30.out.alike (w' := w31) fun bb hbb => hb.block bb (NG_30.out.lt bb hbb))
  have HC32 := Lib.hid (HC30.out.trans (hb.mono HC30.out.size))
  clear heq hb ya0 ya1 ya2 yb0 yb1 yb2 KBW_30 KBG_30 NW_30 NG_30 HC30
  obtain ⟨y0, y1, y2⟩ := OrbK.row3 KBG_32.out
  have hmi := markOrbitSet_full zR lR mR HFR.out SG AG BG cG dG 1 w31 (by omega) (by omega) NG_32.out
  go_wp2_with fail
  (with_reducible refine hmi.mono ?_)
  rintro e w33 ⟨rfl, ⟨S', hLm, hSm⟩, hon⟩
  have s34 : w31.heap.size ≤ w33.heap.size := hon.size
  have KBW_34 := Lib.hid ((hon.block _ (Args4.box_lt KBW_32.out) (fun hm => by have := HTG.out _ hm; omega)).trans KBW_32.out)
  have KBG_34 := Lib.hid ((hon.block _ (Args4.box_lt KBG_32.out) (fun hm => by have := HTG.out _ hm; omega)).trans KBG_32.out)
  have NW_34 := Lib.hid (NW_32.out.alike (w' := w33) fun bb hbb => hon.block bb (NW_32.out.lt bb hbb) (fun hm => by have h1 := HTG.out _ hm; have h2 := HTW.out _ hbb; omega))
  have HC34 := Lib.hid (Only.below HC32.out hon HC32.out.size (fun b hb => by have := HTG.out _ hb; have := HZ.out; omega))
  have NM := Lib.hid hLm
  have HTM : Hid (∀ b ∈ S', _ ∧ _) := Lib.hid (fun b hb => HTG.out b (hSm b hb))
  clear hmi hon hLm hSm y0 y1 y2 NG_32 KBW_32 KBG_32 NW_32 HC32
  have tm : ¬ 1 + (lR.length : Int) + (sumR mR : Int) < 0 := by omega
  have tq : (1 + (lR.length : Int) + (sumR mR : Int) != 1 + (lR.length : Int) + (sumR mR : Int)) = false := by simp
  obtain ⟨y0, y1, y2⟩ := OrbK.row3 KBG_34.out
  have hhi := heldOrbitSet_any zR lR mR HFR.out S' AG BG cG dG 1 w33 (by omega) (by omega) NM.out
  go_wp2_with fail
  (with_reducible refine hhi.mono ?_)
  rintro e w35 ⟨rfl, hb⟩
  have s36 : w33.heap.size ≤ w35.heap.size := hb.size
  have KBW_36 := Lib.hid ((hb.block _ (Args4.box_lt KBW_34.out)).trans KBW_34.out)
  have KBG_36 := Lib.hid ((hb.block _ (Args4.box_lt KBG_34.out)).trans KBG_34.out)
  have NW_36 := Lib.hid (NW_34.out.alike (w' := w35) fun bb hbb => hb.block bb (NW_34.out.lt bb hbb))
  have NM_36 := Lib.hid (NM.out.alike (w' := w35) fun bb hbb => hb.block bb (NM.out.lt bb hbb))
  have HC36 := Lib.hid (HC34.out.trans (hb.mono HC34.out.size))
  clear hhi hb y0 y1 y2 KBW_34 KBG_34 NW_34 NM HC34
  have hto := toIntS_any A0 c0 l0 w35 (HI0.out w35 HC36.out) (by have := HN0.out; omega)
  go_wp2_with fail
  (with_reducible refine hto.mono ?_)
  rintro e w37 ⟨v0, rfl, ho0, hb⟩
  obtain ⟨Bv0, dv0, rfl, hin0⟩ := own_intsAt ho0
  have hzz0 := ownZ ho0
  have s38 : w35.heap.size ≤ w37.heap.size := hb.size
  have KBW_38 := Lib.hid ((hb.block _ (Args4.box_lt KBW_36.out)).trans KBW_36.out)
  have KBG_38 := Lib.hid ((hb.block _ (Args4.box_lt KBG_36.out)).trans KBG_36.out)
  have NW_38 := Lib.hid (NW_36.out.alike (w' := w37) fun bb hbb => hb.block bb (NW_36.out.lt bb hbb))
  have NM_38 := Lib.hid (NM_36.out.alike (w' := w37) fun bb hbb => hb.block bb (NM_36.out.lt bb hbb))
  have HC38 := Lib.hid (HC36.out.trans (hb.mono HC36.out.size))
  clear hto hb ho0 KBW_36 KBG_36 NW_36 NM_36 HC36
  have hto := toRowS_any l2 HF2.out HL2.out w37 _ (HI2.out w37 HC38.out)
  go_wp2_with fail
  (with_reducible refine hto.mono ?_)
  rintro e w39 ⟨v2, S2, rfl, hL2, _, hb⟩
  have hin2 := ownRRows_in hL2
  replace hin0 := hin0.below hb
  have s40 : w37.heap.size ≤ w39.heap.size := hb.size
  have KBW_40 := Lib.hid ((hb.block _ (Args4.box_lt KBW_38.out)).trans KBW_38.out)
  have KBG_40 := Lib.hid ((hb.block _ (Args4.box_lt KBG_38.out)).trans KBG_38.out)
  have NW_40 := Lib.hid (NW_38.out.alike (w' := w39) fun bb hbb => hb.block bb (NW_38.out.lt bb hbb))
  have NM_40 := Lib.hid (NM_38.out.alike (w' := w39) fun bb hbb => hb.block bb (NM_38.out.lt bb hbb))
  have HC40 := Lib.hid (HC38.out.trans (hb.mono HC38.out.size))
  clear hto hb hL2 KBW_38 KBG_38 NW_38 NM_38 HC38
  have hsp := setOf_implV l0 a1 l2 Bv0 dv0 _ w39 (by have := HN0.out; omega) HF2.out hin0 hin2
  rw [HzR.out] at hsp
  rw [HlR.out] at hsp
  rw [HmR.out] at hsp
  rw [HFL.out] at hsp
  clear hin0 hin2
  go_wp2_with fail
  (with_reducible refine hsp.mono ?_)
  rintro e w41 ⟨AH, cH, BH, dH, SH, rfl, hL, hS, hb⟩
  have s42 : w39.heap.size ≤ w41.heap.size := hb.size
  have KBW_42 := Lib.hid ((hb.block _ (Args4.box_lt KBW_40.out)).trans KBW_40.out)
  have KBG_42 := Lib.hid ((hb.block _ (Args4.box_lt KBG_40.out)).trans KBG_40.out)
  have NW_42 := Lib.hid (NW_40.out.alike (w' := w41) fun bb hbb => hb.block bb (NW_40.out.lt bb hbb))
  have NM_42 := Lib.hid (NM_40.out.alike (w' := w41) fun bb hbb => hb.block bb (NM_40.out.lt bb hbb))
  have HC42 := Lib.hid (HC40.out.trans (hb.mono HC40.out.size))
  have HTH : Hid (∀ b ∈ SH, w39.heap.size ≤ b ∧ b < w41.heap.size) := Lib.hid (fun b hb => ⟨hS b hb, hL.lt b hb⟩)
  have NH := Lib.hid hL
  clear hb hS KBW_40 KBG_40 NW_40 NM_40 HC40 hL
  have hbx : Below w41.heap.size w41 (w41.alloc (.cells #[.int .i64 zR, .slice AH lR.length cH, .slice BH mR.length dH] 29)) := (Below.refl _ _).alloc (Nat.le_refl _) _
  have s43 : w41.heap.size ≤ (w41.alloc (.cells #[.int .i64 zR, .slice AH lR.length cH, .slice BH mR.length dH] 29)).heap.size := hbx.size
  have KBW_43 := Lib.hid ((hbx.block _ (Args4.box_lt KBW_42.out)).trans KBW_42.out)
  have KBG_43 := Lib.hid ((hbx.block _ (Args4.box_lt KBG_42.out)).trans KBG_42.out)
  have NW_43 := Lib.hid (NW_42.out.alike (w' := (w41.alloc (.cells #[.int .i64 zR, .slice AH lR.length cH, .slice BH mR.length dH] 29))) fun bb hbb => hbx.block bb (NW_42.out.lt bb hbb))
  have NM_43 := Lib.hid (NM_42.out.alike (w' := (w41.alloc (.cells #[.int .i64 zR, .slice AH lR.length cH, .slice BH mR.length dH] 29))) fun bb hbb => hbx.block bb (NM_42.out.lt bb hbb))
  have NH_43 := Lib.hid (NH.out.alike (w' := (w41.alloc (.cells #[.int .i64 zR, .slice AH lR.length cH, .slice BH mR.length dH] 29))) fun bb hbb => hbx.block bb (NH.out.lt bb hbb))
  have HC43 := Lib.hid (HC42.out.trans (hbx.mono HC42.out.size))
  have KBH := Lib.hid (heap_alloc_new w41 (.cells #[.int .i64 zR, .slice AH lR.length cH, .slice BH mR.length dH] 29))
  clear hbx KBW_42 KBG_42 NW_42 NM_42 NH HC42
  have lt_H : w41.heap.size < (w41.alloc (.cells #[.int .i64 zR, .slice AH lR.length cH, .slice BH mR.length dH] 29)).heap.size := by simp
  clear hsp
  have heq := eqOrbitSet_any zR lR mR HFR.out (w41.alloc (.cells #[.int .i64 zR, .slice AH lR.length cH, .slice BH mR.length dH] 29)) _ _ (orbOut_ix NH_43.out) (orbOut_ix NW_43.out)
  obtain ⟨ya0, ya1, ya2⟩ := OrbK.row3 KBH.out
  obtain ⟨yb0, yb1, yb2⟩ := OrbK.row3 KBW_43.out
  go_wp2_with fail
  refine heq.mono ?_
  rintro e w44 ⟨rfl, hb⟩
  have s45 : (w41.alloc (.cells #[.int .i64 zR, .slice AH lR.length cH, .slice BH mR.length dH] 29)).heap.size ≤ w44.heap.size := hb.size
  have KBW_45 := Lib.hid ((hb.block _ (Args4.box_lt KBW_43.out)).trans KBW_43.out)
  have KBG_45 := Lib.hid ((hb.block _ (Args4.box_lt KBG_43.out)).trans KBG_43.out)
  have KBH_45 := Lib.hid ((hb.block _ (Args4.box_lt KBH.out)).trans KBH.out)
  have NW_45 := Lib.hid (NW_43.out.alike (w' := w44) fun bb hbb => hb.block bb (NW_43.out.lt bb hbb))
  have NM_45 := Lib.hid (NM_43.out.alike (w' := w44) fun bb hbb => hb.block bb (NM_43.out.lt bb hbb))
  have NH_45 := Lib.hid (NH_43.out.alike (w' := w44) fun bb hbb => hb.block bb (NH_43.out.lt bb hbb))
  have HC45 := Lib.hid (HC43.out.trans (hb.mono HC43.out.size))
  clear heq hb ya0 ya1 ya2 yb0 yb1 yb2 KBW_43 KBG_43 KBH NW_43 NM_43 NH_43 HC43
  obtain ⟨y0, y1, y2⟩ := OrbK.row3 KBG_45.out
  have hhi := heldOrbitSet_any zR lR mR HFR.out S' AG BG cG dG 1 w44 (by omega) (by omega) NM_45.out
  go_wp2_with fail
  (with_reducible refine hhi.mono ?_)
  rintro e w46 ⟨rfl, hb⟩
  have s47 : w44.heap.size ≤ w46.heap.size := hb.size
  have KBW_47 := Lib.hid ((hb.block _ (Args4.box_lt KBW_45.out)).trans KBW_45.out)
  have KBG_47 := Lib.hid ((hb.block _ (Args4.box_lt KBG_45.out)).trans KBG_45.out)
  have KBH_47 := Lib.hid ((hb.block _ (Args4.box_lt KBH_45.out)).trans KBH_45.out)
  have NW_47 := Lib.hid (NW_45.out.alike (w' := w46) fun bb hbb => hb.block bb (NW_45.out.lt bb hbb))
  have NM_47 := Lib.hid (NM_45.out.alike (w' := w46) fun bb hbb => hb.block bb (NM_45.out.lt bb hbb))
  have NH_47 := Lib.hid (NH_45.out.alike (w' := w46) fun bb hbb => hb.block bb (NH_45.out.lt bb hbb))
  have HC47 := Lib.hid (HC45.out.trans (hb.mono HC45.out.size))
  clear hhi hb y0 y1 y2 KBW_45 KBG_45 KBH_45 NW_45 NM_45 NH_45 HC45
  have hfin := HW0.out.trans (HC47.out.mono HW0.out.size)
  go_wp2
  go_ret
  exact ⟨rfl, hfin⟩

theorem walk (w : World) (A0 : Option Addr) (c0 : Nat) (l0 : List Int) (hA0 : IntsAt w A0 l0) (hm0 : l0.length ≤ maxLen) (a1 : Int) (wf1 : (Lit.int .i64 a1).wf = true) (A2 : Option Addr) (c2 : Nat) (l2 : List RRow) (hA2 : RRowsIn w (.slice A2 l2.length c2) l2) (hs2 : ShortRRows l2) (hm2 : l2.length ≤ maxLen) :
    Calls Try.prog 4 #[.slice A0 l0.length c0, .int .i64 a1, .slice A2 l2.length c2] w fun e w' => e = .returned (.bool true) ∧ Below w.heap.size w w' := by
  by_cases hn0 : l0.length ≤ 1048576
  · skip
    by_cases hn2 : ((l2.length + sumR l2 : Nat) : Int) ≤ 1048576
    · skip
      exact walk_yes w A0 c0 l0 hA0 hm0 a1 wf1 A2 c2 l2 hA2 hs2 hm2 hn0 hn2
    · exact walk_no2 w A0 c0 l0 hA0 hm0 a1 wf1 A2 c2 l2 hA2 hs2 hm2 hn0 hn2
  · exact walk_big0 w A0 c0 l0 hA0 hm0 a1 wf1 A2 c2 l2 hA2 hs2 hm2 hn0

set_option maxRecDepth 100000 in
theorem lifted (os : Os) (started : os.Started) (H : Type) (enc : TypeId × Value → H) :
    ReturnsInHanded {} Try.checked os 4 .any (Rows.fnExactSetOfSpec.pre6 enc Try.prog Try.f4 Rows.fnExactSetOfRow.domain false) (Rows.fnExactSetOfSpec.post enc Try.prog Try.f4 false true false false) := by
  refine returnsInHanded_of_change (C := Try.checked) own started (by kernel_rfl) Try.func4
    (ChangeSpec.witness6 (enc := enc) (C := Try.checked) false ⟨#[], #[.slice none 0 0, .int .i64 0, .slice none 0 0], []⟩ 8 (by kernel_rfl) (by kernel_rfl) (by kernel_rfl) (by kernel_rfl)) ?_
  intro W base args ds gs before hval0 hW hcnd _
  have hval : ∀ (j : Nat) t v, Try.f4.params[j]? = some t → args[j]? = some v → Value.okWide Try.prog W .any base t v := hval0
  have hW' := hW
  obtain ⟨p, q, hA0, hV, rfl, hfz, hnd⟩ := hW
  have hA : DataW.TrodAll enc Try.prog W 0 (fun _ => true) true Try.f4.params.toList args.toList ds p := hA0
  rw [Try.params4] at hA hval
  obtain ⟨v0, vs0, d0, ds0, p0, q0, hargs, rfl, rfl, h0, r0⟩ := trodAll_cons hA
  obtain ⟨v1, vs1, d1, ds1, p1, q1, rfl, rfl, rfl, h1, r1⟩ := trodAll_cons r0
  obtain ⟨v2, vs2, d2, ds2, p2, q2, rfl, rfl, rfl, h2, r2⟩ := trodAll_cons r1
  obtain ⟨rfl, rfl, rfl⟩ := trodAll_nil r2
  obtain rfl : args = #[v0, v1, v2] := by cases args; simp_all
  obtain ⟨rfl, rfl⟩ := trodVars_none hV
  have k0 := h0
  have lt0 : ∀ x ∈ p0, x.block < W.heap.size := by obtain ⟨m, hm⟩ := k0; exact DataW.trod_lt m _ _ _ hm
  have k1 := h1
  have lt1 : ∀ x ∈ p1, x.block < W.heap.size := by obtain ⟨m, hm⟩ := k1; exact DataW.trod_lt m _ _ _ hm
  have k2 := h2
  have lt2 : ∀ x ∈ p2, x.block < W.heap.size := by obtain ⟨m, hm⟩ := k2; exact DataW.trod_lt m _ _ _ hm
  obtain ⟨A0, n0, c0, rfl⟩ := okWide_slice Try.underlying27 (hval 0 27 v0 rfl rfl)
  obtain ⟨l0, rfl, w0, m0⟩ := open_intsL h0
  obtain ⟨a1, rfl, _, _, w1⟩ := open_int Try.underlying3 (hval 1 3 v1 rfl rfl) h1
  obtain ⟨A2, n2, c2, rfl⟩ := okWide_slice Try.underlying22 (hval 2 22 v2 rfl rfl)
  obtain ⟨l2, rfl, w2, s2, m2⟩ := open_rowss h2
  clear hA0 hval0
  refine (walk W A0 c0 l0 w0 m0 a1 w1 A2 c2 l2 w2 s2 m2).mono fun e W' ⟨he, bel⟩ => ?_
  subst he
  exact ⟨_, rfl, _, _, _, [], _, [], hW', trodAll_mk1 (shut_bool Try.underlying4 _), (trodAll_cons_mk (Below.trod laidOut (by kernel_rfl) (of_decide_eq_true (by kernel_rfl)) k0 bel lt0) (trodAll_cons_mk (Below.trod laidOut (by kernel_rfl) (of_decide_eq_true (by kernel_rfl)) k1 bel lt1) (trodAll_cons_mk (Below.trod laidOut (by kernel_rfl) (of_decide_eq_true (by kernel_rfl)) k2 bel lt2) trodAll_mk0))), rfl, bel.frame _, fun h => by cases h⟩

theorem over : Rows.fnExactSetOfRow.holds Try.pinned (OpenSpec.ofChange Rows.fnExactSetOfSpec) :=
  OpenClaim.holds_of_wide 4 Try.f4 rfl rfl rfl rfl rfl rfl rfl ⟨rfl, rfl, rfl, rfl, rfl⟩ rfl rfl rfl rfl rfl (by kernel_rfl) Try.func4 (by kernel_rfl)
    (of_decide_eq_true (by kernel_rfl)) (by unfold Func.isWrapper; first | (rw [if_pos (by decide +kernel)]; kernel_rfl) | (rw [if_neg (by decide +kernel)]; exact ⟨rfl, rfl⟩))
    (fun os started H enc _ => lifted os started H enc)

theorem proved : Rows.FnExactSetOfSaid := over
#print axioms proved
end Go.Proofs.Ytdbogjhkcnajkaa.fnExactSetOf
