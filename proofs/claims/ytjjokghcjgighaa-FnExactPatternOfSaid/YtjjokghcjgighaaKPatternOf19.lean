/-
  The law FnExactPatternOf returns true for every two values: the program gives the pattern of a tuple for constants, and whether there is one, as the model does, in memory of its own, and leaves its arguments as they were. No condition.
-/
import Derived.Test.YtjjokghcjgighaaKPatternOf13
import Derived.Test.YtjjokghcjgighaaKPatternOf14
import Derived.Test.YtjjokghcjgighaaKPatternOf12
import Derived.Test.YtjjokghcjgighaaKPatternOf15
import Derived.Test.YtjjokghcjgighaaKPatternOf17
import Derived.Test.YtjjokghcjgighaaKPatternOf18
namespace Go.Proofs.Ytjjokghcjgighaa.fnExactPatternOf
open Go.ChangeShapes Go.WideShapes Go.ChangeAt Go.RowKit
set_option linter.unusedVariables false

theorem ownZ {w : World} {base size n len d : Nat} {e : TypeId} {B : Option Addr} {xs : List Value} (h : w.ownsRow base e size (.slice B n d) len xs) : B = none → d = 0 := by
  rintro rfl
  rcases h.2 with ⟨e1, _⟩ | ⟨g, cap, cur, e1, _⟩
  · injection e1
  · cases e1

namespace Args4
theorem box_lt {w : World} {g : Nat} {o : Obj} (h : w.heap[g]? = some o) : g < w.heap.size := (Array.getElem?_eq_some_iff.1 h).1
theorem row4 {w : World} {g : Nat} {a b c d : Value} {T : TypeId} (h : w.heap[g]? = some (.cells #[a, b, c, d] T (0, 0))) : w.cell? ⟨g, 0, none⟩ = some a ∧ w.cell? ⟨g, 1, none⟩ = some b ∧ w.cell? ⟨g, 2, none⟩ = some c ∧ w.cell? ⟨g, 3, none⟩ = some d := by
  refine ⟨?_, ?_, ?_, ?_⟩ <;> rw [cell_of_row w g _ _ _ _ h] <;> rfl
end Args4
theorem pairsAt_of {w : World} {base n : Nat} {e : TypeId} {B : Option Addr} {d : Nat} {l : List (Int × Int)} (h : w.ownsRow base e 2 (.slice B n d) l.length (cellsOf l)) : PairsAt w B l := by
  obtain ⟨A, c, ee, hp⟩ := own_pairsAt h
  injection ee with e1 e2 e3
  subst e1
  exact hp

theorem intsAt_of {w : World} {base n : Nat} {e : TypeId} {B : Option Addr} {d : Nat} {l : List Int} (h : w.ownsRow base e 1 (.slice B n d) l.length (icells l)) : IntsAt w B l := by
  obtain ⟨A, c, ee, hp⟩ := own_intsAt h
  injection ee with e1 e2 e3
  subst e1
  exact hp

set_option maxRecDepth 100000 in
set_option maxHeartbeats 16000000 in
theorem walk_big0 (w : World) (A0 : Option Addr) (c0 : Nat) (l0 : List Int) (hA0 : IntsAt w A0 l0) (hm0 : l0.length ≤ maxLen) (A1 : Option Addr) (c1 : Nat) (l1 : List Int) (hA1 : IntsAt w A1 l1) (hm1 : l1.length ≤ maxLen) (hn0 : ¬ l0.length ≤ 1048576) :
    Calls Try.prog 3 #[.slice A0 l0.length c0, .slice A1 l1.length c1] w fun e w' => e = .returned (.bool true) ∧ Below w.heap.size w w' := by
  unfold maxLen at hm0 hm1
  have hb0 : Below w.heap.size w w := (Below.refl _ w)
  have HI0 : Hid (∀ w' : World, Below w.heap.size w w' → IntsAt w' A0 l0) := Lib.hid (fun w' h => hA0.below (hb0.trans (h.mono hb0.size)))
  have HI1 : Hid (∀ w' : World, Below w.heap.size w w' → IntsAt w' A1 l1) := Lib.hid (fun w' h => hA1.below (hb0.trans (h.mono hb0.size)))
  clear hA0 hA1
  have HC0 : Hid (Below w.heap.size w w) := Lib.hid (Below.refl _ _)
  have HW0 := Lib.hid hb0
  clear hb0
  go_enter Try.func3, Try.ntmps3
  have hbig : 1048576 < l0.length := by omega
  have hfin := HW0.out
  clear hn0
  go_wp2
  go_ret
  exact ⟨rfl, hfin⟩

set_option maxRecDepth 100000 in
set_option maxHeartbeats 16000000 in
theorem walk_big1 (w : World) (A0 : Option Addr) (c0 : Nat) (l0 : List Int) (hA0 : IntsAt w A0 l0) (hm0 : l0.length ≤ maxLen) (A1 : Option Addr) (c1 : Nat) (l1 : List Int) (hA1 : IntsAt w A1 l1) (hm1 : l1.length ≤ maxLen) (hn0 : l0.length ≤ 1048576) (hn1 : ¬ l1.length ≤ 1048576) :
    Calls Try.prog 3 #[.slice A0 l0.length c0, .slice A1 l1.length c1] w fun e w' => e = .returned (.bool true) ∧ Below w.heap.size w w' := by
  unfold maxLen at hm0 hm1
  have hb0 : Below w.heap.size w w := (Below.refl _ w)
  have HI0 : Hid (∀ w' : World, Below w.heap.size w w' → IntsAt w' A0 l0) := Lib.hid (fun w' h => hA0.below (hb0.trans (h.mono hb0.size)))
  have HI1 : Hid (∀ w' : World, Below w.heap.size w w' → IntsAt w' A1 l1) := Lib.hid (fun w' h => hA1.below (hb0.trans (h.mono hb0.size)))
  clear hA0 hA1
  have HC0 : Hid (Below w.heap.size w w) := Lib.hid (Below.refl _ _)
  have HW0 := Lib.hid hb0
  clear hb0
  go_enter Try.func3, Try.ntmps3
  have hbig : 1048576 < l1.length := by omega
  have hfin := HW0.out
  clear hn1
  go_wp2
  go_ret
  exact ⟨rfl, hfin⟩

set_option maxRecDepth 100000 in
set_option maxHeartbeats 16000000 in
theorem walk_yes (w : World) (A0 : Option Addr) (c0 : Nat) (l0 : List Int) (hA0 : IntsAt w A0 l0) (hm0 : l0.length ≤ maxLen) (A1 : Option Addr) (c1 : Nat) (l1 : List Int) (hA1 : IntsAt w A1 l1) (hm1 : l1.length ≤ maxLen) (hn0 : l0.length ≤ 1048576) (hn1 : l1.length ≤ 1048576) :
    Calls Try.prog 3 #[.slice A0 l0.length c0, .slice A1 l1.length c1] w fun e w' => e = .returned (.bool true) ∧ Below w.heap.size w w' := by
  have HN0 : Hid (l0.length ≤ 1048576) := Lib.hid (by omega)
  have HN1 : Hid (l1.length ≤ 1048576) := Lib.hid (by omega)
  have hLL : (patR l0 l1).length ≤ 2097152 := by have := patR_len l0 l1; have := HN1.out; omega
  generalize hL : patR l0 l1 = L at hLL
  have HL := Lib.hid hL
  clear hL
  generalize hFF : patB l0 l1 = fl
  have HFL := Lib.hid hFF
  have hfl : (fl != fl) = false := by simp
  clear hFF
  unfold maxLen at hm0 hm1
  have hb0 : Below w.heap.size w w := (Below.refl _ w)
  have HI0 : Hid (∀ w' : World, Below w.heap.size w w' → IntsAt w' A0 l0) := Lib.hid (fun w' h => hA0.below (hb0.trans (h.mono hb0.size)))
  have HI1 : Hid (∀ w' : World, Below w.heap.size w w' → IntsAt w' A1 l1) := Lib.hid (fun w' h => hA1.below (hb0.trans (h.mono hb0.size)))
  clear hA0 hA1
  have HC0 : Hid (Below w.heap.size w w) := Lib.hid (Below.refl _ _)
  have HW0 := Lib.hid hb0
  clear hb0
  go_enter Try.func3, Try.ntmps3
  have HZ : Hid (w.heap.size ≤ w.heap.size) := Lib.hid HC0.out.size
  have hto := toIntS_any A0 c0 l0 w (HI0.out w HC0.out) (by have := HN0.out; omega)
  go_wp2_with fail
  (with_reducible refine hto.mono ?_)
  rintro e w1 ⟨v0, rfl, ho0, hb⟩
  obtain ⟨Bv0, dv0, rfl, hin0⟩ := own_intsAt ho0
  have hzz0 := ownZ ho0
  have s2 : w.heap.size ≤ w1.heap.size := hb.size
  have HC2 := Lib.hid (HC0.out.trans (hb.mono HC0.out.size))
  clear hto hb ho0 HC0
  have hto := toIntS_any A1 c1 l1 w1 (HI1.out w1 HC2.out) (by have := HN1.out; omega)
  go_wp2_with fail
  (with_reducible refine hto.mono ?_)
  rintro e w3 ⟨v1, rfl, ho1, hb⟩
  obtain ⟨Bv1, dv1, rfl, hin1⟩ := own_intsAt ho1
  have hzz1 := ownZ ho1
  replace hin0 := hin0.below hb
  have s4 : w1.heap.size ≤ w3.heap.size := hb.size
  have HC4 := Lib.hid (HC2.out.trans (hb.mono HC2.out.size))
  clear hto hb ho1 HC2
  have hsp := patternOf_spec Bv0 Bv1 dv0 dv1 l0 l1 w3 hin0 hzz0 hin1 (by have := HN0.out; omega) (by have := HN1.out; omega)
  rw [HL.out] at hsp
  rw [HFL.out] at hsp
  clear hin0 hin1
  go_wp2_with fail
  (with_reducible refine hsp.mono ?_)
  rintro e w5 ⟨vW, rfl, oW, hb⟩
  have s6 : w3.heap.size ≤ w5.heap.size := hb.size
  have HC6 := Lib.hid (HC4.out.trans (hb.mono HC4.out.size))
  have HRW := Lib.hid (show ∀ k, (vW : Value).ownBlock = some k → w3.heap.size ≤ k ∧ k < w5.heap.size from fun k hk => oW.lt k hk)
  have QW := Lib.hid oW
  clear hb HC4 oW
  clear hsp
  have hto := toIntS_any A0 c0 l0 w5 (HI0.out w5 HC6.out) (by have := HN0.out; omega)
  go_wp2_with fail
  refine hto.mono ?_
  rintro e w7 ⟨vX0, rfl, oX0, hb⟩
  obtain ⟨BX0, dX0, rfl, hq⟩ := own_intsAt oX0
  have s8 : w5.heap.size ≤ w7.heap.size := hb.size
  have QW_8 := Lib.hid (own_below QW.out hb)
  have HC8 := Lib.hid (HC6.out.trans (hb.mono HC6.out.size))
  have HRX0 := Lib.hid (show ∀ k, (.slice BX0 l0.length dX0 : Value).ownBlock = some k → w5.heap.size ≤ k ∧ k < w7.heap.size from fun k hk => oX0.lt k hk)
  have QX0 := Lib.hid oX0
  clear hto hb hq QW HC6 oX0
  have hto := toIntS_any A1 c1 l1 w7 (HI1.out w7 HC8.out) (by have := HN1.out; omega)
  go_wp2_with fail
  refine hto.mono ?_
  rintro e w9 ⟨vX1, rfl, oX1, hb⟩
  obtain ⟨BX1, dX1, rfl, hq⟩ := own_intsAt oX1
  have s10 : w7.heap.size ≤ w9.heap.size := hb.size
  have QW_10 := Lib.hid (own_below QW_8.out hb)
  have QX0_10 := Lib.hid (own_below QX0.out hb)
  have HC10 := Lib.hid (HC8.out.trans (hb.mono HC8.out.size))
  have HRX1 := Lib.hid (show ∀ k, (.slice BX1 l1.length dX1 : Value).ownBlock = some k → w7.heap.size ≤ k ∧ k < w9.heap.size from fun k hk => oX1.lt k hk)
  have QX1 := Lib.hid oX1
  clear hto hb hq QW_8 QX0 HC8 oX1
  have hsp := patternOf_impl BX0 BX1 dX0 dX1 l0 l1 w9 (intsAt_of QX0_10.out) (intsAt_of QX1.out) (by have := HN0.out; omega) (by have := HN1.out; omega)
  rw [HL.out] at hsp
  rw [HFL.out] at hsp
  go_wp2_with fail
  refine hsp.mono ?_
  rintro e w11 ⟨vG, rfl, oG, hb⟩
  have s12 : w9.heap.size ≤ w11.heap.size := hb.size
  have QW_12 := Lib.hid (own_below QW_10.out hb)
  have QX0_12 := Lib.hid (own_below QX0_10.out hb)
  have QX1_12 := Lib.hid (own_below QX1.out hb)
  have HC12 := Lib.hid (HC10.out.trans (hb.mono HC10.out.size))
  have HRG := Lib.hid (show ∀ k, (vG : Value).ownBlock = some k → w9.heap.size ≤ k ∧ k < w11.heap.size from fun k hk => oG.lt k hk)
  have QG := Lib.hid oG
  clear hb QW_10 QX0_10 QX1 HC10 oG
  clear hsp
  have heq := eqIntS_own _ _ _ _ L L w11 QG.out QW_12.out (by omega)
  rw [decide_eq_true (rfl : L = L)] at heq
  go_wp2_with fail
  refine heq.mono ?_
  rintro e w13 ⟨rfl, hb⟩
  have s14 : w11.heap.size ≤ w13.heap.size := hb.size
  have QW_14 := Lib.hid (own_below QW_12.out hb)
  have QX0_14 := Lib.hid (own_below QX0_12.out hb)
  have QX1_14 := Lib.hid (own_below QX1_12.out hb)
  have QG_14 := Lib.hid (own_below QG.out hb)
  have HC14 := Lib.hid (HC12.out.trans (hb.mono HC12.out.size))
  clear heq hb QW_12 QX0_12 QX1_12 QG HC12
  have hto := toIntS_any A0 c0 l0 w13 (HI0.out w13 HC14.out) (by have := HN0.out; omega)
  go_wp2_with fail
  refine hto.mono ?_
  rintro e w15 ⟨vv, rfl, ho, hb⟩
  have s16 : w13.heap.size ≤ w15.heap.size := hb.size
  have QW_16 := Lib.hid (own_below QW_14.out hb)
  have QX0_16 := Lib.hid (own_below QX0_14.out hb)
  have QX1_16 := Lib.hid (own_below QX1_14.out hb)
  have QG_16 := Lib.hid (own_below QG_14.out hb)
  have HC16 := Lib.hid (HC14.out.trans (hb.mono HC14.out.size))
  have heq := eqIntS_own _ _ _ _ l0 l0 w15 QX0_16.out ho (by have := HN0.out; omega)
  rw [decide_eq_true (rfl : l0 = l0)] at heq
  clear hto hb ho QW_14 QX0_14 QX1_14 QG_14 HC14
  go_wp2_with fail
  refine heq.mono ?_
  rintro e w17 ⟨rfl, hb⟩
  have s18 : w15.heap.size ≤ w17.heap.size := hb.size
  have QW_18 := Lib.hid (own_below QW_16.out hb)
  have QX0_18 := Lib.hid (own_below QX0_16.out hb)
  have QX1_18 := Lib.hid (own_below QX1_16.out hb)
  have QG_18 := Lib.hid (own_below QG_16.out hb)
  have HC18 := Lib.hid (HC16.out.trans (hb.mono HC16.out.size))
  clear heq hb QW_16 QX0_16 QX1_16 QG_16 HC16
  have hto := toIntS_any A1 c1 l1 w17 (HI1.out w17 HC18.out) (by have := HN1.out; omega)
  go_wp2_with fail
  refine hto.mono ?_
  rintro e w19 ⟨vv, rfl, ho, hb⟩
  have s20 : w17.heap.size ≤ w19.heap.size := hb.size
  have QW_20 := Lib.hid (own_below QW_18.out hb)
  have QX0_20 := Lib.hid (own_below QX0_18.out hb)
  have QX1_20 := Lib.hid (own_below QX1_18.out hb)
  have QG_20 := Lib.hid (own_below QG_18.out hb)
  have HC20 := Lib.hid (HC18.out.trans (hb.mono HC18.out.size))
  have heq := eqIntS_own _ _ _ _ l1 l1 w19 QX1_20.out ho (by have := HN1.out; omega)
  rw [decide_eq_true (rfl : l1 = l1)] at heq
  clear hto hb ho QW_18 QX0_18 QX1_18 QG_18 HC18
  go_wp2_with fail
  refine heq.mono ?_
  rintro e w21 ⟨rfl, hb⟩
  have s22 : w19.heap.size ≤ w21.heap.size := hb.size
  have QW_22 := Lib.hid (own_below QW_20.out hb)
  have QX0_22 := Lib.hid (own_below QX0_20.out hb)
  have QX1_22 := Lib.hid (own_below QX1_20.out hb)
  have QG_22 := Lib.hid (own_below QG_20.out hb)
  have HC22 := Lib.hid (HC20.out.trans (hb.mono HC20.out.size))
  clear heq hb QW_20 QX0_20 QX1_20 QG_20 HC20
  have hmk := markIntS_own _ l0.length (.slice BX0 l0.length dX0) _ (1) w21 QX0_22.out (by omega) (by have := HN0.out; omega)
  go_wp2_with fail
  (with_reducible refine hmk.mono ?_)
  rintro e w23 ⟨rfl, _, hg⟩
  have hon : Only (.slice BX0 l0.length dX0 : Value).ownBlock.toList w21 w23 := Only.of_grown hg (fun b e => by rw [e]; simp)
  have HTM0 : Hid (∀ b ∈ (.slice BX0 l0.length dX0 : Value).ownBlock.toList, _ ∧ _) := Lib.hid (fun b hb => HRX0.out b (by simpa using hb))
  have s24 : w21.heap.size ≤ w23.heap.size := hon.size
  have QW_24 := Lib.hid (own_only QW_22.out hon (fun k e hm => by have h1 := HTM0.out _ hm; have h2 := HRW.out _ e; omega))
  have QX1_24 := Lib.hid (own_only QX1_22.out hon (fun k e hm => by have h1 := HTM0.out _ hm; have h2 := HRX1.out _ e; omega))
  have QG_24 := Lib.hid (own_only QG_22.out hon (fun k e hm => by have h1 := HTM0.out _ hm; have h2 := HRG.out _ e; omega))
  have HC24 := Lib.hid (Only.below HC22.out hon HC22.out.size (fun b hb => by have := HTM0.out _ hb; have := HZ.out; omega))
  clear hmk hg hon QX0_22 QW_22 QX1_22 QG_22 HC22
  have hmk := markIntS_own _ l1.length (.slice BX1 l1.length dX1) _ (1 + (l0.length : Int)) w23 QX1_24.out (by omega) (by have := HN1.out; omega)
  go_wp2_with fail
  (with_reducible refine hmk.mono ?_)
  rintro e w25 ⟨rfl, _, hg⟩
  have hon : Only (.slice BX1 l1.length dX1 : Value).ownBlock.toList w23 w25 := Only.of_grown hg (fun b e => by rw [e]; simp)
  have HTM1 : Hid (∀ b ∈ (.slice BX1 l1.length dX1 : Value).ownBlock.toList, _ ∧ _) := Lib.hid (fun b hb => HRX1.out b (by simpa using hb))
  have s26 : w23.heap.size ≤ w25.heap.size := hon.size
  have QW_26 := Lib.hid (own_only QW_24.out hon (fun k e hm => by have h1 := HTM1.out _ hm; have h2 := HRW.out _ e; omega))
  have QG_26 := Lib.hid (own_only QG_24.out hon (fun k e hm => by have h1 := HTM1.out _ hm; have h2 := HRG.out _ e; omega))
  have HC26 := Lib.hid (Only.below HC24.out hon HC24.out.size (fun b hb => by have := HTM1.out _ hb; have := HZ.out; omega))
  clear hmk hg hon QX1_24 QW_24 QG_24 HC24
  have tk : ¬ 1 + (l0.length : Int) + (l1.length : Int) < 0 := by omega
  have heq := eqIntS_own _ _ _ _ L L w25 QG_26.out QW_26.out (by omega)
  rw [decide_eq_true (rfl : L = L)] at heq
  go_wp2_with fail
  refine heq.mono ?_
  rintro e w27 ⟨rfl, hb⟩
  have s28 : w25.heap.size ≤ w27.heap.size := hb.size
  have QW_28 := Lib.hid (own_below QW_26.out hb)
  have QG_28 := Lib.hid (own_below QG_26.out hb)
  have HC28 := Lib.hid (HC26.out.trans (hb.mono HC26.out.size))
  clear heq hb QW_26 QG_26 HC26
  have hmi := markIntS_own _ L.length vG _ 1 w27 QG_28.out (by omega) (by omega)
  go_wp2_with fail
  refine hmi.mono ?_
  rintro e w29 ⟨rfl, om, hg⟩
  have hon : Only vG.ownBlock.toList w27 w29 := Only.of_grown hg (fun b e => by rw [e]; simp)
  have HTG : Hid (∀ b ∈ vG.ownBlock.toList, _ ∧ _) := Lib.hid (fun b hb => HRG.out b (by simpa using hb))
  have s30 : w27.heap.size ≤ w29.heap.size := hon.size
  have QW_30 := Lib.hid (own_only QW_28.out hon (fun k e hm => by have h1 := HTG.out _ hm; have h2 := HRW.out _ e; omega))
  have HC30 := Lib.hid (Only.below HC28.out hon HC28.out.size (fun b hb => by have := HTG.out _ hb; have := HZ.out; omega))
  have QM := Lib.hid om
  clear hmi hg hon om QG_28 QW_28 HC28
  have tm : ¬ 1 + (L.length : Int) < 0 := by omega
  have tq : (1 + (L.length : Int) != 1 + (L.length : Int)) = false := by simp
  have hhi := heldIntS_own _ L.length vG 1 w29 QM.out (by omega) (by omega)
  go_wp2_with fail
  refine hhi.mono ?_
  rintro e w' ⟨rfl, rfl⟩
  clear hhi
  have hto := toIntS_any A0 c0 l0 w29 (HI0.out w29 HC30.out) (by have := HN0.out; omega)
  go_wp2_with fail
  (with_reducible refine hto.mono ?_)
  rintro e w31 ⟨v0, rfl, ho0, hb⟩
  obtain ⟨Bv0, dv0, rfl, hin0⟩ := own_intsAt ho0
  have hzz0 := ownZ ho0
  have s32 : w29.heap.size ≤ w31.heap.size := hb.size
  have QW_32 := Lib.hid (own_below QW_30.out hb)
  have QM_32 := Lib.hid (own_below QM.out hb)
  have HC32 := Lib.hid (HC30.out.trans (hb.mono HC30.out.size))
  clear hto hb ho0 QW_30 QM HC30
  have hto := toIntS_any A1 c1 l1 w31 (HI1.out w31 HC32.out) (by have := HN1.out; omega)
  go_wp2_with fail
  (with_reducible refine hto.mono ?_)
  rintro e w33 ⟨v1, rfl, ho1, hb⟩
  obtain ⟨Bv1, dv1, rfl, hin1⟩ := own_intsAt ho1
  have hzz1 := ownZ ho1
  replace hin0 := hin0.below hb
  have s34 : w31.heap.size ≤ w33.heap.size := hb.size
  have QW_34 := Lib.hid (own_below QW_32.out hb)
  have QM_34 := Lib.hid (own_below QM_32.out hb)
  have HC34 := Lib.hid (HC32.out.trans (hb.mono HC32.out.size))
  clear hto hb ho1 QW_32 QM_32 HC32
  have hsp := patternOf_impl Bv0 Bv1 dv0 dv1 l0 l1 w33 hin0 hin1 (by have := HN0.out; omega) (by have := HN1.out; omega)
  rw [HL.out] at hsp
  rw [HFL.out] at hsp
  clear hin0 hin1
  go_wp2_with fail
  (with_reducible refine hsp.mono ?_)
  rintro e w35 ⟨vH, rfl, oH, hb⟩
  have s36 : w33.heap.size ≤ w35.heap.size := hb.size
  have QW_36 := Lib.hid (own_below QW_34.out hb)
  have QM_36 := Lib.hid (own_below QM_34.out hb)
  have HC36 := Lib.hid (HC34.out.trans (hb.mono HC34.out.size))
  have HRH := Lib.hid (show ∀ k, (vH : Value).ownBlock = some k → w33.heap.size ≤ k ∧ k < w35.heap.size from fun k hk => oH.lt k hk)
  have QH := Lib.hid oH
  clear hb QW_34 QM_34 HC34 oH
  clear hsp
  have heq := eqIntS_own _ _ _ _ L L w35 QH.out QW_36.out (by omega)
  rw [decide_eq_true (rfl : L = L)] at heq
  go_wp2_with fail
  refine heq.mono ?_
  rintro e w37 ⟨rfl, hb⟩
  have s38 : w35.heap.size ≤ w37.heap.size := hb.size
  have QW_38 := Lib.hid (own_below QW_36.out hb)
  have QM_38 := Lib.hid (own_below QM_36.out hb)
  have QH_38 := Lib.hid (own_below QH.out hb)
  have HC38 := Lib.hid (HC36.out.trans (hb.mono HC36.out.size))
  clear heq hb QW_36 QM_36 QH HC36
  have hhi := heldIntS_own _ L.length vG 1 w37 QM_38.out (by omega) (by omega)
  go_wp2_with fail
  refine hhi.mono ?_
  rintro e w' ⟨rfl, rfl⟩
  clear hhi
  have hfin := HW0.out.trans (HC38.out.mono HW0.out.size)
  go_wp2
  go_ret
  exact ⟨rfl, hfin⟩

theorem walk (w : World) (A0 : Option Addr) (c0 : Nat) (l0 : List Int) (hA0 : IntsAt w A0 l0) (hm0 : l0.length ≤ maxLen) (A1 : Option Addr) (c1 : Nat) (l1 : List Int) (hA1 : IntsAt w A1 l1) (hm1 : l1.length ≤ maxLen) :
    Calls Try.prog 3 #[.slice A0 l0.length c0, .slice A1 l1.length c1] w fun e w' => e = .returned (.bool true) ∧ Below w.heap.size w w' := by
  by_cases hn0 : l0.length ≤ 1048576
  · skip
    by_cases hn1 : l1.length ≤ 1048576
    · skip
      exact walk_yes w A0 c0 l0 hA0 hm0 A1 c1 l1 hA1 hm1 hn0 hn1
    · exact walk_big1 w A0 c0 l0 hA0 hm0 A1 c1 l1 hA1 hm1 hn0 hn1
  · exact walk_big0 w A0 c0 l0 hA0 hm0 A1 c1 l1 hA1 hm1 hn0

set_option maxRecDepth 100000 in
theorem lifted (os : Os) (started : os.Started) (H : Type) (enc : TypeId × Value → H) :
    ReturnsInHanded {} Try.checked os 3 .any (Rows.fnExactPatternOfSpec.pre6 enc Try.prog Try.f3 Rows.fnExactPatternOfRow.domain false) (Rows.fnExactPatternOfSpec.post enc Try.prog Try.f3 false true false false) := by
  refine returnsInHanded_of_change (C := Try.checked) own started (by kernel_rfl) Try.func3
    (ChangeSpec.witness6 (enc := enc) (C := Try.checked) false ⟨#[], #[.slice none 0 0, .slice none 0 0], []⟩ 8 (by kernel_rfl) (by kernel_rfl) (by kernel_rfl) (by kernel_rfl)) ?_
  intro W base args ds gs before hval0 hW hcnd _
  have hval : ∀ (j : Nat) t v, Try.f3.params[j]? = some t → args[j]? = some v → Value.okWide Try.prog W .any base t v := hval0
  have hW' := hW
  obtain ⟨p, q, hA0, hV, rfl, hfz, hnd⟩ := hW
  have hA : DataW.TrodAll enc Try.prog W 0 (fun _ => true) true Try.f3.params.toList args.toList ds p := hA0
  rw [Try.params3] at hA hval
  obtain ⟨v0, vs0, d0, ds0, p0, q0, hargs, rfl, rfl, h0, r0⟩ := trodAll_cons hA
  obtain ⟨v1, vs1, d1, ds1, p1, q1, rfl, rfl, rfl, h1, r1⟩ := trodAll_cons r0
  obtain ⟨rfl, rfl, rfl⟩ := trodAll_nil r1
  obtain rfl : args = #[v0, v1] := by cases args; simp_all
  obtain ⟨rfl, rfl⟩ := trodVars_none hV
  have k0 := h0
  have lt0 : ∀ x ∈ p0, x.block < W.heap.size := by obtain ⟨m, hm⟩ := k0; exact DataW.trod_lt m _ _ _ hm
  have k1 := h1
  have lt1 : ∀ x ∈ p1, x.block < W.heap.size := by obtain ⟨m, hm⟩ := k1; exact DataW.trod_lt m _ _ _ hm
  obtain ⟨A0, n0, c0, rfl⟩ := okWide_slice Try.underlying22 (hval 0 22 v0 rfl rfl)
  obtain ⟨l0, rfl, w0, m0⟩ := open_intsL h0
  obtain ⟨A1, n1, c1, rfl⟩ := okWide_slice Try.underlying22 (hval 1 22 v1 rfl rfl)
  obtain ⟨l1, rfl, w1, m1⟩ := open_intsL h1
  clear hA0 hval0
  refine (walk W A0 c0 l0 w0 m0 A1 c1 l1 w1 m1).mono fun e W' ⟨he, bel⟩ => ?_
  subst he
  exact ⟨_, rfl, _, _, _, [], _, [], hW', trodAll_mk1 (shut_bool Try.underlying4 _), (trodAll_cons_mk (Below.trod laidOut (by kernel_rfl) (of_decide_eq_true (by kernel_rfl)) k0 bel lt0) (trodAll_cons_mk (Below.trod laidOut (by kernel_rfl) (of_decide_eq_true (by kernel_rfl)) k1 bel lt1) trodAll_mk0)), rfl, bel.frame _, fun h => by cases h⟩

theorem over : Rows.fnExactPatternOfRow.holds Try.pinned (OpenSpec.ofChange Rows.fnExactPatternOfSpec) :=
  OpenClaim.holds_of_wide 3 Try.f3 rfl rfl rfl rfl rfl rfl rfl ⟨rfl, rfl, rfl, rfl, rfl⟩ rfl rfl rfl rfl rfl (by kernel_rfl) Try.func3 (by kernel_rfl)
    (of_decide_eq_true (by kernel_rfl)) (by unfold Func.isWrapper; first | (rw [if_pos (by decide +kernel)]; kernel_rfl) | (rw [if_neg (by decide +kernel)]; exact ⟨rfl, rfl⟩))
    (fun os started H enc _ => lifted os started H enc)

theorem proved : Rows.FnExactPatternOfSaid := over
#print axioms proved
end Go.Proofs.Ytjjokghcjgighaa.fnExactPatternOf
