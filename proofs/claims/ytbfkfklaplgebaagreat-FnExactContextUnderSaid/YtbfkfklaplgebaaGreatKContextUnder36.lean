/-
  The law FnExactContextUnder returns true for every two values: the program gives what a context says under a substitution, and whether it can hold, as the model does, in memory of its own, and leaves its arguments as they were. No condition.
-/
import Derived.Test.YtbfkfklaplgebaaGreatKContextUnder9
import Derived.Test.YtbfkfklaplgebaaGreatKContextUnder11
import Derived.Test.YtbfkfklaplgebaaGreatKContextUnder10
import Derived.Test.YtbfkfklaplgebaaGreatKContextUnder7
import Derived.Test.YtbfkfklaplgebaaGreatKContextUnder5
import Derived.Test.YtbfkfklaplgebaaGreatKContextUnder8
import Derived.Test.YtbfkfklaplgebaaGreatKContextUnder31
import Derived.Test.YtbfkfklaplgebaaGreatKContextUnder35
namespace Go.Proofs.YtbfkfklaplgebaaGreat.fnExactContextUnder
open Go.ChangeShapes Go.WideShapes Go.ChangeAt Go.RowKit
set_option linter.unusedVariables false

namespace Args4
theorem box_lt {w : World} {g : Nat} {o : Obj} (h : w.heap[g]? = some o) : g < w.heap.size := (Array.getElem?_eq_some_iff.1 h).1
theorem row4 {w : World} {g : Nat} {a b c d : Value} {T : TypeId} (h : w.heap[g]? = some (.cells #[a, b, c, d] T (0, 0))) : w.cell? ⟨g, 0, none⟩ = some a ∧ w.cell? ⟨g, 1, none⟩ = some b ∧ w.cell? ⟨g, 2, none⟩ = some c ∧ w.cell? ⟨g, 3, none⟩ = some d := by
  refine ⟨?_, ?_, ?_, ?_⟩ <;> rw [cell_of_row w g _ _ _ _ h] <;> rfl
end Args4
theorem pairsAt_of {w : World} {base n : Nat} {e : TypeId} {B : Option Addr} {d : Nat} {l : List (Int × Int)} (h : w.ownsRow base e 2 (.slice B n d) l.length (cellsOf l)) : PairsAt w B l := by
  obtain ⟨A, c, ee, hp⟩ := own_pairsAt h
  injection ee with e1 e2 e3
  subst e1
  exact hp

set_option maxRecDepth 100000 in
set_option maxHeartbeats 16000000 in
theorem walk_no0 (w : World) (A0 : Option Addr) (c0 : Nat) (l0 : List RBinding) (hA0 : RBindingsIn w (.slice A0 l0.length c0) l0) (hs0 : ShortRBindings l0) (hm0 : l0.length ≤ maxLen) (A1 : Option Addr) (c1 : Nat) (l1 : List (Int × Int)) (hA1 : PairsAt w A1 l1) (hm1 : l1.length ≤ maxLen) (hn0 : ¬ ((l0.length + sumRBinding l0 : Nat) : Int) ≤ 1048576) :
    Calls Tryz.prog 9 #[.slice A0 l0.length c0, .slice A1 l1.length c1] w fun e w' => e = .returned (.bool true) ∧ Below w.heap.size w w' := by
  unfold maxLen at hm1
  have hb0 : Below w.heap.size w w := (Below.refl _ w)
  have HI1 : Hid (∀ w' : World, Below w.heap.size w w' → PairsAt w' A1 l1) := Lib.hid (fun w' h => hA1.below (hb0.trans (h.mono hb0.size)))
  have HI0 : Hid (∀ w' : World, Below w.heap.size w w' → RBindingsIn w' (.slice A0 l0.length c0) l0) := Lib.hid (fun w' h => hA0.below (hb0.trans (h.mono hb0.size)))
  clear hA1 hA0
  have HC0 : Hid (Below w.heap.size w w) := Lib.hid (Below.refl _ _)
  have HW0 := Lib.hid hb0
  clear hb0
  go_enter Tryz.func9, Tryz.ntmps9
  have hsz := szBindingS_any l0 hs0 hm0 (1048576) w _ (by omega) (by omega) (HI0.out w HC0.out)
  unfold LeftPost at hsz
  rw [leftR_no (by omega)] at hsz
  go_wp2_with fail
  refine hsz.mono ?_
  rintro e u1 ⟨rfl, hb⟩
  clear hsz
  have s2 : w.heap.size ≤ u1.heap.size := hb.size
  have HC2 := Lib.hid (HC0.out.trans (hb.mono HC0.out.size))
  clear hb HC0
  have hfin := HW0.out.trans (HC2.out.mono HW0.out.size)
  go_wp2
  go_ret
  exact ⟨rfl, hfin⟩

set_option maxRecDepth 100000 in
set_option maxHeartbeats 16000000 in
theorem walk_no1 (w : World) (A0 : Option Addr) (c0 : Nat) (l0 : List RBinding) (hA0 : RBindingsIn w (.slice A0 l0.length c0) l0) (hs0 : ShortRBindings l0) (hm0 : l0.length ≤ maxLen) (A1 : Option Addr) (c1 : Nat) (l1 : List (Int × Int)) (hA1 : PairsAt w A1 l1) (hm1 : l1.length ≤ maxLen) (hn0 : ((l0.length + sumRBinding l0 : Nat) : Int) ≤ 1048576) (hn1 : ¬ (l1.length : Int) ≤ 1048576 - ((l0.length + sumRBinding l0 : Nat) : Int)) :
    Calls Tryz.prog 9 #[.slice A0 l0.length c0, .slice A1 l1.length c1] w fun e w' => e = .returned (.bool true) ∧ Below w.heap.size w w' := by
  unfold maxLen at hm1
  have hb0 : Below w.heap.size w w := (Below.refl _ w)
  have HI1 : Hid (∀ w' : World, Below w.heap.size w w' → PairsAt w' A1 l1) := Lib.hid (fun w' h => hA1.below (hb0.trans (h.mono hb0.size)))
  have HI0 : Hid (∀ w' : World, Below w.heap.size w w' → RBindingsIn w' (.slice A0 l0.length c0) l0) := Lib.hid (fun w' h => hA0.below (hb0.trans (h.mono hb0.size)))
  clear hA1 hA0
  have HC0 : Hid (Below w.heap.size w w) := Lib.hid (Below.refl _ _)
  have HW0 := Lib.hid hb0
  clear hb0
  go_enter Tryz.func9, Tryz.ntmps9
  have hsz := szBindingS_any l0 hs0 hm0 (1048576) w _ (by omega) (by omega) (HI0.out w HC0.out)
  unfold LeftPost at hsz
  rw [leftR_yes hn0] at hsz
  have hleft0 : ¬ 1048576 - ((l0.length + sumRBinding l0 : Nat) : Int) < 0 := by omega
  go_wp2_with fail
  refine hsz.mono ?_
  rintro e u1 ⟨rfl, hb⟩
  clear hsz
  have s2 : w.heap.size ≤ u1.heap.size := hb.size
  have HC2 := Lib.hid (HC0.out.trans (hb.mono HC0.out.size))
  clear hb HC0
  go_wp2_with fail
  refine (szF_no A1 l1.length c1 (1048576 - ((l0.length + sumRBinding l0 : Nat) : Int)) _ (by omega) (by omega) (by omega) (by omega)).mono ?_
  rintro e w' ⟨rfl, rfl⟩
  have hfin := HW0.out.trans (HC2.out.mono HW0.out.size)
  go_wp2
  go_ret
  exact ⟨rfl, hfin⟩

set_option maxRecDepth 100000 in
set_option maxHeartbeats 16000000 in
theorem walk_yes (w : World) (A0 : Option Addr) (c0 : Nat) (l0 : List RBinding) (hA0 : RBindingsIn w (.slice A0 l0.length c0) l0) (hs0 : ShortRBindings l0) (hm0 : l0.length ≤ maxLen) (A1 : Option Addr) (c1 : Nat) (l1 : List (Int × Int)) (hA1 : PairsAt w A1 l1) (hm1 : l1.length ≤ maxLen) (hn0 : ((l0.length + sumRBinding l0 : Nat) : Int) ≤ 1048576) (hn1 : (l1.length : Int) ≤ 1048576 - ((l0.length + sumRBinding l0 : Nat) : Int)) :
    Calls Tryz.prog 9 #[.slice A0 l0.length c0, .slice A1 l1.length c1] w fun e w' => e = .returned (.bool true) ∧ Below w.heap.size w w' := by
  have HL0 : Hid (l0.length ≤ 1048576) := Lib.hid (by omega)
  have HN0 : Hid (∀ k, k < l0.length → cntRBinding (atRBinding l0 k) ≤ 1048576) := Lib.hid (fun k hk => by have := cntRBinding_le hk; omega)
  have HF0 : Hid (FitRBindings l0) := Lib.hid (fun k hk => fit_of _ (HN0.out k hk))
  have HN1 : Hid (l1.length ≤ 1048576) := Lib.hid (by omega)
  have hLL : (cuL l0 l1).length ≤ 2097152 := by have := cuL_len l0 l1; omega
  generalize hL : cuL l0 l1 = L at hLL
  have HL := Lib.hid hL
  clear hL
  generalize hFF : cuB l0 l1 = fl
  have HFL := Lib.hid hFF
  have hfl : (fl != fl) = false := by simp
  clear hFF
  unfold maxLen at hm1
  have hb0 : Below w.heap.size w w := (Below.refl _ w)
  have HI1 : Hid (∀ w' : World, Below w.heap.size w w' → PairsAt w' A1 l1) := Lib.hid (fun w' h => hA1.below (hb0.trans (h.mono hb0.size)))
  have HI0 : Hid (∀ w' : World, Below w.heap.size w w' → RBindingsIn w' (.slice A0 l0.length c0) l0) := Lib.hid (fun w' h => hA0.below (hb0.trans (h.mono hb0.size)))
  clear hA1 hA0
  have HC0 : Hid (Below w.heap.size w w) := Lib.hid (Below.refl _ _)
  have HW0 := Lib.hid hb0
  clear hb0
  go_enter Tryz.func9, Tryz.ntmps9
  have hsz := szBindingS_any l0 hs0 hm0 (1048576) w _ (by omega) (by omega) (HI0.out w HC0.out)
  unfold LeftPost at hsz
  rw [leftR_yes hn0] at hsz
  have hleft0 : ¬ 1048576 - ((l0.length + sumRBinding l0 : Nat) : Int) < 0 := by omega
  go_wp2_with fail
  refine hsz.mono ?_
  rintro e u1 ⟨rfl, hb⟩
  clear hsz
  have s2 : w.heap.size ≤ u1.heap.size := hb.size
  have HC2 := Lib.hid (HC0.out.trans (hb.mono HC0.out.size))
  clear hb HC0
  have hleft1 : ¬ 1048576 - ((l0.length + sumRBinding l0 : Nat) : Int) - (l1.length : Int) < 0 := by omega
  go_wp2_with fail
  refine (szF_yes A1 l1.length c1 (1048576 - ((l0.length + sumRBinding l0 : Nat) : Int)) _ (by omega) (by omega) hn1).mono ?_
  rintro e w' ⟨rfl, rfl⟩
  have HZ : Hid (w.heap.size ≤ u1.heap.size) := Lib.hid HC2.out.size
  have hto := toBindingS_any l0 HF0.out HL0.out u1 _ (HI0.out u1 HC2.out)
  go_wp2_with fail
  (with_reducible refine hto.mono ?_)
  rintro e w3 ⟨v0, S0, rfl, hL0, _, hb⟩
  have hin0 := ownRBindings_in hL0
  have s4 : u1.heap.size ≤ w3.heap.size := hb.size
  have HC4 := Lib.hid (HC2.out.trans (hb.mono HC2.out.size))
  clear hto hb hL0 HC2
  have hto := toFreshS_any A1 c1 l1 w3 (HI1.out w3 HC4.out) (by have := HN1.out; omega)
  go_wp2_with fail
  (with_reducible refine hto.mono ?_)
  rintro e w5 ⟨v1, rfl, ho1, hb⟩
  obtain ⟨Bv1, dv1, rfl, hin1⟩ := own_pairsAt ho1
  replace hin0 := hin0.below hb
  have s6 : w3.heap.size ≤ w5.heap.size := hb.size
  have HC6 := Lib.hid (HC4.out.trans (hb.mono HC4.out.size))
  clear hto hb ho1 HC4
  have hsp := contextUnder_spec l0 l1 _ Bv1 dv1 w5 hin0 hin1 HL0.out HN0.out HN1.out
  rw [HL.out] at hsp
  rw [HFL.out] at hsp
  clear hin0 hin1
  go_wp2_with fail
  (with_reducible refine hsp.mono ?_)
  rintro e w7 ⟨vW, rfl, oW, hb⟩
  have s8 : w5.heap.size ≤ w7.heap.size := hb.size
  have HC8 := Lib.hid (HC6.out.trans (hb.mono HC6.out.size))
  have HRW := Lib.hid (show ∀ k, (vW : Value).ownBlock = some k → w5.heap.size ≤ k ∧ k < w7.heap.size from fun k hk => oW.lt k hk)
  have QW := Lib.hid oW
  clear hb HC6 oW
  clear hsp
  have hto := toBindingS_any l0 HF0.out HL0.out w7 _ (HI0.out w7 HC8.out)
  go_wp2_with fail
  refine hto.mono ?_
  rintro e w9 ⟨vX0, SX0, rfl, hL, hS, hb⟩
  have s10 : w7.heap.size ≤ w9.heap.size := hb.size
  have QW_10 := Lib.hid (own_below QW.out hb)
  have HC10 := Lib.hid (HC8.out.trans (hb.mono HC8.out.size))
  have HTX0 : Hid (∀ b ∈ SX0, w7.heap.size ≤ b ∧ b < w9.heap.size) := Lib.hid (fun b hb => ⟨hS b hb, hL.lt b hb⟩)
  have NX0 := Lib.hid hL
  clear hto hb hS QW HC8 hL
  have hto := toFreshS_any A1 c1 l1 w9 (HI1.out w9 HC10.out) (by have := HN1.out; omega)
  go_wp2_with fail
  refine hto.mono ?_
  rintro e w11 ⟨vX1, rfl, oX1, hb⟩
  obtain ⟨BX1, dX1, rfl, hq⟩ := own_pairsAt oX1
  have s12 : w9.heap.size ≤ w11.heap.size := hb.size
  have NX0_12 := Lib.hid (NX0.out.alike (w' := w11) fun bb hbb => hb.block bb (NX0.out.lt bb hbb))
  have QW_12 := Lib.hid (own_below QW_10.out hb)
  have HC12 := Lib.hid (HC10.out.trans (hb.mono HC10.out.size))
  have HRX1 := Lib.hid (show ∀ k, (.slice BX1 l1.length dX1 : Value).ownBlock = some k → w9.heap.size ≤ k ∧ k < w11.heap.size from fun k hk => oX1.lt k hk)
  have QX1 := Lib.hid oX1
  clear hto hb hq NX0 QW_10 HC10 oX1
  have hsp := contextUnder_impl l0 l1 _ BX1 dX1 w11 (ownRBindings_in NX0_12.out) (pairsAt_of QX1.out) HL0.out HN0.out HN1.out
  rw [HL.out] at hsp
  rw [HFL.out] at hsp
  go_wp2_with fail
  refine hsp.mono ?_
  rintro e w13 ⟨vG, rfl, oG, hb⟩
  have s14 : w11.heap.size ≤ w13.heap.size := hb.size
  have NX0_14 := Lib.hid (NX0_12.out.alike (w' := w13) fun bb hbb => hb.block bb (NX0_12.out.lt bb hbb))
  have QW_14 := Lib.hid (own_below QW_12.out hb)
  have QX1_14 := Lib.hid (own_below QX1.out hb)
  have HC14 := Lib.hid (HC12.out.trans (hb.mono HC12.out.size))
  have HRG := Lib.hid (show ∀ k, (vG : Value).ownBlock = some k → w11.heap.size ≤ k ∧ k < w13.heap.size from fun k hk => oG.lt k hk)
  have QG := Lib.hid oG
  clear hb NX0_12 QW_12 QX1 HC12 oG
  clear hsp
  have heq := eqFreshS_own _ _ _ _ L L w13 QG.out QW_14.out (by omega)
  rw [decide_eq_true (rfl : L = L)] at heq
  go_wp2_with fail
  refine heq.mono ?_
  rintro e w15 ⟨rfl, hb⟩
  have s16 : w13.heap.size ≤ w15.heap.size := hb.size
  have NX0_16 := Lib.hid (NX0_14.out.alike (w' := w15) fun bb hbb => hb.block bb (NX0_14.out.lt bb hbb))
  have QW_16 := Lib.hid (own_below QW_14.out hb)
  have QX1_16 := Lib.hid (own_below QX1_14.out hb)
  have QG_16 := Lib.hid (own_below QG.out hb)
  have HC16 := Lib.hid (HC14.out.trans (hb.mono HC14.out.size))
  clear heq hb NX0_14 QW_14 QX1_14 QG HC14
  have hto := toBindingS_any l0 HF0.out HL0.out w15 _ (HI0.out w15 HC16.out)
  go_wp2_with fail
  refine hto.mono ?_
  rintro e w17 ⟨vv, SS, rfl, hL, _, hb⟩
  have s18 : w15.heap.size ≤ w17.heap.size := hb.size
  have NX0_18 := Lib.hid (NX0_16.out.alike (w' := w17) fun bb hbb => hb.block bb (NX0_16.out.lt bb hbb))
  have QW_18 := Lib.hid (own_below QW_16.out hb)
  have QX1_18 := Lib.hid (own_below QX1_16.out hb)
  have QG_18 := Lib.hid (own_below QG_16.out hb)
  have HC18 := Lib.hid (HC16.out.trans (hb.mono HC16.out.size))
  have heq := eqBindingS_any l0 HF0.out HL0.out w17 _ _ (ownRBindings_in NX0_18.out) (ownRBindings_in hL)
  clear hto hb hL NX0_16 QW_16 QX1_16 QG_16 HC16
  go_wp2_with fail
  refine heq.mono ?_
  rintro e w19 ⟨rfl, hb⟩
  have s20 : w17.heap.size ≤ w19.heap.size := hb.size
  have NX0_20 := Lib.hid (NX0_18.out.alike (w' := w19) fun bb hbb => hb.block bb (NX0_18.out.lt bb hbb))
  have QW_20 := Lib.hid (own_below QW_18.out hb)
  have QX1_20 := Lib.hid (own_below QX1_18.out hb)
  have QG_20 := Lib.hid (own_below QG_18.out hb)
  have HC20 := Lib.hid (HC18.out.trans (hb.mono HC18.out.size))
  clear heq hb NX0_18 QW_18 QX1_18 QG_18 HC18
  have hto := toFreshS_any A1 c1 l1 w19 (HI1.out w19 HC20.out) (by have := HN1.out; omega)
  go_wp2_with fail
  refine hto.mono ?_
  rintro e w21 ⟨vv, rfl, ho, hb⟩
  have s22 : w19.heap.size ≤ w21.heap.size := hb.size
  have NX0_22 := Lib.hid (NX0_20.out.alike (w' := w21) fun bb hbb => hb.block bb (NX0_20.out.lt bb hbb))
  have QW_22 := Lib.hid (own_below QW_20.out hb)
  have QX1_22 := Lib.hid (own_below QX1_20.out hb)
  have QG_22 := Lib.hid (own_below QG_20.out hb)
  have HC22 := Lib.hid (HC20.out.trans (hb.mono HC20.out.size))
  have heq := eqFreshS_own _ _ _ _ l1 l1 w21 QX1_22.out ho (by have := HN1.out; omega)
  rw [decide_eq_true (rfl : l1 = l1)] at heq
  clear hto hb ho NX0_20 QW_20 QX1_20 QG_20 HC20
  go_wp2_with fail
  refine heq.mono ?_
  rintro e w23 ⟨rfl, hb⟩
  have s24 : w21.heap.size ≤ w23.heap.size := hb.size
  have NX0_24 := Lib.hid (NX0_22.out.alike (w' := w23) fun bb hbb => hb.block bb (NX0_22.out.lt bb hbb))
  have QW_24 := Lib.hid (own_below QW_22.out hb)
  have QX1_24 := Lib.hid (own_below QX1_22.out hb)
  have QG_24 := Lib.hid (own_below QG_22.out hb)
  have HC24 := Lib.hid (HC22.out.trans (hb.mono HC22.out.size))
  clear heq hb NX0_22 QW_22 QX1_22 QG_22 HC22
  have hml0 := mcRBindings_le l0
  have hmk := markBindingS_any l0 HL0.out HF0.out SX0 vX0 (1) w23 (by omega) (by omega) NX0_24.out
  go_wp2_with fail
  (with_reducible refine hmk.mono ?_)
  rintro e w25 ⟨rfl, _, hon⟩
  have s26 : w23.heap.size ≤ w25.heap.size := hon.size
  have QW_26 := Lib.hid (own_only QW_24.out hon (fun k e hm => by have h1 := HTX0.out _ hm; have h2 := HRW.out _ e; omega))
  have QX1_26 := Lib.hid (own_only QX1_24.out hon (fun k e hm => by have h1 := HTX0.out _ hm; have h2 := HRX1.out _ e; omega))
  have QG_26 := Lib.hid (own_only QG_24.out hon (fun k e hm => by have h1 := HTX0.out _ hm; have h2 := HRG.out _ e; omega))
  have HC26 := Lib.hid (Only.below HC24.out hon HC24.out.size (fun b hb => by have := HTX0.out _ hb; have := HZ.out; omega))
  clear hmk hon NX0_24 QW_24 QX1_24 QG_24 HC24
  have hmk := markFreshS_own _ l1.length (.slice BX1 l1.length dX1) _ (1 + (mcRBindings l0 : Int)) w25 QX1_26.out (by omega) (by have := HN1.out; omega)
  go_wp2_with fail
  (with_reducible refine hmk.mono ?_)
  rintro e w27 ⟨rfl, _, hg⟩
  have hon : Only (.slice BX1 l1.length dX1 : Value).ownBlock.toList w25 w27 := Only.of_grown hg (fun b e => by rw [e]; simp)
  have HTM1 : Hid (∀ b ∈ (.slice BX1 l1.length dX1 : Value).ownBlock.toList, _ ∧ _) := Lib.hid (fun b hb => HRX1.out b (by simpa using hb))
  have s28 : w25.heap.size ≤ w27.heap.size := hon.size
  have QW_28 := Lib.hid (own_only QW_26.out hon (fun k e hm => by have h1 := HTM1.out _ hm; have h2 := HRW.out _ e; omega))
  have QG_28 := Lib.hid (own_only QG_26.out hon (fun k e hm => by have h1 := HTM1.out _ hm; have h2 := HRG.out _ e; omega))
  have HC28 := Lib.hid (Only.below HC26.out hon HC26.out.size (fun b hb => by have := HTM1.out _ hb; have := HZ.out; omega))
  clear hmk hg hon QX1_26 QW_26 QG_26 HC26
  have tk : ¬ 1 + (mcRBindings l0 : Int) + (l1.length : Int) * 2 < 0 := by omega
  have heq := eqFreshS_own _ _ _ _ L L w27 QG_28.out QW_28.out (by omega)
  rw [decide_eq_true (rfl : L = L)] at heq
  go_wp2_with fail
  refine heq.mono ?_
  rintro e w29 ⟨rfl, hb⟩
  have s30 : w27.heap.size ≤ w29.heap.size := hb.size
  have QW_30 := Lib.hid (own_below QW_28.out hb)
  have QG_30 := Lib.hid (own_below QG_28.out hb)
  have HC30 := Lib.hid (HC28.out.trans (hb.mono HC28.out.size))
  clear heq hb QW_28 QG_28 HC28
  have hmi := markFreshS_own _ L.length vG _ 1 w29 QG_30.out (by omega) (by omega)
  go_wp2_with fail
  refine hmi.mono ?_
  rintro e w31 ⟨rfl, om, hg⟩
  have hon : Only vG.ownBlock.toList w29 w31 := Only.of_grown hg (fun b e => by rw [e]; simp)
  have HTG : Hid (∀ b ∈ vG.ownBlock.toList, _ ∧ _) := Lib.hid (fun b hb => HRG.out b (by simpa using hb))
  have s32 : w29.heap.size ≤ w31.heap.size := hon.size
  have QW_32 := Lib.hid (own_only QW_30.out hon (fun k e hm => by have h1 := HTG.out _ hm; have h2 := HRW.out _ e; omega))
  have HC32 := Lib.hid (Only.below HC30.out hon HC30.out.size (fun b hb => by have := HTG.out _ hb; have := HZ.out; omega))
  have QM := Lib.hid om
  clear hmi hg hon om QG_30 QW_30 HC30
  have tm : ¬ 1 + (L.length : Int) * 2 < 0 := by omega
  have tq : (1 + (L.length : Int) * 2 != 1 + (L.length : Int) * 2) = false := by simp
  have hhi := heldFreshS_own _ L.length vG 1 w31 QM.out (by omega) (by omega)
  go_wp2_with fail
  refine hhi.mono ?_
  rintro e w' ⟨rfl, rfl⟩
  clear hhi
  have hto := toBindingS_any l0 HF0.out HL0.out w31 _ (HI0.out w31 HC32.out)
  go_wp2_with fail
  (with_reducible refine hto.mono ?_)
  rintro e w33 ⟨v0, S0, rfl, hL0, _, hb⟩
  have hin0 := ownRBindings_in hL0
  have s34 : w31.heap.size ≤ w33.heap.size := hb.size
  have QW_34 := Lib.hid (own_below QW_32.out hb)
  have QM_34 := Lib.hid (own_below QM.out hb)
  have HC34 := Lib.hid (HC32.out.trans (hb.mono HC32.out.size))
  clear hto hb hL0 QW_32 QM HC32
  have hto := toFreshS_any A1 c1 l1 w33 (HI1.out w33 HC34.out) (by have := HN1.out; omega)
  go_wp2_with fail
  (with_reducible refine hto.mono ?_)
  rintro e w35 ⟨v1, rfl, ho1, hb⟩
  obtain ⟨Bv1, dv1, rfl, hin1⟩ := own_pairsAt ho1
  replace hin0 := hin0.below hb
  have s36 : w33.heap.size ≤ w35.heap.size := hb.size
  have QW_36 := Lib.hid (own_below QW_34.out hb)
  have QM_36 := Lib.hid (own_below QM_34.out hb)
  have HC36 := Lib.hid (HC34.out.trans (hb.mono HC34.out.size))
  clear hto hb ho1 QW_34 QM_34 HC34
  have hsp := contextUnder_impl l0 l1 _ Bv1 dv1 w35 hin0 hin1 HL0.out HN0.out HN1.out
  rw [HL.out] at hsp
  rw [HFL.out] at hsp
  clear hin0 hin1
  go_wp2_with fail
  (with_reducible refine hsp.mono ?_)
  rintro e w37 ⟨vH, rfl, oH, hb⟩
  have s38 : w35.heap.size ≤ w37.heap.size := hb.size
  have QW_38 := Lib.hid (own_below QW_36.out hb)
  have QM_38 := Lib.hid (own_below QM_36.out hb)
  have HC38 := Lib.hid (HC36.out.trans (hb.mono HC36.out.size))
  have HRH := Lib.hid (show ∀ k, (vH : Value).ownBlock = some k → w35.heap.size ≤ k ∧ k < w37.heap.size from fun k hk => oH.lt k hk)
  have QH := Lib.hid oH
  clear hb QW_36 QM_36 HC36 oH
  clear hsp
  have heq := eqFreshS_own _ _ _ _ L L w37 QH.out QW_38.out (by omega)
  rw [decide_eq_true (rfl : L = L)] at heq
  go_wp2_with fail
  refine heq.mono ?_
  rintro e w39 ⟨rfl, hb⟩
  have s40 : w37.heap.size ≤ w39.heap.size := hb.size
  have QW_40 := Lib.hid (own_below QW_38.out hb)
  have QM_40 := Lib.hid (own_below QM_38.out hb)
  have QH_40 := Lib.hid (own_below QH.out hb)
  have HC40 := Lib.hid (HC38.out.trans (hb.mono HC38.out.size))
  clear heq hb QW_38 QM_38 QH HC38
  have hhi := heldFreshS_own _ L.length vG 1 w39 QM_40.out (by omega) (by omega)
  go_wp2_with fail
  refine hhi.mono ?_
  rintro e w' ⟨rfl, rfl⟩
  clear hhi
  have hfin := HW0.out.trans (HC40.out.mono HW0.out.size)
  go_wp2
  go_ret
  exact ⟨rfl, hfin⟩

theorem walk (w : World) (A0 : Option Addr) (c0 : Nat) (l0 : List RBinding) (hA0 : RBindingsIn w (.slice A0 l0.length c0) l0) (hs0 : ShortRBindings l0) (hm0 : l0.length ≤ maxLen) (A1 : Option Addr) (c1 : Nat) (l1 : List (Int × Int)) (hA1 : PairsAt w A1 l1) (hm1 : l1.length ≤ maxLen) :
    Calls Tryz.prog 9 #[.slice A0 l0.length c0, .slice A1 l1.length c1] w fun e w' => e = .returned (.bool true) ∧ Below w.heap.size w w' := by
  by_cases hn0 : ((l0.length + sumRBinding l0 : Nat) : Int) ≤ 1048576
  · skip
    by_cases hn1 : (l1.length : Int) ≤ 1048576 - ((l0.length + sumRBinding l0 : Nat) : Int)
    · skip
      exact walk_yes w A0 c0 l0 hA0 hs0 hm0 A1 c1 l1 hA1 hm1 hn0 hn1
    · exact walk_no1 w A0 c0 l0 hA0 hs0 hm0 A1 c1 l1 hA1 hm1 hn0 hn1
  · exact walk_no0 w A0 c0 l0 hA0 hs0 hm0 A1 c1 l1 hA1 hm1 hn0

set_option maxRecDepth 100000 in
theorem lifted (os : Os) (started : os.Started) (H : Type) (enc : TypeId × Value → H) :
    ReturnsInHanded {} Tryz.checked os 9 .any (Rows.fnExactContextUnderSpec.pre6 enc Tryz.prog Tryz.f9 Rows.fnExactContextUnderRow.domain false) (Rows.fnExactContextUnderSpec.post enc Tryz.prog Tryz.f9 false true false false) := by
  refine returnsInHanded_of_change (C := Tryz.checked) own started (by kernel_rfl) Tryz.func9
    (ChangeSpec.witness6 (enc := enc) (C := Tryz.checked) false ⟨#[], #[.slice none 0 0, .slice none 0 0], []⟩ 8 (by kernel_rfl) (by kernel_rfl) (by kernel_rfl) (by kernel_rfl)) ?_
  intro W base args ds gs before hval0 hW hcnd _
  have hval : ∀ (j : Nat) t v, Tryz.f9.params[j]? = some t → args[j]? = some v → Value.okWide Tryz.prog W .any base t v := hval0
  have hW' := hW
  obtain ⟨p, q, hA0, hV, rfl, hfz, hnd⟩ := hW
  have hA : DataW.TrodAll enc Tryz.prog W 0 (fun _ => true) true Tryz.f9.params.toList args.toList ds p := hA0
  rw [Tryz.params9] at hA hval
  obtain ⟨v0, vs0, d0, ds0, p0, q0, hargs, rfl, rfl, h0, r0⟩ := trodAll_cons hA
  obtain ⟨v1, vs1, d1, ds1, p1, q1, rfl, rfl, rfl, h1, r1⟩ := trodAll_cons r0
  obtain ⟨rfl, rfl, rfl⟩ := trodAll_nil r1
  obtain rfl : args = #[v0, v1] := by cases args; simp_all
  obtain ⟨rfl, rfl⟩ := trodVars_none hV
  have k0 := h0
  have lt0 : ∀ x ∈ p0, x.block < W.heap.size := by obtain ⟨m, hm⟩ := k0; exact DataW.trod_lt m _ _ _ hm
  have k1 := h1
  have lt1 : ∀ x ∈ p1, x.block < W.heap.size := by obtain ⟨m, hm⟩ := k1; exact DataW.trod_lt m _ _ _ hm
  obtain ⟨A0, n0, c0, rfl⟩ := okWide_slice Tryz.underlying50 (hval 0 50 v0 rfl rfl)
  obtain ⟨l0, rfl, w0, s0, m0⟩ := open_bindings h0
  obtain ⟨A1, n1, c1, rfl⟩ := okWide_slice Tryz.underlying43 (hval 1 43 v1 rfl rfl)
  obtain ⟨l1, rfl, w1, m1⟩ := open_freshs h1
  clear hA0 hval0
  refine (walk W A0 c0 l0 w0 s0 m0 A1 c1 l1 w1 m1).mono fun e W' ⟨he, bel⟩ => ?_
  subst he
  exact ⟨_, rfl, _, _, _, [], _, [], hW', trodAll_mk1 (shut_bool Tryz.underlying4 _), (trodAll_cons_mk (Below.trod laidOut (by kernel_rfl) (of_decide_eq_true (by kernel_rfl)) k0 bel lt0) (trodAll_cons_mk (Below.trod laidOut (by kernel_rfl) (of_decide_eq_true (by kernel_rfl)) k1 bel lt1) trodAll_mk0)), rfl, bel.frame _, fun h => by cases h⟩

theorem over : Rows.fnExactContextUnderRow.holds Tryz.pinned (OpenSpec.ofChange Rows.fnExactContextUnderSpec) :=
  OpenClaim.holds_of_wide 9 Tryz.f9 rfl rfl rfl rfl rfl rfl rfl ⟨rfl, rfl, rfl, rfl, rfl⟩ rfl rfl rfl rfl rfl (by kernel_rfl) Tryz.func9 (by kernel_rfl)
    (of_decide_eq_true (by kernel_rfl)) (by unfold Func.isWrapper; first | (rw [if_pos (by decide +kernel)]; kernel_rfl) | (rw [if_neg (by decide +kernel)]; exact ⟨rfl, rfl⟩))
    (fun os started H enc _ => lifted os started H enc)

theorem proved : Rows.FnExactContextUnderSaid := over
#print axioms proved
end Go.Proofs.YtbfkfklaplgebaaGreat.fnExactContextUnder
