/-
  The law FnExactPlacesOfSet returns true for every two values: the program tells an orbit set by places, and whether it can, as the model does, in memory of its own, and leaves its arguments as they were. No condition.
-/
import Derived.Test.YtdbogjhkcnajkaaKPlacesOfSet16
import Derived.Test.YtdbogjhkcnajkaaKPlacesOfSet9
import Derived.Test.YtdbogjhkcnajkaaKPlacesOfSet18
import Derived.Test.YtdbogjhkcnajkaaKPlacesOfSet17
namespace Go.Proofs.Ytdbogjhkcnajkaa.fnExactPlacesOfSet
open Go.ChangeShapes Go.WideShapes Go.ChangeAt Go.RowKit
set_option linter.unusedVariables false

namespace Args4
theorem box_lt {w : World} {g : Nat} {o : Obj} (h : w.heap[g]? = some o) : g < w.heap.size := (Array.getElem?_eq_some_iff.1 h).1
theorem row4 {w : World} {g : Nat} {a b c d : Value} {T : TypeId} (h : w.heap[g]? = some (.cells #[a, b, c, d] T (0, 0))) : w.cell? ⟨g, 0, none⟩ = some a ∧ w.cell? ⟨g, 1, none⟩ = some b ∧ w.cell? ⟨g, 2, none⟩ = some c ∧ w.cell? ⟨g, 3, none⟩ = some d := by
  refine ⟨?_, ?_, ?_, ?_⟩ <;> rw [cell_of_row w g _ _ _ _ h] <;> rfl
end Args4
theorem pairsAt_of {w : World} {base n : Nat} {e : TypeId} {B : Option Addr} {d : Nat} {l : List (Int × Int)} (h : w.ownsRow base e 2 (.slice B n d) l.length (cellsOf l)) : PairsAt w B l := by
  obtain ⟨A, c, ee, hp⟩ := own_pairsAt h
  injection ee with e1 e2 e3
  subst e1
  exact hp

theorem intsAt_of {w : World} {base n : Nat} {e : TypeId} {B : Option Addr} {d : Nat} {l : List Int} (h : w.ownsRow base e 1 (.slice B n d) l.length (icells l)) : IntsAt w B l := by
  obtain ⟨A, c, ee, hp⟩ := own_intsAt h
  injection ee with e1 e2 e3
  subst e1
  exact hp

set_option maxRecDepth 100000 in
set_option maxHeartbeats 16000000 in
theorem walk_big1 (w : World) (x0 : Value) (z0 : Int) (l0 : List Int) (m0 : List (List Int)) (hx0 : OrbIn w x0 z0 l0 m0) (hs0 : ShortO l0 m0) (A1 : Option Addr) (c1 : Nat) (l1 : List Int) (hA1 : IntsAt w A1 l1) (hm1 : l1.length ≤ maxLen) (hn1 : ¬ l1.length ≤ 1048576) :
    Calls Try.prog 9 #[x0, .slice A1 l1.length c1] w fun e w' => e = .returned (.bool true) ∧ Below w.heap.size w w' := by
  unfold maxLen at hm1
  obtain ⟨A0, c0, B0, d0, rfl, hp0, hk0⟩ := hx0
  have hb0 : Below w.heap.size w (w.alloc (.cells #[.int .i64 z0, .slice A0 l0.length c0, .slice B0 m0.length d0] 39)) := ((Below.refl _ w).alloc (by first | exact Nat.le_refl _ | (simp; done) | (simp; omega)) _)
  have HI0 : Hid (∀ w' : World, Below (w.alloc (.cells #[.int .i64 z0, .slice A0 l0.length c0, .slice B0 m0.length d0] 39)).heap.size (w.alloc (.cells #[.int .i64 z0, .slice A0 l0.length c0, .slice B0 m0.length d0] 39)) w' → OrbIn w' (.agg #[.int .i64 z0, .slice A0 l0.length c0, .slice B0 m0.length d0]) z0 l0 m0) := Lib.hid (fun w' h => ⟨A0, c0, B0, d0, rfl, hp0.below (hb0.trans (h.mono hb0.size)), hk0.below (hb0.trans (h.mono hb0.size))⟩)
  have HI1 : Hid (∀ w' : World, Below (w.alloc (.cells #[.int .i64 z0, .slice A0 l0.length c0, .slice B0 m0.length d0] 39)).heap.size (w.alloc (.cells #[.int .i64 z0, .slice A0 l0.length c0, .slice B0 m0.length d0] 39)) w' → IntsAt w' A1 l1) := Lib.hid (fun w' h => hA1.below (hb0.trans (h.mono hb0.size)))
  have kk0 : (w.alloc (.cells #[.int .i64 z0, .slice A0 l0.length c0, .slice B0 m0.length d0] 39)).heap[w.heap.size]? = some (.cells #[.int .i64 z0, .slice A0 l0.length c0, .slice B0 m0.length d0] 39 (0, 0)) := by
    have h := heap_alloc_new w (.cells #[.int .i64 z0, .slice A0 l0.length c0, .slice B0 m0.length d0] 39)
    exact h
  obtain ⟨b00, b01, b02⟩ := OrbK.row3 kk0
  have lt0 : w.heap.size < (w.alloc (.cells #[.int .i64 z0, .slice A0 l0.length c0, .slice B0 m0.length d0] 39)).heap.size := by first | (simp; done) | (simp; omega)
  have HB0 : Hid (∀ w' : World, Below (w.alloc (.cells #[.int .i64 z0, .slice A0 l0.length c0, .slice B0 m0.length d0] 39)).heap.size (w.alloc (.cells #[.int .i64 z0, .slice A0 l0.length c0, .slice B0 m0.length d0] 39)) w' → w'.cell? ⟨w.heap.size, 0, none⟩ = some (.int .i64 z0) ∧ w'.cell? ⟨w.heap.size, 1, none⟩ = some (.slice A0 l0.length c0) ∧ w'.cell? ⟨w.heap.size, 2, none⟩ = some (.slice B0 m0.length d0)) := Lib.hid (fun w' h => ⟨(h.cell (p := ⟨w.heap.size, 0, none⟩) lt0).trans b00, (h.cell (p := ⟨w.heap.size, 1, none⟩) lt0).trans b01, (h.cell (p := ⟨w.heap.size, 2, none⟩) lt0).trans b02⟩)
  clear hp0 hk0 kk0 lt0 hA1
  have HC0 : Hid (Below (w.alloc (.cells #[.int .i64 z0, .slice A0 l0.length c0, .slice B0 m0.length d0] 39)).heap.size (w.alloc (.cells #[.int .i64 z0, .slice A0 l0.length c0, .slice B0 m0.length d0] 39)) (w.alloc (.cells #[.int .i64 z0, .slice A0 l0.length c0, .slice B0 m0.length d0] 39))) := Lib.hid (Below.refl _ _)
  have HW0 := Lib.hid hb0
  clear hb0
  go_enter Try.func9, Try.ntmps9
  have hbig : 1048576 < l1.length := by omega
  have hfin := HW0.out
  clear hn1 b00 b01 b02
  go_wp2
  go_ret
  exact ⟨rfl, hfin⟩

set_option maxRecDepth 100000 in
set_option maxHeartbeats 16000000 in
theorem walk_no0 (w : World) (x0 : Value) (z0 : Int) (l0 : List Int) (m0 : List (List Int)) (hx0 : OrbIn w x0 z0 l0 m0) (hs0 : ShortO l0 m0) (A1 : Option Addr) (c1 : Nat) (l1 : List Int) (hA1 : IntsAt w A1 l1) (hm1 : l1.length ≤ maxLen) (hn1 : l1.length ≤ 1048576) (hn0 : ¬ ((l0.length + (m0.length + sumR m0) : Nat) : Int) ≤ 1048576) :
    Calls Try.prog 9 #[x0, .slice A1 l1.length c1] w fun e w' => e = .returned (.bool true) ∧ Below w.heap.size w w' := by
  unfold maxLen at hm1
  obtain ⟨A0, c0, B0, d0, rfl, hp0, hk0⟩ := hx0
  have hb0 : Below w.heap.size w (w.alloc (.cells #[.int .i64 z0, .slice A0 l0.length c0, .slice B0 m0.length d0] 39)) := ((Below.refl _ w).alloc (by first | exact Nat.le_refl _ | (simp; done) | (simp; omega)) _)
  have HI0 : Hid (∀ w' : World, Below (w.alloc (.cells #[.int .i64 z0, .slice A0 l0.length c0, .slice B0 m0.length d0] 39)).heap.size (w.alloc (.cells #[.int .i64 z0, .slice A0 l0.length c0, .slice B0 m0.length d0] 39)) w' → OrbIn w' (.agg #[.int .i64 z0, .slice A0 l0.length c0, .slice B0 m0.length d0]) z0 l0 m0) := Lib.hid (fun w' h => ⟨A0, c0, B0, d0, rfl, hp0.below (hb0.trans (h.mono hb0.size)), hk0.below (hb0.trans (h.mono hb0.size))⟩)
  have HI1 : Hid (∀ w' : World, Below (w.alloc (.cells #[.int .i64 z0, .slice A0 l0.length c0, .slice B0 m0.length d0] 39)).heap.size (w.alloc (.cells #[.int .i64 z0, .slice A0 l0.length c0, .slice B0 m0.length d0] 39)) w' → IntsAt w' A1 l1) := Lib.hid (fun w' h => hA1.below (hb0.trans (h.mono hb0.size)))
  have kk0 : (w.alloc (.cells #[.int .i64 z0, .slice A0 l0.length c0, .slice B0 m0.length d0] 39)).heap[w.heap.size]? = some (.cells #[.int .i64 z0, .slice A0 l0.length c0, .slice B0 m0.length d0] 39 (0, 0)) := by
    have h := heap_alloc_new w (.cells #[.int .i64 z0, .slice A0 l0.length c0, .slice B0 m0.length d0] 39)
    exact h
  obtain ⟨b00, b01, b02⟩ := OrbK.row3 kk0
  have lt0 : w.heap.size < (w.alloc (.cells #[.int .i64 z0, .slice A0 l0.length c0, .slice B0 m0.length d0] 39)).heap.size := by first | (simp; done) | (simp; omega)
  have HB0 : Hid (∀ w' : World, Below (w.alloc (.cells #[.int .i64 z0, .slice A0 l0.length c0, .slice B0 m0.length d0] 39)).heap.size (w.alloc (.cells #[.int .i64 z0, .slice A0 l0.length c0, .slice B0 m0.length d0] 39)) w' → w'.cell? ⟨w.heap.size, 0, none⟩ = some (.int .i64 z0) ∧ w'.cell? ⟨w.heap.size, 1, none⟩ = some (.slice A0 l0.length c0) ∧ w'.cell? ⟨w.heap.size, 2, none⟩ = some (.slice B0 m0.length d0)) := Lib.hid (fun w' h => ⟨(h.cell (p := ⟨w.heap.size, 0, none⟩) lt0).trans b00, (h.cell (p := ⟨w.heap.size, 1, none⟩) lt0).trans b01, (h.cell (p := ⟨w.heap.size, 2, none⟩) lt0).trans b02⟩)
  clear hp0 hk0 kk0 lt0 hA1
  have HC0 : Hid (Below (w.alloc (.cells #[.int .i64 z0, .slice A0 l0.length c0, .slice B0 m0.length d0] 39)).heap.size (w.alloc (.cells #[.int .i64 z0, .slice A0 l0.length c0, .slice B0 m0.length d0] 39)) (w.alloc (.cells #[.int .i64 z0, .slice A0 l0.length c0, .slice B0 m0.length d0] 39))) := Lib.hid (Below.refl _ _)
  have HW0 := Lib.hid hb0
  clear hb0
  go_enter Try.func9, Try.ntmps9
  have hsz := szOrbitSet_any z0 l0 m0 hs0 (1048576) (w.alloc (.cells #[.int .i64 z0, .slice A0 l0.length c0, .slice B0 m0.length d0] 39)) _ (by omega) (by omega) (HI0.out (w.alloc (.cells #[.int .i64 z0, .slice A0 l0.length c0, .slice B0 m0.length d0] 39)) HC0.out)
  unfold LeftPost at hsz
  rw [leftR_no (by omega)] at hsz
  go_wp2_with fail
  refine hsz.mono ?_
  rintro e u1 ⟨rfl, hb⟩
  clear hsz b00 b01 b02
  have s2 : (w.alloc (.cells #[.int .i64 z0, .slice A0 l0.length c0, .slice B0 m0.length d0] 39)).heap.size ≤ u1.heap.size := hb.size
  have HC2 := Lib.hid (HC0.out.trans (hb.mono HC0.out.size))
  clear hb HC0
  have hfin := HW0.out.trans (HC2.out.mono HW0.out.size)
  go_wp2
  go_ret
  exact ⟨rfl, hfin⟩

set_option maxRecDepth 100000 in
set_option maxHeartbeats 16000000 in
theorem walk_yes (w : World) (x0 : Value) (z0 : Int) (l0 : List Int) (m0 : List (List Int)) (hx0 : OrbIn w x0 z0 l0 m0) (hs0 : ShortO l0 m0) (A1 : Option Addr) (c1 : Nat) (l1 : List Int) (hA1 : IntsAt w A1 l1) (hm1 : l1.length ≤ maxLen) (hn1 : l1.length ≤ 1048576) (hn0 : ((l0.length + (m0.length + sumR m0) : Nat) : Int) ≤ 1048576) :
    Calls Try.prog 9 #[x0, .slice A1 l1.length c1] w fun e w' => e = .returned (.bool true) ∧ Below w.heap.size w w' := by
  have HF0 : Hid (FitO l0 m0) := Lib.hid (fitO_of (by omega))
  have hmk0 : l0.length + sumR m0 ≤ 1048576 := by omega
  have HN1 : Hid (l1.length ≤ 1048576) := Lib.hid (by omega)
  have HFR := Lib.hid (show FitO (olR (plcOk z0 l0 m0 l1) l0) (omR (plcOk z0 l0 m0 l1) (plcM l0 m0 l1)) from plcFit z0 l0 m0 l1)
  have hmR : (olR (plcOk z0 l0 m0 l1) l0).length + sumR (omR (plcOk z0 l0 m0 l1) (plcM l0 m0 l1)) ≤ 8388608 := plcSum z0 l0 m0 l1
  generalize qzR : ozR (plcOk z0 l0 m0 l1) l1.length = zR
  have HzR := Lib.hid qzR
  clear qzR
  generalize qlR : olR (plcOk z0 l0 m0 l1) l0 = lR at HFR hmR
  have HlR := Lib.hid qlR
  clear qlR
  generalize qmR : omR (plcOk z0 l0 m0 l1) (plcM l0 m0 l1) = mR at HFR hmR
  have HmR := Lib.hid qmR
  clear qmR
  generalize hFF : plcOk z0 l0 m0 l1 = fl
  have HFL := Lib.hid hFF
  have hfl : (fl != fl) = false := by simp
  clear hFF
  unfold maxLen at hm1
  obtain ⟨A0, c0, B0, d0, rfl, hp0, hk0⟩ := hx0
  have hb0 : Below w.heap.size w (w.alloc (.cells #[.int .i64 z0, .slice A0 l0.length c0, .slice B0 m0.length d0] 39)) := ((Below.refl _ w).alloc (by first | exact Nat.le_refl _ | (simp; done) | (simp; omega)) _)
  have HI0 : Hid (∀ w' : World, Below (w.alloc (.cells #[.int .i64 z0, .slice A0 l0.length c0, .slice B0 m0.length d0] 39)).heap.size (w.alloc (.cells #[.int .i64 z0, .slice A0 l0.length c0, .slice B0 m0.length d0] 39)) w' → OrbIn w' (.agg #[.int .i64 z0, .slice A0 l0.length c0, .slice B0 m0.length d0]) z0 l0 m0) := Lib.hid (fun w' h => ⟨A0, c0, B0, d0, rfl, hp0.below (hb0.trans (h.mono hb0.size)), hk0.below (hb0.trans (h.mono hb0.size))⟩)
  have HI1 : Hid (∀ w' : World, Below (w.alloc (.cells #[.int .i64 z0, .slice A0 l0.length c0, .slice B0 m0.length d0] 39)).heap.size (w.alloc (.cells #[.int .i64 z0, .slice A0 l0.length c0, .slice B0 m0.length d0] 39)) w' → IntsAt w' A1 l1) := Lib.hid (fun w' h => hA1.below (hb0.trans (h.mono hb0.size)))
  have kk0 : (w.alloc (.cells #[.int .i64 z0, .slice A0 l0.length c0, .slice B0 m0.length d0] 39)).heap[w.heap.size]? = some (.cells #[.int .i64 z0, .slice A0 l0.length c0, .slice B0 m0.length d0] 39 (0, 0)) := by
    have h := heap_alloc_new w (.cells #[.int .i64 z0, .slice A0 l0.length c0, .slice B0 m0.length d0] 39)
    exact h
  obtain ⟨b00, b01, b02⟩ := OrbK.row3 kk0
  have lt0 : w.heap.size < (w.alloc (.cells #[.int .i64 z0, .slice A0 l0.length c0, .slice B0 m0.length d0] 39)).heap.size := by first | (simp; done) | (simp; omega)
  have HB0 : Hid (∀ w' : World, Below (w.alloc (.cells #[.int .i64 z0, .slice A0 l0.length c0, .slice B0 m0.length d0] 39)).heap.size (w.alloc (.cells #[.int .i64 z0, .slice A0 l0.length c0, .slice B0 m0.length d0] 39)) w' → w'.cell? ⟨w.heap.size, 0, none⟩ = some (.int .i64 z0) ∧ w'.cell? ⟨w.heap.size, 1, none⟩ = some (.slice A0 l0.length c0) ∧ w'.cell? ⟨w.heap.size, 2, none⟩ = some (.slice B0 m0.length d0)) := Lib.hid (fun w' h => ⟨(h.cell (p := ⟨w.heap.size, 0, none⟩) lt0).trans b00, (h.cell (p := ⟨w.heap.size, 1, none⟩) lt0).trans b01, (h.cell (p := ⟨w.heap.size, 2, none⟩) lt0).trans b02⟩)
  clear hp0 hk0 kk0 lt0 hA1
  have HC0 : Hid (Below (w.alloc (.cells #[.int .i64 z0, .slice A0 l0.length c0, .slice B0 m0.length d0] 39)).heap.size (w.alloc (.cells #[.int .i64 z0, .slice A0 l0.length c0, .slice B0 m0.length d0] 39)) (w.alloc (.cells #[.int .i64 z0, .slice A0 l0.length c0, .slice B0 m0.length d0] 39))) := Lib.hid (Below.refl _ _)
  have HW0 := Lib.hid hb0
  clear hb0
  go_enter Try.func9, Try.ntmps9
  have hsz := szOrbitSet_any z0 l0 m0 hs0 (1048576) (w.alloc (.cells #[.int .i64 z0, .slice A0 l0.length c0, .slice B0 m0.length d0] 39)) _ (by omega) (by omega) (HI0.out (w.alloc (.cells #[.int .i64 z0, .slice A0 l0.length c0, .slice B0 m0.length d0] 39)) HC0.out)
  unfold LeftPost at hsz
  rw [leftR_yes hn0] at hsz
  have hleft0 : ¬ 1048576 - ((l0.length + (m0.length + sumR m0) : Nat) : Int) < 0 := by omega
  go_wp2_with fail
  refine hsz.mono ?_
  rintro e u1 ⟨rfl, hb⟩
  clear hsz b00 b01 b02
  have s2 : (w.alloc (.cells #[.int .i64 z0, .slice A0 l0.length c0, .slice B0 m0.length d0] 39)).heap.size ≤ u1.heap.size := hb.size
  have HC2 := Lib.hid (HC0.out.trans (hb.mono HC0.out.size))
  clear hb HC0
  have HZ : Hid ((w.alloc (.cells #[.int .i64 z0, .slice A0 l0.length c0, .slice B0 m0.length d0] 39)).heap.size ≤ u1.heap.size) := Lib.hid HC2.out.size
  obtain ⟨b0, b1, b2⟩ := HB0.out u1 HC2.out
  have hto := toOrbitSet_any z0 l0 m0 HF0.out u1 _ (HI0.out u1 HC2.out)
  go_wp2_with fail
  (with_reducible refine hto.mono ?_)
  rintro e w3 ⟨v0, q0, K0, r0, S0, rfl, hL0, _, hb⟩
  have hin0 := orbOut_ix hL0
  have s4 : u1.heap.size ≤ w3.heap.size := hb.size
  have HC4 := Lib.hid (HC2.out.trans (hb.mono HC2.out.size))
  clear hto hb hL0 b0 b1 b2 HC2
  have hto := toIntS_any A1 c1 l1 w3 (HI1.out w3 HC4.out) (by have := HN1.out; omega)
  go_wp2_with fail
  (with_reducible refine hto.mono ?_)
  rintro e w5 ⟨v1, rfl, ho1, hb⟩
  obtain ⟨Bv1, dv1, rfl, hin1⟩ := own_intsAt ho1
  replace hin0 := hin0.below hb
  have s6 : w3.heap.size ≤ w5.heap.size := hb.size
  have HC6 := Lib.hid (HC4.out.trans (hb.mono HC4.out.size))
  clear hto hb ho1 HC4
  have hsp := placesOfSet_spec z0 l0 m0 HF0.out l1 (by have := HN1.out; omega) _ Bv1 dv1 w5 hin0 hin1
  rw [HzR.out] at hsp
  rw [HlR.out] at hsp
  rw [HmR.out] at hsp
  rw [HFL.out] at hsp
  clear hin0 hin1
  go_wp2_with fail
  (with_reducible refine hsp.mono ?_)
  rintro e w7 ⟨AW, cW, BW, dW, SW, rfl, hL, hS, hb⟩
  have s8 : w5.heap.size ≤ w7.heap.size := hb.size
  have HC8 := Lib.hid (HC6.out.trans (hb.mono HC6.out.size))
  have HTW : Hid (∀ b ∈ SW, w5.heap.size ≤ b ∧ b < w7.heap.size) := Lib.hid (fun b hb => ⟨hS b hb, hL.lt b hb⟩)
  have NW := Lib.hid hL
  clear hb hS HC6 hL
  have hbx : Below w7.heap.size w7 (w7.alloc (.cells #[.int .i64 zR, .slice AW lR.length cW, .slice BW mR.length dW] 29)) := (Below.refl _ _).alloc (Nat.le_refl _) _
  have s9 : w7.heap.size ≤ (w7.alloc (.cells #[.int .i64 zR, .slice AW lR.length cW, .slice BW mR.length dW] 29)).heap.size := hbx.size
  have NW_9 := Lib.hid (NW.out.alike (w' := (w7.alloc (.cells #[.int .i64 zR, .slice AW lR.length cW, .slice BW mR.length dW] 29))) fun bb hbb => hbx.block bb (NW.out.lt bb hbb))
  have HC9 := Lib.hid (HC8.out.trans (hbx.mono HC8.out.size))
  have KBW := Lib.hid (heap_alloc_new w7 (.cells #[.int .i64 zR, .slice AW lR.length cW, .slice BW mR.length dW] 29))
  clear hbx NW HC8
  have lt_W : w7.heap.size < (w7.alloc (.cells #[.int .i64 zR, .slice AW lR.length cW, .slice BW mR.length dW] 29)).heap.size := by simp
  clear hsp
  obtain ⟨b0, b1, b2⟩ := HB0.out (w7.alloc (.cells #[.int .i64 zR, .slice AW lR.length cW, .slice BW mR.length dW] 29)) HC9.out
  have hto := toOrbitSet_any z0 l0 m0 HF0.out (w7.alloc (.cells #[.int .i64 zR, .slice AW lR.length cW, .slice BW mR.length dW] 29)) _ (HI0.out (w7.alloc (.cells #[.int .i64 zR, .slice AW lR.length cW, .slice BW mR.length dW] 29)) HC9.out)
  go_wp2_with fail
  refine hto.mono ?_
  rintro e w10 ⟨PX0, qX0, KX0, rX0, SX0, rfl, hL, hS, hb⟩
  have s11 : (w7.alloc (.cells #[.int .i64 zR, .slice AW lR.length cW, .slice BW mR.length dW] 29)).heap.size ≤ w10.heap.size := hb.size
  have KBW_11 := Lib.hid ((hb.block _ (Args4.box_lt KBW.out)).trans KBW.out)
  have NW_11 := Lib.hid (NW_9.out.alike (w' := w10) fun bb hbb => hb.block bb (NW_9.out.lt bb hbb))
  have HC11 := Lib.hid (HC9.out.trans (hb.mono HC9.out.size))
  have HTX0 : Hid (∀ b ∈ SX0, (w7.alloc (.cells #[.int .i64 zR, .slice AW lR.length cW, .slice BW mR.length dW] 29)).heap.size ≤ b ∧ b < w10.heap.size) := Lib.hid (fun b hb => ⟨hS b hb, hL.lt b hb⟩)
  have NX0 := Lib.hid hL
  clear hto hb hS b0 b1 b2 KBW NW_9 HC9 hL
  have hbx : Below w10.heap.size w10 (w10.alloc (.cells #[.int .i64 z0, .slice PX0 l0.length qX0, .slice KX0 m0.length rX0] 29)) := (Below.refl _ _).alloc (Nat.le_refl _) _
  have s12 : w10.heap.size ≤ (w10.alloc (.cells #[.int .i64 z0, .slice PX0 l0.length qX0, .slice KX0 m0.length rX0] 29)).heap.size := hbx.size
  have KBW_12 := Lib.hid ((hbx.block _ (Args4.box_lt KBW_11.out)).trans KBW_11.out)
  have NW_12 := Lib.hid (NW_11.out.alike (w' := (w10.alloc (.cells #[.int .i64 z0, .slice PX0 l0.length qX0, .slice KX0 m0.length rX0] 29))) fun bb hbb => hbx.block bb (NW_11.out.lt bb hbb))
  have NX0_12 := Lib.hid (NX0.out.alike (w' := (w10.alloc (.cells #[.int .i64 z0, .slice PX0 l0.length qX0, .slice KX0 m0.length rX0] 29))) fun bb hbb => hbx.block bb (NX0.out.lt bb hbb))
  have HC12 := Lib.hid (HC11.out.trans (hbx.mono HC11.out.size))
  have KBX0 := Lib.hid (heap_alloc_new w10 (.cells #[.int .i64 z0, .slice PX0 l0.length qX0, .slice KX0 m0.length rX0] 29))
  clear hbx KBW_11 NW_11 NX0 HC11
  have lt_X0 : w10.heap.size < (w10.alloc (.cells #[.int .i64 z0, .slice PX0 l0.length qX0, .slice KX0 m0.length rX0] 29)).heap.size := by simp
  have hto := toIntS_any A1 c1 l1 (w10.alloc (.cells #[.int .i64 z0, .slice PX0 l0.length qX0, .slice KX0 m0.length rX0] 29)) (HI1.out (w10.alloc (.cells #[.int .i64 z0, .slice PX0 l0.length qX0, .slice KX0 m0.length rX0] 29)) HC12.out) (by have := HN1.out; omega)
  go_wp2_with fail
  refine hto.mono ?_
  rintro e w13 ⟨vX1, rfl, oX1, hb⟩
  obtain ⟨BX1, dX1, rfl, hq⟩ := own_intsAt oX1
  have s14 : (w10.alloc (.cells #[.int .i64 z0, .slice PX0 l0.length qX0, .slice KX0 m0.length rX0] 29)).heap.size ≤ w13.heap.size := hb.size
  have KBW_14 := Lib.hid ((hb.block _ (Args4.box_lt KBW_12.out)).trans KBW_12.out)
  have KBX0_14 := Lib.hid ((hb.block _ (Args4.box_lt KBX0.out)).trans KBX0.out)
  have NW_14 := Lib.hid (NW_12.out.alike (w' := w13) fun bb hbb => hb.block bb (NW_12.out.lt bb hbb))
  have NX0_14 := Lib.hid (NX0_12.out.alike (w' := w13) fun bb hbb => hb.block bb (NX0_12.out.lt bb hbb))
  have HC14 := Lib.hid (HC12.out.trans (hb.mono HC12.out.size))
  have HRX1 := Lib.hid (show ∀ k, (.slice BX1 l1.length dX1 : Value).ownBlock = some k → (w10.alloc (.cells #[.int .i64 z0, .slice PX0 l0.length qX0, .slice KX0 m0.length rX0] 29)).heap.size ≤ k ∧ k < w13.heap.size from fun k hk => oX1.lt k hk)
  have QX1 := Lib.hid oX1
  clear hto hb hq KBW_12 KBX0 NW_12 NX0_12 HC12 oX1
  have hsp := placesOfSet_impl z0 l0 m0 HF0.out l1 (by have := HN1.out; omega) _ BX1 dX1 w13 (orbOut_ix NX0_14.out) (intsAt_of QX1.out)
  rw [HzR.out] at hsp
  rw [HlR.out] at hsp
  rw [HmR.out] at hsp
  rw [HFL.out] at hsp
  obtain ⟨x00, x01, x02⟩ := OrbK.row3 KBX0_14.out
  go_wp2_with fail
  refine hsp.mono ?_
  rintro e w15 ⟨AG, cG, BG, dG, SG, rfl, hL, hS, hb⟩
  have s16 : w13.heap.size ≤ w15.heap.size := hb.size
  have KBW_16 := Lib.hid ((hb.block _ (Args4.box_lt KBW_14.out)).trans KBW_14.out)
  have KBX0_16 := Lib.hid ((hb.block _ (Args4.box_lt KBX0_14.out)).trans KBX0_14.out)
  have NW_16 := Lib.hid (NW_14.out.alike (w' := w15) fun bb hbb => hb.block bb (NW_14.out.lt bb hbb))
  have NX0_16 := Lib.hid (NX0_14.out.alike (w' := w15) fun bb hbb => hb.block bb (NX0_14.out.lt bb hbb))
  have QX1_16 := Lib.hid (own_below QX1.out hb)
  have HC16 := Lib.hid (HC14.out.trans (hb.mono HC14.out.size))
  have HTG : Hid (∀ b ∈ SG, w13.heap.size ≤ b ∧ b < w15.heap.size) := Lib.hid (fun b hb => ⟨hS b hb, hL.lt b hb⟩)
  have NG := Lib.hid hL
  clear hb hS KBW_14 KBX0_14 NW_14 NX0_14 QX1 HC14 hL
  have hbx : Below w15.heap.size w15 (w15.alloc (.cells #[.int .i64 zR, .slice AG lR.length cG, .slice BG mR.length dG] 29)) := (Below.refl _ _).alloc (Nat.le_refl _) _
  have s17 : w15.heap.size ≤ (w15.alloc (.cells #[.int .i64 zR, .slice AG lR.length cG, .slice BG mR.length dG] 29)).heap.size := hbx.size
  have KBW_17 := Lib.hid ((hbx.block _ (Args4.box_lt KBW_16.out)).trans KBW_16.out)
  have KBX0_17 := Lib.hid ((hbx.block _ (Args4.box_lt KBX0_16.out)).trans KBX0_16.out)
  have NW_17 := Lib.hid (NW_16.out.alike (w' := (w15.alloc (.cells #[.int .i64 zR, .slice AG lR.length cG, .slice BG mR.length dG] 29))) fun bb hbb => hbx.block bb (NW_16.out.lt bb hbb))
  have NX0_17 := Lib.hid (NX0_16.out.alike (w' := (w15.alloc (.cells #[.int .i64 zR, .slice AG lR.length cG, .slice BG mR.length dG] 29))) fun bb hbb => hbx.block bb (NX0_16.out.lt bb hbb))
  have NG_17 := Lib.hid (NG.out.alike (w' := (w15.alloc (.cells #[.int .i64 zR, .slice AG lR.length cG, .slice BG mR.length dG] 29))) fun bb hbb => hbx.block bb (NG.out.lt bb hbb))
  have QX1_17 := Lib.hid (own_below QX1_16.out hbx)
  have HC17 := Lib.hid (HC16.out.trans (hbx.mono HC16.out.size))
  have KBG := Lib.hid (heap_alloc_new w15 (.cells #[.int .i64 zR, .slice AG lR.length cG, .slice BG mR.length dG] 29))
  clear hbx KBW_16 KBX0_16 NW_16 NX0_16 NG QX1_16 HC16
  have lt_G : w15.heap.size < (w15.alloc (.cells #[.int .i64 zR, .slice AG lR.length cG, .slice BG mR.length dG] 29)).heap.size := by simp
  clear hsp x00 x01 x02
  have heq := eqOrbitSet_any zR lR mR HFR.out (w15.alloc (.cells #[.int .i64 zR, .slice AG lR.length cG, .slice BG mR.length dG] 29)) _ _ (orbOut_ix NG_17.out) (orbOut_ix NW_17.out)
  obtain ⟨ya0, ya1, ya2⟩ := OrbK.row3 KBG.out
  obtain ⟨yb0, yb1, yb2⟩ := OrbK.row3 KBW_17.out
  go_wp2_with fail
  refine heq.mono ?_
  rintro e w18 ⟨rfl, hb⟩
  have s19 : (w15.alloc (.cells #[.int .i64 zR, .slice AG lR.length cG, .slice BG mR.length dG] 29)).heap.size ≤ w18.heap.size := hb.size
  have KBW_19 := Lib.hid ((hb.block _ (Args4.box_lt KBW_17.out)).trans KBW_17.out)
  have KBX0_19 := Lib.hid ((hb.block _ (Args4.box_lt KBX0_17.out)).trans KBX0_17.out)
  have KBG_19 := Lib.hid ((hb.block _ (Args4.box_lt KBG.out)).trans KBG.out)
  have NW_19 := Lib.hid (NW_17.out.alike (w' := w18) fun bb hbb => hb.block bb (NW_17.out.lt bb hbb))
  have NX0_19 := Lib.hid (NX0_17.out.alike (w' := w18) fun bb hbb => hb.block bb (NX0_17.out.lt bb hbb))
  have NG_19 := Lib.hid (NG_17.out.alike (w' := w18) fun bb hbb => hb.block bb (NG_17.out.lt bb hbb))
  have QX1_19 := Lib.hid (own_below QX1_17.out hb)
  have HC19 := Lib.hid (HC17.out.trans (hb.mono HC17.out.size))
  clear heq hb ya0 ya1 ya2 yb0 yb1 yb2 KBW_17 KBX0_17 KBG NW_17 NX0_17 NG_17 QX1_17 HC17
  have hdw : Below w18.heap.size w18 w18.drew := ⟨rfl, rfl, rfl, Nat.le_refl _, fun _ _ => rfl⟩
  have s20 : w18.heap.size ≤ w18.drew.heap.size := hdw.size
  have KBW_20 := Lib.hid ((hdw.block _ (Args4.box_lt KBW_19.out)).trans KBW_19.out)
  have KBX0_20 := Lib.hid ((hdw.block _ (Args4.box_lt KBX0_19.out)).trans KBX0_19.out)
  have KBG_20 := Lib.hid ((hdw.block _ (Args4.box_lt KBG_19.out)).trans KBG_19.out)
  have NW_20 := Lib.hid (NW_19.out.alike (w' := w18.drew) fun bb hbb => hdw.block bb (NW_19.out.lt bb hbb))
  have NX0_20 := Lib.hid (NX0_19.out.alike (w' := w18.drew) fun bb hbb => hdw.block bb (NX0_19.out.lt bb hbb))
  have NG_20 := Lib.hid (NG_19.out.alike (w' := w18.drew) fun bb hbb => hdw.block bb (NG_19.out.lt bb hbb))
  have QX1_20 := Lib.hid (own_below QX1_19.out hdw)
  have HC20 := Lib.hid (HC19.out.trans (hdw.mono HC19.out.size))
  clear hdw KBW_19 KBX0_19 KBG_19 NW_19 NX0_19 NG_19 QX1_19 HC19
  have HS := HC20
  have HX := KBX0_20
  obtain ⟨b0, b1, b2⟩ := HB0.out w18.drew HC20.out
  obtain ⟨x0, x1, x2⟩ := OrbK.row3 KBX0_20.out
  have hxx := orbOut_ix NX0_20.out
  have hto := toOrbitSet_any z0 l0 m0 HF0.out w18.drew _ (HI0.out w18.drew HS.out)
  go_wp2
  go_region_held3 (fun w' => w'.cell? ⟨w.heap.size, 0, none⟩ = some (.int .i64 z0) ∧ w'.cell? ⟨w.heap.size, 1, none⟩ = some (.slice A0 l0.length c0) ∧ w'.cell? ⟨w.heap.size, 2, none⟩ = some (.slice B0 m0.length d0) ∧ w'.cell? ⟨w10.heap.size, 0, none⟩ = some (.int .i64 z0) ∧ w'.cell? ⟨w10.heap.size, 1, none⟩ = some (.slice PX0 l0.length qX0) ∧ w'.cell? ⟨w10.heap.size, 2, none⟩ = some (.slice KX0 m0.length rX0))
    (first | (with_reducible exact ⟨by assumption, by assumption, by assumption, by assumption, by assumption, by assumption⟩) | ((try dsimp only); exact ⟨by assumption, by assumption, by assumption, by assumption, by assumption, by assumption⟩) | go_keep)
    (first
      | (go_at_call 32; refine hto.mono ?_; rintro e w21 ⟨PZ, qZ, KZ, rZ, SZ, rfl, hLZ, _, hb1⟩; have hc1 := HS.out.trans (hb1.mono HS.out.size); have hzz := orbOut_ix hLZ; have hyy := hxx.below hb1; obtain ⟨e0, e1, e2⟩ := HB0.out w21 hc1; obtain ⟨e3, e4, e5⟩ := OrbK.row3 (((hb1).block _ (Args4.box_lt HX.out)).trans HX.out))
      | (go_at_call 25; refine (eqOrbitSet_any z0 l0 m0 HF0.out _ _ _ hyy hzz).mono ?_; rintro e w22 ⟨rfl, hb2⟩; have hbz := hb1.trans (hb2.mono hb1.size); have hc2 := HS.out.trans (hbz.mono HS.out.size); obtain ⟨g0, g1, g2⟩ := HB0.out w22 hc2; obtain ⟨g3, g4, g5⟩ := OrbK.row3 (((hbz).block _ (Args4.box_lt HX.out)).trans HX.out))
      | fail)
  have s23 : w18.drew.heap.size ≤ w22.heap.size := hbz.size
  have KBW_23 := Lib.hid ((hbz.block _ (Args4.box_lt KBW_20.out)).trans KBW_20.out)
  have KBX0_23 := Lib.hid ((hbz.block _ (Args4.box_lt KBX0_20.out)).trans KBX0_20.out)
  have KBG_23 := Lib.hid ((hbz.block _ (Args4.box_lt KBG_20.out)).trans KBG_20.out)
  have NW_23 := Lib.hid (NW_20.out.alike (w' := w22) fun bb hbb => hbz.block bb (NW_20.out.lt bb hbb))
  have NX0_23 := Lib.hid (NX0_20.out.alike (w' := w22) fun bb hbb => hbz.block bb (NX0_20.out.lt bb hbb))
  have NG_23 := Lib.hid (NG_20.out.alike (w' := w22) fun bb hbb => hbz.block bb (NG_20.out.lt bb hbb))
  have QX1_23 := Lib.hid (own_below QX1_20.out hbz)
  have HC23 := Lib.hid (HC20.out.trans (hbz.mono HC20.out.size))
  clear hbz hb1 hb2 hc1 hc2 hzz hyy hxx hLZ hto HS HX b0 b1 b2 x0 x1 x2 e0 e1 e2 e3 e4 e5 g0 g1 g2 g3 g4 g5 KBW_20 KBX0_20 KBG_20 NW_20 NX0_20 NG_20 QX1_20 HC20
  have hto := toIntS_any A1 c1 l1 w22 (HI1.out w22 HC23.out) (by have := HN1.out; omega)
  go_wp2_with fail
  refine hto.mono ?_
  rintro e w24 ⟨vv, rfl, ho, hb⟩
  have s25 : w22.heap.size ≤ w24.heap.size := hb.size
  have KBW_25 := Lib.hid ((hb.block _ (Args4.box_lt KBW_23.out)).trans KBW_23.out)
  have KBX0_25 := Lib.hid ((hb.block _ (Args4.box_lt KBX0_23.out)).trans KBX0_23.out)
  have KBG_25 := Lib.hid ((hb.block _ (Args4.box_lt KBG_23.out)).trans KBG_23.out)
  have NW_25 := Lib.hid (NW_23.out.alike (w' := w24) fun bb hbb => hb.block bb (NW_23.out.lt bb hbb))
  have NX0_25 := Lib.hid (NX0_23.out.alike (w' := w24) fun bb hbb => hb.block bb (NX0_23.out.lt bb hbb))
  have NG_25 := Lib.hid (NG_23.out.alike (w' := w24) fun bb hbb => hb.block bb (NG_23.out.lt bb hbb))
  have QX1_25 := Lib.hid (own_below QX1_23.out hb)
  have HC25 := Lib.hid (HC23.out.trans (hb.mono HC23.out.size))
  have heq := eqIntS_own _ _ _ _ l1 l1 w24 QX1_25.out ho (by have := HN1.out; omega)
  rw [decide_eq_true (rfl : l1 = l1)] at heq
  clear hto hb ho KBW_23 KBX0_23 KBG_23 NW_23 NX0_23 NG_23 QX1_23 HC23
  go_wp2_with fail
  refine heq.mono ?_
  rintro e w26 ⟨rfl, hb⟩
  have s27 : w24.heap.size ≤ w26.heap.size := hb.size
  have KBW_27 := Lib.hid ((hb.block _ (Args4.box_lt KBW_25.out)).trans KBW_25.out)
  have KBX0_27 := Lib.hid ((hb.block _ (Args4.box_lt KBX0_25.out)).trans KBX0_25.out)
  have KBG_27 := Lib.hid ((hb.block _ (Args4.box_lt KBG_25.out)).trans KBG_25.out)
  have NW_27 := Lib.hid (NW_25.out.alike (w' := w26) fun bb hbb => hb.block bb (NW_25.out.lt bb hbb))
  have NX0_27 := Lib.hid (NX0_25.out.alike (w' := w26) fun bb hbb => hb.block bb (NX0_25.out.lt bb hbb))
  have NG_27 := Lib.hid (NG_25.out.alike (w' := w26) fun bb hbb => hb.block bb (NG_25.out.lt bb hbb))
  have QX1_27 := Lib.hid (own_below QX1_25.out hb)
  have HC27 := Lib.hid (HC25.out.trans (hb.mono HC25.out.size))
  clear heq hb KBW_25 KBX0_25 KBG_25 NW_25 NX0_25 NG_25 QX1_25 HC25
  obtain ⟨x0, x1, x2⟩ := OrbK.row3 KBX0_27.out
  have hmk := markOrbitSet_any z0 l0 m0 HF0.out SX0 PX0 KX0 qX0 rX0 (1) w26 (by omega) (by omega) NX0_27.out
  go_wp2_with fail
  (with_reducible refine hmk.mono ?_)
  rintro e w28 ⟨rfl, hon⟩
  have s29 : w26.heap.size ≤ w28.heap.size := hon.size
  have KBW_29 := Lib.hid ((hon.block _ (Args4.box_lt KBW_27.out) (fun hm => by have := HTX0.out _ hm; omega)).trans KBW_27.out)
  have KBG_29 := Lib.hid ((hon.block _ (Args4.box_lt KBG_27.out) (fun hm => by have := HTX0.out _ hm; omega)).trans KBG_27.out)
  have NW_29 := Lib.hid (NW_27.out.alike (w' := w28) fun bb hbb => hon.block bb (NW_27.out.lt bb hbb) (fun hm => by have h1 := HTX0.out _ hm; have h2 := HTW.out _ hbb; omega))
  have NG_29 := Lib.hid (NG_27.out.alike (w' := w28) fun bb hbb => hon.block bb (NG_27.out.lt bb hbb) (fun hm => by have h1 := HTX0.out _ hm; have h2 := HTG.out _ hbb; omega))
  have QX1_29 := Lib.hid (own_only QX1_27.out hon (fun k e hm => by have h1 := HTX0.out _ hm; have h2 := HRX1.out _ e; omega))
  have HC29 := Lib.hid (Only.below HC27.out hon HC27.out.size (fun b hb => by have := HTX0.out _ hb; have := HZ.out; omega))
  clear hmk hon x0 x1 x2 NX0_27 KBX0_27 KBW_27 KBG_27 NW_27 NG_27 QX1_27 HC27
  have hmk := markIntS_own _ l1.length (.slice BX1 l1.length dX1) _ (1 + (l0.length : Int) + (sumR m0 : Int)) w28 QX1_29.out (by omega) (by have := HN1.out; omega)
  go_wp2_with fail
  (with_reducible refine hmk.mono ?_)
  rintro e w30 ⟨rfl, _, hg⟩
  have hon : Only (.slice BX1 l1.length dX1 : Value).ownBlock.toList w28 w30 := Only.of_grown hg (fun b e => by rw [e]; simp)
  have HTM1 : Hid (∀ b ∈ (.slice BX1 l1.length dX1 : Value).ownBlock.toList, _ ∧ _) := Lib.hid (fun b hb => HRX1.out b (by simpa using hb))
  have s31 : w28.heap.size ≤ w30.heap.size := hon.size
  have KBW_31 := Lib.hid ((hon.block _ (Args4.box_lt KBW_29.out) (fun hm => by have := HTM1.out _ hm; omega)).trans KBW_29.out)
  have KBG_31 := Lib.hid ((hon.block _ (Args4.box_lt KBG_29.out) (fun hm => by have := HTM1.out _ hm; omega)).trans KBG_29.out)
  have NW_31 := Lib.hid (NW_29.out.alike (w' := w30) fun bb hbb => hon.block bb (NW_29.out.lt bb hbb) (fun hm => by have h1 := HTM1.out _ hm; have h2 := HTW.out _ hbb; omega))
  have NG_31 := Lib.hid (NG_29.out.alike (w' := w30) fun bb hbb => hon.block bb (NG_29.out.lt bb hbb) (fun hm => by have h1 := HTM1.out _ hm; have h2 := HTG.out _ hbb; omega))
  have HC31 := Lib.hid (Only.below HC29.out hon HC29.out.size (fun b hb => by have := HTM1.out _ hb; have := HZ.out; omega))
  clear hmk hg hon QX1_29 KBW_29 KBG_29 NW_29 NG_29 HC29
  have tk : ¬ 1 + (l0.length : Int) + (sumR m0 : Int) + (l1.length : Int) < 0 := by omega
  have heq := eqOrbitSet_any zR lR mR HFR.out w30 _ _ (orbOut_ix NG_31.out) (orbOut_ix NW_31.out)
  obtain ⟨ya0, ya1, ya2⟩ := OrbK.row3 KBG_31.out
  obtain ⟨yb0, yb1, yb2⟩ := OrbK.row3 KBW_31.out
  go_wp2_with fail
  refine heq.mono ?_
  rintro e w32 ⟨rfl, hb⟩
  have s33 : w30.heap.size ≤ w32.heap.size := hb.size
  have KBW_33 := Lib.hid ((hb.block _ (Args4.box_lt KBW_31.out)).trans KBW_31.out)
  have KBG_33 := Lib.hid ((hb.block _ (Args4.box_lt KBG_31.out)).trans KBG_31.out)
  have NW_33 := Lib.hid (NW_31.out.alike (w' := w32) fun bb hbb => hb.block bb (NW_31.out.lt bb hbb))
  have NG_33 := Lib.hid (NG_31.out.alike (w' := w32) fun bb hbb => hb.block bb (NG_31.out.lt bb hbb))
  have HC33 := Lib.hid (HC31.out.trans (hb.mono HC31.out.size))
  clear heq hb ya0 ya1 ya2 yb0 yb1 yb2 KBW_31 KBG_31 NW_31 NG_31 HC31
  obtain ⟨y0, y1, y2⟩ := OrbK.row3 KBG_33.out
  have hmi := markOrbitSet_full zR lR mR HFR.out SG AG BG cG dG 1 w32 (by omega) (by omega) NG_33.out
  go_wp2_with fail
  (with_reducible refine hmi.mono ?_)
  rintro e w34 ⟨rfl, ⟨S', hLm, hSm⟩, hon⟩
  have s35 : w32.heap.size ≤ w34.heap.size := hon.size
  have KBW_35 := Lib.hid ((hon.block _ (Args4.box_lt KBW_33.out) (fun hm => by have := HTG.out _ hm; omega)).trans KBW_33.out)
  have KBG_35 := Lib.hid ((hon.block _ (Args4.box_lt KBG_33.out) (fun hm => by have := HTG.out _ hm; omega)).trans KBG_33.out)
  have NW_35 := Lib.hid (NW_33.out.alike (w' := w34) fun bb hbb => hon.block bb (NW_33.out.lt bb hbb) (fun hm => by have h1 := HTG.out _ hm; have h2 := HTW.out _ hbb; omega))
  have HC35 := Lib.hid (Only.below HC33.out hon HC33.out.size (fun b hb => by have := HTG.out _ hb; have := HZ.out; omega))
  have NM := Lib.hid hLm
  have HTM : Hid (∀ b ∈ S', _ ∧ _) := Lib.hid (fun b hb => HTG.out b (hSm b hb))
  clear hmi hon hLm hSm y0 y1 y2 NG_33 KBW_33 KBG_33 NW_33 HC33
  have tm : ¬ 1 + (lR.length : Int) + (sumR mR : Int) < 0 := by omega
  have tq : (1 + (lR.length : Int) + (sumR mR : Int) != 1 + (lR.length : Int) + (sumR mR : Int)) = false := by simp
  obtain ⟨y0, y1, y2⟩ := OrbK.row3 KBG_35.out
  have hhi := heldOrbitSet_any zR lR mR HFR.out S' AG BG cG dG 1 w34 (by omega) (by omega) NM.out
  go_wp2_with fail
  (with_reducible refine hhi.mono ?_)
  rintro e w36 ⟨rfl, hb⟩
  have s37 : w34.heap.size ≤ w36.heap.size := hb.size
  have KBW_37 := Lib.hid ((hb.block _ (Args4.box_lt KBW_35.out)).trans KBW_35.out)
  have KBG_37 := Lib.hid ((hb.block _ (Args4.box_lt KBG_35.out)).trans KBG_35.out)
  have NW_37 := Lib.hid (NW_35.out.alike (w' := w36) fun bb hbb => hb.block bb (NW_35.out.lt bb hbb))
  have NM_37 := Lib.hid (NM.out.alike (w' := w36) fun bb hbb => hb.block bb (NM.out.lt bb hbb))
  have HC37 := Lib.hid (HC35.out.trans (hb.mono HC35.out.size))
  clear hhi hb y0 y1 y2 KBW_35 KBG_35 NW_35 NM HC35
  obtain ⟨b0, b1, b2⟩ := HB0.out w36 HC37.out
  have hto := toOrbitSet_any z0 l0 m0 HF0.out w36 _ (HI0.out w36 HC37.out)
  go_wp2_with fail
  (with_reducible refine hto.mono ?_)
  rintro e w38 ⟨v0, q0, K0, r0, S0, rfl, hL0, _, hb⟩
  have hin0 := orbOut_ix hL0
  have s39 : w36.heap.size ≤ w38.heap.size := hb.size
  have KBW_39 := Lib.hid ((hb.block _ (Args4.box_lt KBW_37.out)).trans KBW_37.out)
  have KBG_39 := Lib.hid ((hb.block _ (Args4.box_lt KBG_37.out)).trans KBG_37.out)
  have NW_39 := Lib.hid (NW_37.out.alike (w' := w38) fun bb hbb => hb.block bb (NW_37.out.lt bb hbb))
  have NM_39 := Lib.hid (NM_37.out.alike (w' := w38) fun bb hbb => hb.block bb (NM_37.out.lt bb hbb))
  have HC39 := Lib.hid (HC37.out.trans (hb.mono HC37.out.size))
  clear hto hb hL0 b0 b1 b2 KBW_37 KBG_37 NW_37 NM_37 HC37
  have hto := toIntS_any A1 c1 l1 w38 (HI1.out w38 HC39.out) (by have := HN1.out; omega)
  go_wp2_with fail
  (with_reducible refine hto.mono ?_)
  rintro e w40 ⟨v1, rfl, ho1, hb⟩
  obtain ⟨Bv1, dv1, rfl, hin1⟩ := own_intsAt ho1
  replace hin0 := hin0.below hb
  have s41 : w38.heap.size ≤ w40.heap.size := hb.size
  have KBW_41 := Lib.hid ((hb.block _ (Args4.box_lt KBW_39.out)).trans KBW_39.out)
  have KBG_41 := Lib.hid ((hb.block _ (Args4.box_lt KBG_39.out)).trans KBG_39.out)
  have NW_41 := Lib.hid (NW_39.out.alike (w' := w40) fun bb hbb => hb.block bb (NW_39.out.lt bb hbb))
  have NM_41 := Lib.hid (NM_39.out.alike (w' := w40) fun bb hbb => hb.block bb (NM_39.out.lt bb hbb))
  have HC41 := Lib.hid (HC39.out.trans (hb.mono HC39.out.size))
  clear hto hb ho1 KBW_39 KBG_39 NW_39 NM_39 HC39
  have hsp := placesOfSet_impl z0 l0 m0 HF0.out l1 (by have := HN1.out; omega) _ Bv1 dv1 w40 hin0 hin1
  rw [HzR.out] at hsp
  rw [HlR.out] at hsp
  rw [HmR.out] at hsp
  rw [HFL.out] at hsp
  clear hin0 hin1
  go_wp2_with fail
  (with_reducible refine hsp.mono ?_)
  rintro e w42 ⟨AH, cH, BH, dH, SH, rfl, hL, hS, hb⟩
  have s43 : w40.heap.size ≤ w42.heap.size := hb.size
  have KBW_43 := Lib.hid ((hb.block _ (Args4.box_lt KBW_41.out)).trans KBW_41.out)
  have KBG_43 := Lib.hid ((hb.block _ (Args4.box_lt KBG_41.out)).trans KBG_41.out)
  have NW_43 := Lib.hid (NW_41.out.alike (w' := w42) fun bb hbb => hb.block bb (NW_41.out.lt bb hbb))
  have NM_43 := Lib.hid (NM_41.out.alike (w' := w42) fun bb hbb => hb.block bb (NM_41.out.lt bb hbb))
  have HC43 := Lib.hid (HC41.out.trans (hb.mono HC41.out.size))
  have HTH : Hid (∀ b ∈ SH, w40.heap.size ≤ b ∧ b < w42.heap.size) := Lib.hid (fun b hb => ⟨hS b hb, hL.lt b hb⟩)
  have NH := Lib.hid hL
  clear hb hS KBW_41 KBG_41 NW_41 NM_41 HC41 hL
  have hbx : Below w42.heap.size w42 (w42.alloc (.cells #[.int .i64 zR, .slice AH lR.length cH, .slice BH mR.length dH] 29)) := (Below.refl _ _).alloc (Nat.le_refl _) _
  have s44 : w42.heap.size ≤ (w42.alloc (.cells #[.int .i64 zR, .slice AH lR.length cH, .slice BH mR.length dH] 29)).heap.size := hbx.size
  have KBW_44 := Lib.hid ((hbx.block _ (Args4.box_lt KBW_43.out)).trans KBW_43.out)
  have KBG_44 := Lib.hid ((hbx.block _ (Args4.box_lt KBG_43.out)).trans KBG_43.out)
  have NW_44 := Lib.hid (NW_43.out.alike (w' := (w42.alloc (.cells #[.int .i64 zR, .slice AH lR.length cH, .slice BH mR.length dH] 29))) fun bb hbb => hbx.block bb (NW_43.out.lt bb hbb))
  have NM_44 := Lib.hid (NM_43.out.alike (w' := (w42.alloc (.cells #[.int .i64 zR, .slice AH lR.length cH, .slice BH mR.length dH] 29))) fun bb hbb => hbx.block bb (NM_43.out.lt bb hbb))
  have NH_44 := Lib.hid (NH.out.alike (w' := (w42.alloc (.cells #[.int .i64 zR, .slice AH lR.length cH, .slice BH mR.length dH] 29))) fun bb hbb => hbx.block bb (NH.out.lt bb hbb))
  have HC44 := Lib.hid (HC43.out.trans (hbx.mono HC43.out.size))
  have KBH := Lib.hid (heap_alloc_new w42 (.cells #[.int .i64 zR, .slice AH lR.length cH, .slice BH mR.length dH] 29))
  clear hbx KBW_43 KBG_43 NW_43 NM_43 NH HC43
  have lt_H : w42.heap.size < (w42.alloc (.cells #[.int .i64 zR, .slice AH lR.length cH, .slice BH mR.length dH] 29)).heap.size := by simp
  clear hsp
  have heq := eqOrbitSet_any zR lR mR HFR.out (w42.alloc (.cells #[.int .i64 zR, .slice AH lR.length cH, .slice BH mR.length dH] 29)) _ _ (orbOut_ix NH_44.out) (orbOut_ix NW_44.out)
  obtain ⟨ya0, ya1, ya2⟩ := OrbK.row3 KBH.out
  obtain ⟨yb0, yb1, yb2⟩ := OrbK.row3 KBW_44.out
  go_wp2_with fail
  refine heq.mono ?_
  rintro e w45 ⟨rfl, hb⟩
  have s46 : (w42.alloc (.cells #[.int .i64 zR, .slice AH lR.length cH, .slice BH mR.length dH] 29)).heap.size ≤ w45.heap.size := hb.size
  have KBW_46 := Lib.hid ((hb.block _ (Args4.box_lt KBW_44.out)).trans KBW_44.out)
  have KBG_46 := Lib.hid ((hb.block _ (Args4.box_lt KBG_44.out)).trans KBG_44.out)
  have KBH_46 := Lib.hid ((hb.block _ (Args4.box_lt KBH.out)).trans KBH.out)
  have NW_46 := Lib.hid (NW_44.out.alike (w' := w45) fun bb hbb => hb.block bb (NW_44.out.lt bb hbb))
  have NM_46 := Lib.hid (NM_44.out.alike (w' := w45) fun bb hbb => hb.block bb (NM_44.out.lt bb hbb))
  have NH_46 := Lib.hid (NH_44.out.alike (w' := w45) fun bb hbb => hb.block bb (NH_44.out.lt bb hbb))
  have HC46 := Lib.hid (HC44.out.trans (hb.mono HC44.out.size))
  clear heq hb ya0 ya1 ya2 yb0 yb1 yb2 KBW_44 KBG_44 KBH NW_44 NM_44 NH_44 HC44
  obtain ⟨y0, y1, y2⟩ := OrbK.row3 KBG_46.out
  have hhi := heldOrbitSet_any zR lR mR HFR.out S' AG BG cG dG 1 w45 (by omega) (by omega) NM_46.out
  go_wp2_with fail
  (with_reducible refine hhi.mono ?_)
  rintro e w47 ⟨rfl, hb⟩
  have s48 : w45.heap.size ≤ w47.heap.size := hb.size
  have KBW_48 := Lib.hid ((hb.block _ (Args4.box_lt KBW_46.out)).trans KBW_46.out)
  have KBG_48 := Lib.hid ((hb.block _ (Args4.box_lt KBG_46.out)).trans KBG_46.out)
  have KBH_48 := Lib.hid ((hb.block _ (Args4.box_lt KBH_46.out)).trans KBH_46.out)
  have NW_48 := Lib.hid (NW_46.out.alike (w' := w47) fun bb hbb => hb.block bb (NW_46.out.lt bb hbb))
  have NM_48 := Lib.hid (NM_46.out.alike (w' := w47) fun bb hbb => hb.block bb (NM_46.out.lt bb hbb))
  have NH_48 := Lib.hid (NH_46.out.alike (w' := w47) fun bb hbb => hb.block bb (NH_46.out.lt bb hbb))
  have HC48 := Lib.hid (HC46.out.trans (hb.mono HC46.out.size))
  clear hhi hb y0 y1 y2 KBW_46 KBG_46 KBH_46 NW_46 NM_46 NH_46 HC46
  have hfin := HW0.out.trans (HC48.out.mono HW0.out.size)
  go_wp2
  go_ret
  exact ⟨rfl, hfin⟩

theorem walk (w : World) (x0 : Value) (z0 : Int) (l0 : List Int) (m0 : List (List Int)) (hx0 : OrbIn w x0 z0 l0 m0) (hs0 : ShortO l0 m0) (A1 : Option Addr) (c1 : Nat) (l1 : List Int) (hA1 : IntsAt w A1 l1) (hm1 : l1.length ≤ maxLen) :
    Calls Try.prog 9 #[x0, .slice A1 l1.length c1] w fun e w' => e = .returned (.bool true) ∧ Below w.heap.size w w' := by
  by_cases hn1 : l1.length ≤ 1048576
  · skip
    by_cases hn0 : ((l0.length + (m0.length + sumR m0) : Nat) : Int) ≤ 1048576
    · skip
      exact walk_yes w x0 z0 l0 m0 hx0 hs0 A1 c1 l1 hA1 hm1 hn1 hn0
    · exact walk_no0 w x0 z0 l0 m0 hx0 hs0 A1 c1 l1 hA1 hm1 hn1 hn0
  · exact walk_big1 w x0 z0 l0 m0 hx0 hs0 A1 c1 l1 hA1 hm1 hn1

set_option maxRecDepth 100000 in
theorem lifted (os : Os) (started : os.Started) (H : Type) (enc : TypeId × Value → H) :
    ReturnsInHanded {} Try.checked os 9 .any (Rows.fnExactPlacesOfSetSpec.pre6 enc Try.prog Try.f9 Rows.fnExactPlacesOfSetRow.domain false) (Rows.fnExactPlacesOfSetSpec.post enc Try.prog Try.f9 false true false false) := by
  refine returnsInHanded_of_change (C := Try.checked) own started (by kernel_rfl) Try.func9
    (ChangeSpec.witness6 (enc := enc) (C := Try.checked) false ⟨#[], #[.agg #[.int .i64 0, .slice none 0 0, .slice none 0 0], .slice none 0 0], []⟩ 8 (by kernel_rfl) (by kernel_rfl) (by kernel_rfl) (by kernel_rfl)) ?_
  intro W base args ds gs before hval0 hW hcnd _
  have hval : ∀ (j : Nat) t v, Try.f9.params[j]? = some t → args[j]? = some v → Value.okWide Try.prog W .any base t v := hval0
  have hW' := hW
  obtain ⟨p, q, hA0, hV, rfl, hfz, hnd⟩ := hW
  have hA : DataW.TrodAll enc Try.prog W 0 (fun _ => true) true Try.f9.params.toList args.toList ds p := hA0
  rw [Try.params9] at hA hval
  obtain ⟨v0, vs0, d0, ds0, p0, q0, hargs, rfl, rfl, h0, r0⟩ := trodAll_cons hA
  obtain ⟨v1, vs1, d1, ds1, p1, q1, rfl, rfl, rfl, h1, r1⟩ := trodAll_cons r0
  obtain ⟨rfl, rfl, rfl⟩ := trodAll_nil r1
  obtain rfl : args = #[v0, v1] := by cases args; simp_all
  obtain ⟨rfl, rfl⟩ := trodVars_none hV
  have k0 := h0
  have lt0 : ∀ x ∈ p0, x.block < W.heap.size := by obtain ⟨m, hm⟩ := k0; exact DataW.trod_lt m _ _ _ hm
  have k1 := h1
  have lt1 : ∀ x ∈ p1, x.block < W.heap.size := by obtain ⟨m, hm⟩ := k1; exact DataW.trod_lt m _ _ _ hm
  obtain ⟨z0, l0, m0, tx0, ts0⟩ := open_orbit (hval 0 39 v0 rfl rfl) h0
  obtain ⟨A1, n1, c1, rfl⟩ := okWide_slice Try.underlying27 (hval 1 27 v1 rfl rfl)
  obtain ⟨l1, rfl, w1, m1⟩ := open_intsL h1
  clear hA0 hval0
  refine (walk W v0 z0 l0 m0 tx0 ts0 A1 c1 l1 w1 m1).mono fun e W' ⟨he, bel⟩ => ?_
  subst he
  exact ⟨_, rfl, _, _, _, [], _, [], hW', trodAll_mk1 (shut_bool Try.underlying4 _), (trodAll_cons_mk (Below.trod laidOut (by kernel_rfl) (of_decide_eq_true (by kernel_rfl)) k0 bel lt0) (trodAll_cons_mk (Below.trod laidOut (by kernel_rfl) (of_decide_eq_true (by kernel_rfl)) k1 bel lt1) trodAll_mk0)), rfl, bel.frame _, fun h => by cases h⟩

theorem over : Rows.fnExactPlacesOfSetRow.holds Try.pinned (OpenSpec.ofChange Rows.fnExactPlacesOfSetSpec) :=
  OpenClaim.holds_of_wide 9 Try.f9 rfl rfl rfl rfl rfl rfl rfl ⟨rfl, rfl, rfl, rfl, rfl⟩ rfl rfl rfl rfl rfl (by kernel_rfl) Try.func9 (by kernel_rfl)
    (of_decide_eq_true (by kernel_rfl)) (by unfold Func.isWrapper; first | (rw [if_pos (by decide +kernel)]; kernel_rfl) | (rw [if_neg (by decide +kernel)]; exact ⟨rfl, rfl⟩))
    (fun os started H enc _ => lifted os started H enc)

theorem proved : Rows.FnExactPlacesOfSetSaid := over
#print axioms proved
end Go.Proofs.Ytdbogjhkcnajkaa.fnExactPlacesOfSet
