/-
  The law FnExactSetOfFormula returns true for every two values: the program gives the orbit set of the tuples for which a formula holds, and whether there is one, as the model does, in memory of its own, and leaves its arguments as they were. No condition.
-/
import Derived.Test.YthjkogighppeaaaKSetOfFormula20
import Derived.Test.YthjkogighppeaaaKSetOfFormula8
import Derived.Test.YthjkogighppeaaaKSetOfFormula22
import Derived.Test.YthjkogighppeaaaKSetOfFormula24
import Derived.Test.YthjkogighppeaaaKSetOfFormula21
namespace Go.Proofs.Ythjkogighppeaaa.fnExactSetOfFormula
open Go.ChangeShapes Go.WideShapes Go.ChangeAt Go.RowKit
set_option linter.unusedVariables false

namespace Args4
theorem box_lt {w : World} {g : Nat} {o : Obj} (h : w.heap[g]? = some o) : g < w.heap.size := (Array.getElem?_eq_some_iff.1 h).1
theorem row4 {w : World} {g : Nat} {a b c d : Value} {T : TypeId} (h : w.heap[g]? = some (.cells #[a, b, c, d] T (0, 0))) : w.cell? ⟨g, 0, none⟩ = some a ∧ w.cell? ⟨g, 1, none⟩ = some b ∧ w.cell? ⟨g, 2, none⟩ = some c ∧ w.cell? ⟨g, 3, none⟩ = some d := by
  refine ⟨?_, ?_, ?_, ?_⟩ <;> rw [cell_of_row w g _ _ _ _ h] <;> rfl
end Args4
theorem pairsAt_of {w : World} {base n : Nat} {e : TypeId} {B : Option Addr} {d : Nat} {l : List (Int × Int)} (h : w.ownsRow base e 2 (.slice B n d) l.length (cellsOf l)) : PairsAt w B l := by
  obtain ⟨A, c, ee, hp⟩ := own_pairsAt h
  injection ee with e1 e2 e3
  subst e1
  exact hp

set_option maxRecDepth 100000 in
set_option maxHeartbeats 16000000 in
theorem walk_no0 (w : World) (x0 : Value) (t0 : Fm) (hx0 : FmIn w x0 t0) (hs0 : ShortFm t0) (a1 : Int) (wf1 : (Lit.int .i64 a1).wf = true) (hn0 : ¬ (cntFm t0 : Int) ≤ 1048576) :
    Calls Try.prog 3 #[x0, .int .i64 a1] w fun e w' => e = .returned (.bool true) ∧ Below w.heap.size w w' := by
  obtain ⟨B0, d0, rfl, hk0⟩ := hx0
  have hb0 : Below w.heap.size w (w.alloc (.cells #[.int .i64 t0.op, .int .i64 t0.fa, .int .i64 t0.fb, .slice B0 t0.kids.length d0] 24)) := ((Below.refl _ w).alloc (by first | exact Nat.le_refl _ | (simp; done) | (simp; omega)) _)
  have HI0 : Hid (∀ w' : World, Below (w.alloc (.cells #[.int .i64 t0.op, .int .i64 t0.fa, .int .i64 t0.fb, .slice B0 t0.kids.length d0] 24)).heap.size (w.alloc (.cells #[.int .i64 t0.op, .int .i64 t0.fa, .int .i64 t0.fb, .slice B0 t0.kids.length d0] 24)) w' → FmIn w' (.agg #[.int .i64 t0.op, .int .i64 t0.fa, .int .i64 t0.fb, .slice B0 t0.kids.length d0]) t0) := Lib.hid (fun w' h => ⟨B0, d0, rfl, hk0.below (hb0.trans (h.mono hb0.size))⟩)
  have kk0 : (w.alloc (.cells #[.int .i64 t0.op, .int .i64 t0.fa, .int .i64 t0.fb, .slice B0 t0.kids.length d0] 24)).heap[w.heap.size]? = some (.cells #[.int .i64 t0.op, .int .i64 t0.fa, .int .i64 t0.fb, .slice B0 t0.kids.length d0] 24 (0, 0)) := by
    have h := heap_alloc_new w (.cells #[.int .i64 t0.op, .int .i64 t0.fa, .int .i64 t0.fb, .slice B0 t0.kids.length d0] 24)
    exact h
  obtain ⟨b00, b01, b02, b03⟩ := Args4.row4 kk0
  have lt0 : w.heap.size < (w.alloc (.cells #[.int .i64 t0.op, .int .i64 t0.fa, .int .i64 t0.fb, .slice B0 t0.kids.length d0] 24)).heap.size := by first | (simp; done) | (simp; omega)
  have HB0 : Hid (∀ w' : World, Below (w.alloc (.cells #[.int .i64 t0.op, .int .i64 t0.fa, .int .i64 t0.fb, .slice B0 t0.kids.length d0] 24)).heap.size (w.alloc (.cells #[.int .i64 t0.op, .int .i64 t0.fa, .int .i64 t0.fb, .slice B0 t0.kids.length d0] 24)) w' → w'.cell? ⟨w.heap.size, 0, none⟩ = some (.int .i64 t0.op) ∧ w'.cell? ⟨w.heap.size, 1, none⟩ = some (.int .i64 t0.fa) ∧ w'.cell? ⟨w.heap.size, 2, none⟩ = some (.int .i64 t0.fb) ∧ w'.cell? ⟨w.heap.size, 3, none⟩ = some (.slice B0 t0.kids.length d0)) := Lib.hid (fun w' h => ⟨(h.cell (p := ⟨w.heap.size, 0, none⟩) lt0).trans b00, (h.cell (p := ⟨w.heap.size, 1, none⟩) lt0).trans b01, (h.cell (p := ⟨w.heap.size, 2, none⟩) lt0).trans b02, (h.cell (p := ⟨w.heap.size, 3, none⟩) lt0).trans b03⟩)
  clear hk0 kk0 lt0
  have HC0 : Hid (Below (w.alloc (.cells #[.int .i64 t0.op, .int .i64 t0.fa, .int .i64 t0.fb, .slice B0 t0.kids.length d0] 24)).heap.size (w.alloc (.cells #[.int .i64 t0.op, .int .i64 t0.fa, .int .i64 t0.fb, .slice B0 t0.kids.length d0] 24)) (w.alloc (.cells #[.int .i64 t0.op, .int .i64 t0.fa, .int .i64 t0.fb, .slice B0 t0.kids.length d0] 24))) := Lib.hid (Below.refl _ _)
  have HW0 := Lib.hid hb0
  clear hb0
  go_enter Try.func3, Try.ntmps3
  have hsz := szFormula_any t0 hs0 (1048576) (w.alloc (.cells #[.int .i64 t0.op, .int .i64 t0.fa, .int .i64 t0.fb, .slice B0 t0.kids.length d0] 24)) _ (by omega) (by omega) (HI0.out (w.alloc (.cells #[.int .i64 t0.op, .int .i64 t0.fa, .int .i64 t0.fb, .slice B0 t0.kids.length d0] 24)) HC0.out)
  unfold LeftPost at hsz
  rw [leftR_no (by omega)] at hsz
  go_wp2_with fail
  refine hsz.mono ?_
  rintro e u1 ⟨rfl, hb⟩
  clear hsz b00 b01 b02 b03
  have s2 : (w.alloc (.cells #[.int .i64 t0.op, .int .i64 t0.fa, .int .i64 t0.fb, .slice B0 t0.kids.length d0] 24)).heap.size ≤ u1.heap.size := hb.size
  have HC2 := Lib.hid (HC0.out.trans (hb.mono HC0.out.size))
  clear hb HC0
  have hfin := HW0.out.trans (HC2.out.mono HW0.out.size)
  go_wp2
  go_ret
  exact ⟨rfl, hfin⟩

set_option maxRecDepth 100000 in
set_option maxHeartbeats 16000000 in
theorem walk_yes (w : World) (x0 : Value) (t0 : Fm) (hx0 : FmIn w x0 t0) (hs0 : ShortFm t0) (a1 : Int) (wf1 : (Lit.int .i64 a1).wf = true) (hn0 : (cntFm t0 : Int) ≤ 1048576) :
    Calls Try.prog 3 #[x0, .int .i64 a1] w fun e w' => e = .returned (.bool true) ∧ Below w.heap.size w w' := by
  have HN0 : Hid (cntFm t0 ≤ 1048576) := Lib.hid (by omega)
  have HF0 : Hid (FitFm t0) := Lib.hid (fitFm_of t0 HN0.out)
  have hmk0 : mcFms t0.kids ≤ 3145728 := by
    have h1 := mcFms_le t0.kids
    have h2 := cntFm_eq t0
    omega
  have HFR := Lib.hid (show FitO (olR (isFmB a1 t0) (namesFm t0)) (omR (isFmB a1 t0) (sfM t0 a1)) from sfFit t0 a1)
  have hmR : (olR (isFmB a1 t0) (namesFm t0)).length + sumR (omR (isFmB a1 t0) (sfM t0 a1)) ≤ 8388608 := sfSum t0 a1
  generalize qzR : ozR (isFmB a1 t0) a1 = zR
  have HzR := Lib.hid qzR
  clear qzR
  generalize qlR : olR (isFmB a1 t0) (namesFm t0) = lR at HFR hmR
  have HlR := Lib.hid qlR
  clear qlR
  generalize qmR : omR (isFmB a1 t0) (sfM t0 a1) = mR at HFR hmR
  have HmR := Lib.hid qmR
  clear qmR
  generalize hFF : isFmB a1 t0 = fl
  have HFL := Lib.hid hFF
  have hfl : (fl != fl) = false := by simp
  clear hFF
  obtain ⟨B0, d0, rfl, hk0⟩ := hx0
  have hb0 : Below w.heap.size w (w.alloc (.cells #[.int .i64 t0.op, .int .i64 t0.fa, .int .i64 t0.fb, .slice B0 t0.kids.length d0] 24)) := ((Below.refl _ w).alloc (by first | exact Nat.le_refl _ | (simp; done) | (simp; omega)) _)
  have HI0 : Hid (∀ w' : World, Below (w.alloc (.cells #[.int .i64 t0.op, .int .i64 t0.fa, .int .i64 t0.fb, .slice B0 t0.kids.length d0] 24)).heap.size (w.alloc (.cells #[.int .i64 t0.op, .int .i64 t0.fa, .int .i64 t0.fb, .slice B0 t0.kids.length d0] 24)) w' → FmIn w' (.agg #[.int .i64 t0.op, .int .i64 t0.fa, .int .i64 t0.fb, .slice B0 t0.kids.length d0]) t0) := Lib.hid (fun w' h => ⟨B0, d0, rfl, hk0.below (hb0.trans (h.mono hb0.size))⟩)
  have kk0 : (w.alloc (.cells #[.int .i64 t0.op, .int .i64 t0.fa, .int .i64 t0.fb, .slice B0 t0.kids.length d0] 24)).heap[w.heap.size]? = some (.cells #[.int .i64 t0.op, .int .i64 t0.fa, .int .i64 t0.fb, .slice B0 t0.kids.length d0] 24 (0, 0)) := by
    have h := heap_alloc_new w (.cells #[.int .i64 t0.op, .int .i64 t0.fa, .int .i64 t0.fb, .slice B0 t0.kids.length d0] 24)
    exact h
  obtain ⟨b00, b01, b02, b03⟩ := Args4.row4 kk0
  have lt0 : w.heap.size < (w.alloc (.cells #[.int .i64 t0.op, .int .i64 t0.fa, .int .i64 t0.fb, .slice B0 t0.kids.length d0] 24)).heap.size := by first | (simp; done) | (simp; omega)
  have HB0 : Hid (∀ w' : World, Below (w.alloc (.cells #[.int .i64 t0.op, .int .i64 t0.fa, .int .i64 t0.fb, .slice B0 t0.kids.length d0] 24)).heap.size (w.alloc (.cells #[.int .i64 t0.op, .int .i64 t0.fa, .int .i64 t0.fb, .slice B0 t0.kids.length d0] 24)) w' → w'.cell? ⟨w.heap.size, 0, none⟩ = some (.int .i64 t0.op) ∧ w'.cell? ⟨w.heap.size, 1, none⟩ = some (.int .i64 t0.fa) ∧ w'.cell? ⟨w.heap.size, 2, none⟩ = some (.int .i64 t0.fb) ∧ w'.cell? ⟨w.heap.size, 3, none⟩ = some (.slice B0 t0.kids.length d0)) := Lib.hid (fun w' h => ⟨(h.cell (p := ⟨w.heap.size, 0, none⟩) lt0).trans b00, (h.cell (p := ⟨w.heap.size, 1, none⟩) lt0).trans b01, (h.cell (p := ⟨w.heap.size, 2, none⟩) lt0).trans b02, (h.cell (p := ⟨w.heap.size, 3, none⟩) lt0).trans b03⟩)
  clear hk0 kk0 lt0
  have HC0 : Hid (Below (w.alloc (.cells #[.int .i64 t0.op, .int .i64 t0.fa, .int .i64 t0.fb, .slice B0 t0.kids.length d0] 24)).heap.size (w.alloc (.cells #[.int .i64 t0.op, .int .i64 t0.fa, .int .i64 t0.fb, .slice B0 t0.kids.length d0] 24)) (w.alloc (.cells #[.int .i64 t0.op, .int .i64 t0.fa, .int .i64 t0.fb, .slice B0 t0.kids.length d0] 24))) := Lib.hid (Below.refl _ _)
  have HW0 := Lib.hid hb0
  clear hb0
  go_enter Try.func3, Try.ntmps3
  have hsz := szFormula_any t0 hs0 (1048576) (w.alloc (.cells #[.int .i64 t0.op, .int .i64 t0.fa, .int .i64 t0.fb, .slice B0 t0.kids.length d0] 24)) _ (by omega) (by omega) (HI0.out (w.alloc (.cells #[.int .i64 t0.op, .int .i64 t0.fa, .int .i64 t0.fb, .slice B0 t0.kids.length d0] 24)) HC0.out)
  unfold LeftPost at hsz
  rw [leftR_yes hn0] at hsz
  have hleft0 : ¬ 1048576 - (cntFm t0 : Int) < 0 := by omega
  go_wp2_with fail
  refine hsz.mono ?_
  rintro e u1 ⟨rfl, hb⟩
  clear hsz b00 b01 b02 b03
  have s2 : (w.alloc (.cells #[.int .i64 t0.op, .int .i64 t0.fa, .int .i64 t0.fb, .slice B0 t0.kids.length d0] 24)).heap.size ≤ u1.heap.size := hb.size
  have HC2 := Lib.hid (HC0.out.trans (hb.mono HC0.out.size))
  clear hb HC0
  have HZ : Hid ((w.alloc (.cells #[.int .i64 t0.op, .int .i64 t0.fa, .int .i64 t0.fb, .slice B0 t0.kids.length d0] 24)).heap.size ≤ u1.heap.size) := Lib.hid HC2.out.size
  obtain ⟨b0, b1, b2, b3⟩ := HB0.out u1 HC2.out
  have hto := toFormula_any t0 HF0.out u1 _ (HI0.out u1 HC2.out)
  go_wp2_with fail
  refine hto.mono ?_
  rintro e w3 ⟨K, r, S, rfl, hL, _, hb⟩
  have hsp := setOfFormula_spec t0 a1 _ w3 HN0.out (fmOut_in hL)
  rw [HzR.out] at hsp
  rw [HlR.out] at hsp
  rw [HmR.out] at hsp
  rw [HFL.out] at hsp
  have s4 : u1.heap.size ≤ w3.heap.size := hb.size
  have HC4 := Lib.hid (HC2.out.trans (hb.mono HC2.out.size))
  clear hto hb hL b0 b1 b2 b3 HC2
  go_wp2_with fail
  refine hsp.mono ?_
  rintro e w5 ⟨AW, cW, BW, dW, SW, rfl, hL, hS, hb⟩
  have s6 : w3.heap.size ≤ w5.heap.size := hb.size
  have HC6 := Lib.hid (HC4.out.trans (hb.mono HC4.out.size))
  have HTW : Hid (∀ b ∈ SW, w3.heap.size ≤ b ∧ b < w5.heap.size) := Lib.hid (fun b hb => ⟨hS b hb, hL.lt b hb⟩)
  have NW := Lib.hid hL
  clear hb hS HC4 hL
  have hbx : Below w5.heap.size w5 (w5.alloc (.cells #[.int .i64 zR, .slice AW lR.length cW, .slice BW mR.length dW] 29)) := (Below.refl _ _).alloc (Nat.le_refl _) _
  have s7 : w5.heap.size ≤ (w5.alloc (.cells #[.int .i64 zR, .slice AW lR.length cW, .slice BW mR.length dW] 29)).heap.size := hbx.size
  have NW_7 := Lib.hid (NW.out.alike (w' := (w5.alloc (.cells #[.int .i64 zR, .slice AW lR.length cW, .slice BW mR.length dW] 29))) fun bb hbb => hbx.block bb (NW.out.lt bb hbb))
  have HC7 := Lib.hid (HC6.out.trans (hbx.mono HC6.out.size))
  have KBW := Lib.hid (heap_alloc_new w5 (.cells #[.int .i64 zR, .slice AW lR.length cW, .slice BW mR.length dW] 29))
  clear hbx NW HC6
  have lt_W : w5.heap.size < (w5.alloc (.cells #[.int .i64 zR, .slice AW lR.length cW, .slice BW mR.length dW] 29)).heap.size := by simp
  clear hsp
  obtain ⟨b0, b1, b2, b3⟩ := HB0.out (w5.alloc (.cells #[.int .i64 zR, .slice AW lR.length cW, .slice BW mR.length dW] 29)) HC7.out
  have hto := toFormula_any t0 HF0.out (w5.alloc (.cells #[.int .i64 zR, .slice AW lR.length cW, .slice BW mR.length dW] 29)) _ (HI0.out (w5.alloc (.cells #[.int .i64 zR, .slice AW lR.length cW, .slice BW mR.length dW] 29)) HC7.out)
  go_wp2_with fail
  refine hto.mono ?_
  rintro e w8 ⟨KX0, rX0, SX0, rfl, hL, hS, hb⟩
  have s9 : (w5.alloc (.cells #[.int .i64 zR, .slice AW lR.length cW, .slice BW mR.length dW] 29)).heap.size ≤ w8.heap.size := hb.size
  have KBW_9 := Lib.hid ((hb.block _ (Args4.box_lt KBW.out)).trans KBW.out)
  have NW_9 := Lib.hid (NW_7.out.alike (w' := w8) fun bb hbb => hb.block bb (NW_7.out.lt bb hbb))
  have HC9 := Lib.hid (HC7.out.trans (hb.mono HC7.out.size))
  have HTX0 : Hid (∀ b ∈ SX0, (w5.alloc (.cells #[.int .i64 zR, .slice AW lR.length cW, .slice BW mR.length dW] 29)).heap.size ≤ b ∧ b < w8.heap.size) := Lib.hid (fun b hb => ⟨hS b hb, hL.lt b hb⟩)
  have NX0 := Lib.hid hL
  clear hto hb hS b0 b1 b2 b3 KBW NW_7 HC7 hL
  have hbx : Below w8.heap.size w8 (w8.alloc (.cells #[.int .i64 t0.op, .int .i64 t0.fa, .int .i64 t0.fb, .slice KX0 t0.kids.length rX0] 34)) := (Below.refl _ _).alloc (Nat.le_refl _) _
  have s10 : w8.heap.size ≤ (w8.alloc (.cells #[.int .i64 t0.op, .int .i64 t0.fa, .int .i64 t0.fb, .slice KX0 t0.kids.length rX0] 34)).heap.size := hbx.size
  have KBW_10 := Lib.hid ((hbx.block _ (Args4.box_lt KBW_9.out)).trans KBW_9.out)
  have NW_10 := Lib.hid (NW_9.out.alike (w' := (w8.alloc (.cells #[.int .i64 t0.op, .int .i64 t0.fa, .int .i64 t0.fb, .slice KX0 t0.kids.length rX0] 34))) fun bb hbb => hbx.block bb (NW_9.out.lt bb hbb))
  have NX0_10 := Lib.hid (NX0.out.alike (w' := (w8.alloc (.cells #[.int .i64 t0.op, .int .i64 t0.fa, .int .i64 t0.fb, .slice KX0 t0.kids.length rX0] 34))) fun bb hbb => hbx.block bb (NX0.out.lt bb hbb))
  have HC10 := Lib.hid (HC9.out.trans (hbx.mono HC9.out.size))
  have KBX0 := Lib.hid (heap_alloc_new w8 (.cells #[.int .i64 t0.op, .int .i64 t0.fa, .int .i64 t0.fb, .slice KX0 t0.kids.length rX0] 34))
  clear hbx KBW_9 NW_9 NX0 HC9
  have lt_X0 : w8.heap.size < (w8.alloc (.cells #[.int .i64 t0.op, .int .i64 t0.fa, .int .i64 t0.fb, .slice KX0 t0.kids.length rX0] 34)).heap.size := by simp
  have hsp := setOfFormula_impl t0 a1 _ (w8.alloc (.cells #[.int .i64 t0.op, .int .i64 t0.fa, .int .i64 t0.fb, .slice KX0 t0.kids.length rX0] 34)) HN0.out (fmOut_in NX0_10.out)
  rw [HzR.out] at hsp
  rw [HlR.out] at hsp
  rw [HmR.out] at hsp
  rw [HFL.out] at hsp
  obtain ⟨x00, x01, x02, x03⟩ := Args4.row4 KBX0.out
  go_wp2_with fail
  refine hsp.mono ?_
  rintro e w11 ⟨AG, cG, BG, dG, SG, rfl, hL, hS, hb⟩
  have s12 : (w8.alloc (.cells #[.int .i64 t0.op, .int .i64 t0.fa, .int .i64 t0.fb, .slice KX0 t0.kids.length rX0] 34)).heap.size ≤ w11.heap.size := hb.size
  have KBW_12 := Lib.hid ((hb.block _ (Args4.box_lt KBW_10.out)).trans KBW_10.out)
  have KBX0_12 := Lib.hid ((hb.block _ (Args4.box_lt KBX0.out)).trans KBX0.out)
  have NW_12 := Lib.hid (NW_10.out.alike (w' := w11) fun bb hbb => hb.block bb (NW_10.out.lt bb hbb))
  have NX0_12 := Lib.hid (NX0_10.out.alike (w' := w11) fun bb hbb => hb.block bb (NX0_10.out.lt bb hbb))
  have HC12 := Lib.hid (HC10.out.trans (hb.mono HC10.out.size))
  have HTG : Hid (∀ b ∈ SG, (w8.alloc (.cells #[.int .i64 t0.op, .int .i64 t0.fa, .int .i64 t0.fb, .slice KX0 t0.kids.length rX0] 34)).heap.size ≤ b ∧ b < w11.heap.size) := Lib.hid (fun b hb => ⟨hS b hb, hL.lt b hb⟩)
  have NG := Lib.hid hL
  clear hb hS KBW_10 KBX0 NW_10 NX0_10 HC10 hL
  have hbx : Below w11.heap.size w11 (w11.alloc (.cells #[.int .i64 zR, .slice AG lR.length cG, .slice BG mR.length dG] 29)) := (Below.refl _ _).alloc (Nat.le_refl _) _
  have s13 : w11.heap.size ≤ (w11.alloc (.cells #[.int .i64 zR, .slice AG lR.length cG, .slice BG mR.length dG] 29)).heap.size := hbx.size
  have KBW_13 := Lib.hid ((hbx.block _ (Args4.box_lt KBW_12.out)).trans KBW_12.out)
  have KBX0_13 := Lib.hid ((hbx.block _ (Args4.box_lt KBX0_12.out)).trans KBX0_12.out)
  have NW_13 := Lib.hid (NW_12.out.alike (w' := (w11.alloc (.cells #[.int .i64 zR, .slice AG lR.length cG, .slice BG mR.length dG] 29))) fun bb hbb => hbx.block bb (NW_12.out.lt bb hbb))
  have NX0_13 := Lib.hid (NX0_12.out.alike (w' := (w11.alloc (.cells #[.int .i64 zR, .slice AG lR.length cG, .slice BG mR.length dG] 29))) fun bb hbb => hbx.block bb (NX0_12.out.lt bb hbb))
  have NG_13 := Lib.hid (NG.out.alike (w' := (w11.alloc (.cells #[.int .i64 zR, .slice AG lR.length cG, .slice BG mR.length dG] 29))) fun bb hbb => hbx.block bb (NG.out.lt bb hbb))
  have HC13 := Lib.hid (HC12.out.trans (hbx.mono HC12.out.size))
  have KBG := Lib.hid (heap_alloc_new w11 (.cells #[.int .i64 zR, .slice AG lR.length cG, .slice BG mR.length dG] 29))
  clear hbx KBW_12 KBX0_12 NW_12 NX0_12 NG HC12
  have lt_G : w11.heap.size < (w11.alloc (.cells #[.int .i64 zR, .slice AG lR.length cG, .slice BG mR.length dG] 29)).heap.size := by simp
  clear hsp x00 x01 x02 x03
  have heq := eqOrbitSet_any zR lR mR HFR.out (w11.alloc (.cells #[.int .i64 zR, .slice AG lR.length cG, .slice BG mR.length dG] 29)) _ _ (orbOut_ix NG_13.out) (orbOut_ix NW_13.out)
  obtain ⟨ya0, ya1, ya2⟩ := OrbK.row3 KBG.out
  obtain ⟨yb0, yb1, yb2⟩ := OrbK.row3 KBW_13.out
  go_wp2_with fail
  refine heq.mono ?_
  rintro e w14 ⟨rfl, hb⟩
  have s15 : (w11.alloc (.cells #[.int .i64 zR, .slice AG lR.length cG, .slice BG mR.length dG] 29)).heap.size ≤ w14.heap.size := hb.size
  have KBW_15 := Lib.hid ((hb.block _ (Args4.box_lt KBW_13.out)).trans KBW_13.out)
  have KBX0_15 := Lib.hid ((hb.block _ (Args4.box_lt KBX0_13.out)).trans KBX0_13.out)
  have KBG_15 := Lib.hid ((hb.block _ (Args4.box_lt KBG.out)).trans KBG.out)
  have NW_15 := Lib.hid (NW_13.out.alike (w' := w14) fun bb hbb => hb.block bb (NW_13.out.lt bb hbb))
  have NX0_15 := Lib.hid (NX0_13.out.alike (w' := w14) fun bb hbb => hb.block bb (NX0_13.out.lt bb hbb))
  have NG_15 := Lib.hid (NG_13.out.alike (w' := w14) fun bb hbb => hb.block bb (NG_13.out.lt bb hbb))
  have HC15 := Lib.hid (HC13.out.trans (hb.mono HC13.out.size))
  clear heq hb ya0 ya1 ya2 yb0 yb1 yb2 KBW_13 KBX0_13 KBG NW_13 NX0_13 NG_13 HC13
  have hdw : Below w14.heap.size w14 w14.drew := ⟨rfl, rfl, rfl, Nat.le_refl _, fun _ _ => rfl⟩
  have s16 : w14.heap.size ≤ w14.drew.heap.size := hdw.size
  have KBW_16 := Lib.hid ((hdw.block _ (Args4.box_lt KBW_15.out)).trans KBW_15.out)
  have KBX0_16 := Lib.hid ((hdw.block _ (Args4.box_lt KBX0_15.out)).trans KBX0_15.out)
  have KBG_16 := Lib.hid ((hdw.block _ (Args4.box_lt KBG_15.out)).trans KBG_15.out)
  have NW_16 := Lib.hid (NW_15.out.alike (w' := w14.drew) fun bb hbb => hdw.block bb (NW_15.out.lt bb hbb))
  have NX0_16 := Lib.hid (NX0_15.out.alike (w' := w14.drew) fun bb hbb => hdw.block bb (NX0_15.out.lt bb hbb))
  have NG_16 := Lib.hid (NG_15.out.alike (w' := w14.drew) fun bb hbb => hdw.block bb (NG_15.out.lt bb hbb))
  have HC16 := Lib.hid (HC15.out.trans (hdw.mono HC15.out.size))
  clear hdw KBW_15 KBX0_15 KBG_15 NW_15 NX0_15 NG_15 HC15
  have HS := HC16
  have HX := KBX0_16
  obtain ⟨b0, b1, b2, b3⟩ := HB0.out w14.drew HC16.out
  obtain ⟨x0, x1, x2, x3⟩ := Args4.row4 KBX0_16.out
  have hxx := fmOut_in NX0_16.out
  have hto := toFormula_any t0 HF0.out w14.drew _ (HI0.out w14.drew HS.out)
  go_wp2
  go_region_held3 (fun w' => w'.cell? ⟨w.heap.size, 0, none⟩ = some (.int .i64 t0.op) ∧ w'.cell? ⟨w.heap.size, 1, none⟩ = some (.int .i64 t0.fa) ∧ w'.cell? ⟨w.heap.size, 2, none⟩ = some (.int .i64 t0.fb) ∧ w'.cell? ⟨w.heap.size, 3, none⟩ = some (.slice B0 t0.kids.length d0) ∧ w'.cell? ⟨w8.heap.size, 0, none⟩ = some (.int .i64 t0.op) ∧ w'.cell? ⟨w8.heap.size, 1, none⟩ = some (.int .i64 t0.fa) ∧ w'.cell? ⟨w8.heap.size, 2, none⟩ = some (.int .i64 t0.fb) ∧ w'.cell? ⟨w8.heap.size, 3, none⟩ = some (.slice KX0 t0.kids.length rX0))
    (first | (with_reducible exact ⟨by assumption, by assumption, by assumption, by assumption, by assumption, by assumption, by assumption, by assumption⟩) | ((try dsimp only); exact ⟨by assumption, by assumption, by assumption, by assumption, by assumption, by assumption, by assumption, by assumption⟩) | go_keep)
    (first
      | (go_at_call 6; refine hto.mono ?_; rintro e w17 ⟨KZ, rZ, SZ, rfl, hLZ, _, hb1⟩; have hc1 := HS.out.trans (hb1.mono HS.out.size); have hzz := fmOut_in hLZ; have hyy := hxx.below hb1; obtain ⟨e0, e1, e2, e3⟩ := HB0.out w17 hc1; obtain ⟨e4, e5, e6, e7⟩ := Args4.row4 (((hb1).block _ (Args4.box_lt HX.out)).trans HX.out))
      | (go_at_call 9; refine (eqFormula_any t0 HF0.out _ _ _ hyy hzz).mono ?_; rintro e w18 ⟨rfl, hb2⟩; have hbz := hb1.trans (hb2.mono hb1.size); have hc2 := HS.out.trans (hbz.mono HS.out.size); obtain ⟨g0, g1, g2, g3⟩ := HB0.out w18 hc2; obtain ⟨g4, g5, g6, g7⟩ := Args4.row4 (((hbz).block _ (Args4.box_lt HX.out)).trans HX.out))
      | fail)
  have s19 : w14.drew.heap.size ≤ w18.heap.size := hbz.size
  have KBW_19 := Lib.hid ((hbz.block _ (Args4.box_lt KBW_16.out)).trans KBW_16.out)
  have KBX0_19 := Lib.hid ((hbz.block _ (Args4.box_lt KBX0_16.out)).trans KBX0_16.out)
  have KBG_19 := Lib.hid ((hbz.block _ (Args4.box_lt KBG_16.out)).trans KBG_16.out)
  have NW_19 := Lib.hid (NW_16.out.alike (w' := w18) fun bb hbb => hbz.block bb (NW_16.out.lt bb hbb))
  have NX0_19 := Lib.hid (NX0_16.out.alike (w' := w18) fun bb hbb => hbz.block bb (NX0_16.out.lt bb hbb))
  have NG_19 := Lib.hid (NG_16.out.alike (w' := w18) fun bb hbb => hbz.block bb (NG_16.out.lt bb hbb))
  have HC19 := Lib.hid (HC16.out.trans (hbz.mono HC16.out.size))
  clear hbz hb1 hb2 hc1 hc2 hzz hyy hxx hLZ hto HS HX b0 b1 b2 b3 x0 x1 x2 x3 e0 e1 e2 e3 e4 e5 e6 e7 g0 g1 g2 g3 g4 g5 g6 g7 KBW_16 KBX0_16 KBG_16 NW_16 NX0_16 NG_16 HC16
  obtain ⟨x0, x1, x2, x3⟩ := Args4.row4 KBX0_19.out
  have hmk := markFormula_full t0 HF0.out SX0 KX0 rX0 (1) w18 (by omega) (by omega) NX0_19.out
  go_wp2_with fail
  (with_reducible refine hmk.mono ?_)
  rintro e w20 ⟨rfl, _, hon⟩
  have s21 : w18.heap.size ≤ w20.heap.size := hon.size
  have KBW_21 := Lib.hid ((hon.block _ (Args4.box_lt KBW_19.out) (fun hm => by have := HTX0.out _ hm; omega)).trans KBW_19.out)
  have KBG_21 := Lib.hid ((hon.block _ (Args4.box_lt KBG_19.out) (fun hm => by have := HTX0.out _ hm; omega)).trans KBG_19.out)
  have NW_21 := Lib.hid (NW_19.out.alike (w' := w20) fun bb hbb => hon.block bb (NW_19.out.lt bb hbb) (fun hm => by have h1 := HTX0.out _ hm; have h2 := HTW.out _ hbb; omega))
  have NG_21 := Lib.hid (NG_19.out.alike (w' := w20) fun bb hbb => hon.block bb (NG_19.out.lt bb hbb) (fun hm => by have h1 := HTX0.out _ hm; have h2 := HTG.out _ hbb; omega))
  have HC21 := Lib.hid (Only.below HC19.out hon HC19.out.size (fun b hb => by have := HTX0.out _ hb; have := HZ.out; omega))
  clear hmk hon x0 x1 x2 x3 NX0_19 KBX0_19 KBW_19 KBG_19 NW_19 NG_19 HC19
  have tk : ¬ 1 + (mcFms t0.kids : Int) < 0 := by omega
  have heq := eqOrbitSet_any zR lR mR HFR.out w20 _ _ (orbOut_ix NG_21.out) (orbOut_ix NW_21.out)
  obtain ⟨ya0, ya1, ya2⟩ := OrbK.row3 KBG_21.out
  obtain ⟨yb0, yb1, yb2⟩ := OrbK.row3 KBW_21.out
  go_wp2_with fail
  refine heq.mono ?_
  rintro e w22 ⟨rfl, hb⟩
  have s23 : w20.heap.size ≤ w22.heap.size := hb.size
  have KBW_23 := Lib.hid ((hb.block _ (Args4.box_lt KBW_21.out)).trans KBW_21.out)
  have KBG_23 := Lib.hid ((hb.block _ (Args4.box_lt KBG_21.out)).trans KBG_21.out)
  have NW_23 := Lib.hid (NW_21.out.alike (w' := w22) fun bb hbb => hb.block bb (NW_21.out.lt bb hbb))
  have NG_23 := Lib.hid (NG_21.out.alike (w' := w22) fun bb hbb => hb.block bb (NG_21.out.lt bb hbb))
  have HC23 := Lib.hid (HC21.out.trans (hb.mono HC21.out.size))
  clear heq hb ya0 ya1 ya2 yb0 yb1 yb2 KBW_21 KBG_21 NW_21 NG_21 HC21
  obtain ⟨y0, y1, y2⟩ := OrbK.row3 KBG_23.out
  have hmi := markOrbitSet_full zR lR mR HFR.out SG AG BG cG dG 1 w22 (by omega) (by omega) NG_23.out
  go_wp2_with fail
  (with_reducible refine hmi.mono ?_)
  rintro e w24 ⟨rfl, ⟨S', hLm, hSm⟩, hon⟩
  have s25 : w22.heap.size ≤ w24.heap.size := hon.size
  have KBW_25 := Lib.hid ((hon.block _ (Args4.box_lt KBW_23.out) (fun hm => by have := HTG.out _ hm; omega)).trans KBW_23.out)
  have KBG_25 := Lib.hid ((hon.block _ (Args4.box_lt KBG_23.out) (fun hm => by have := HTG.out _ hm; omega)).trans KBG_23.out)
  have NW_25 := Lib.hid (NW_23.out.alike (w' := w24) fun bb hbb => hon.block bb (NW_23.out.lt bb hbb) (fun hm => by have h1 := HTG.out _ hm; have h2 := HTW.out _ hbb; omega))
  have HC25 := Lib.hid (Only.below HC23.out hon HC23.out.size (fun b hb => by have := HTG.out _ hb; have := HZ.out; omega))
  have NM := Lib.hid hLm
  have HTM : Hid (∀ b ∈ S', _ ∧ _) := Lib.hid (fun b hb => HTG.out b (hSm b hb))
  clear hmi hon hLm hSm y0 y1 y2 NG_23 KBW_23 KBG_23 NW_23 HC23
  have tm : ¬ 1 + (lR.length : Int) + (sumR mR : Int) < 0 := by omega
  have tq : (1 + (lR.length : Int) + (sumR mR : Int) != 1 + (lR.length : Int) + (sumR mR : Int)) = false := by simp
  obtain ⟨y0, y1, y2⟩ := OrbK.row3 KBG_25.out
  have hhi := heldOrbitSet_any zR lR mR HFR.out S' AG BG cG dG 1 w24 (by omega) (by omega) NM.out
  go_wp2_with fail
  (with_reducible refine hhi.mono ?_)
  rintro e w26 ⟨rfl, hb⟩
  have s27 : w24.heap.size ≤ w26.heap.size := hb.size
  have KBW_27 := Lib.hid ((hb.block _ (Args4.box_lt KBW_25.out)).trans KBW_25.out)
  have KBG_27 := Lib.hid ((hb.block _ (Args4.box_lt KBG_25.out)).trans KBG_25.out)
  have NW_27 := Lib.hid (NW_25.out.alike (w' := w26) fun bb hbb => hb.block bb (NW_25.out.lt bb hbb))
  have NM_27 := Lib.hid (NM.out.alike (w' := w26) fun bb hbb => hb.block bb (NM.out.lt bb hbb))
  have HC27 := Lib.hid (HC25.out.trans (hb.mono HC25.out.size))
  clear hhi hb y0 y1 y2 KBW_25 KBG_25 NW_25 NM HC25
  obtain ⟨b0, b1, b2, b3⟩ := HB0.out w26 HC27.out
  have hto := toFormula_any t0 HF0.out w26 _ (HI0.out w26 HC27.out)
  go_wp2_with fail
  refine hto.mono ?_
  rintro e w28 ⟨K, r, S, rfl, hL, _, hb⟩
  have hsp := setOfFormula_impl t0 a1 _ w28 HN0.out (fmOut_in hL)
  rw [HzR.out] at hsp
  rw [HlR.out] at hsp
  rw [HmR.out] at hsp
  rw [HFL.out] at hsp
  have s29 : w26.heap.size ≤ w28.heap.size := hb.size
  have KBW_29 := Lib.hid ((hb.block _ (Args4.box_lt KBW_27.out)).trans KBW_27.out)
  have KBG_29 := Lib.hid ((hb.block _ (Args4.box_lt KBG_27.out)).trans KBG_27.out)
  have NW_29 := Lib.hid (NW_27.out.alike (w' := w28) fun bb hbb => hb.block bb (NW_27.out.lt bb hbb))
  have NM_29 := Lib.hid (NM_27.out.alike (w' := w28) fun bb hbb => hb.block bb (NM_27.out.lt bb hbb))
  have HC29 := Lib.hid (HC27.out.trans (hb.mono HC27.out.size))
  clear hto hb hL b0 b1 b2 b3 KBW_27 KBG_27 NW_27 NM_27 HC27
  go_wp2_with fail
  refine hsp.mono ?_
  rintro e w30 ⟨AH, cH, BH, dH, SH, rfl, hL, hS, hb⟩
  have s31 : w28.heap.size ≤ w30.heap.size := hb.size
  have KBW_31 := Lib.hid ((hb.block _ (Args4.box_lt KBW_29.out)).trans KBW_29.out)
  have KBG_31 := Lib.hid ((hb.block _ (Args4.box_lt KBG_29.out)).trans KBG_29.out)
  have NW_31 := Lib.hid (NW_29.out.alike (w' := w30) fun bb hbb => hb.block bb (NW_29.out.lt bb hbb))
  have NM_31 := Lib.hid (NM_29.out.alike (w' := w30) fun bb hbb => hb.block bb (NM_29.out.lt bb hbb))
  have HC31 := Lib.hid (HC29.out.trans (hb.mono HC29.out.size))
  have HTH : Hid (∀ b ∈ SH, w28.heap.size ≤ b ∧ b < w30.heap.size) := Lib.hid (fun b hb => ⟨hS b hb, hL.lt b hb⟩)
  have NH := Lib.hid hL
  clear hb hS KBW_29 KBG_29 NW_29 NM_29 HC29 hL
  have hbx : Below w30.heap.size w30 (w30.alloc (.cells #[.int .i64 zR, .slice AH lR.length cH, .slice BH mR.length dH] 29)) := (Below.refl _ _).alloc (Nat.le_refl _) _
  have s32 : w30.heap.size ≤ (w30.alloc (.cells #[.int .i64 zR, .slice AH lR.length cH, .slice BH mR.length dH] 29)).heap.size := hbx.size
  have KBW_32 := Lib.hid ((hbx.block _ (Args4.box_lt KBW_31.out)).trans KBW_31.out)
  have KBG_32 := Lib.hid ((hbx.block _ (Args4.box_lt KBG_31.out)).trans KBG_31.out)
  have NW_32 := Lib.hid (NW_31.out.alike (w' := (w30.alloc (.cells #[.int .i64 zR, .slice AH lR.length cH, .slice BH mR.length dH] 29))) fun bb hbb => hbx.block bb (NW_31.out.lt bb hbb))
  have NM_32 := Lib.hid (NM_31.out.alike (w' := (w30.alloc (.cells #[.int .i64 zR, .slice AH lR.length cH, .slice BH mR.length dH] 29))) fun bb hbb => hbx.block bb (NM_31.out.lt bb hbb))
  have NH_32 := Lib.hid (NH.out.alike (w' := (w30.alloc (.cells #[.int .i64 zR, .slice AH lR.length cH, .slice BH mR.length dH] 29))) fun bb hbb => hbx.block bb (NH.out.lt bb hbb))
  have HC32 := Lib.hid (HC31.out.trans (hbx.mono HC31.out.size))
  have KBH := Lib.hid (heap_alloc_new w30 (.cells #[.int .i64 zR, .slice AH lR.length cH, .slice BH mR.length dH] 29))
  clear hbx KBW_31 KBG_31 NW_31 NM_31 NH HC31
  have lt_H : w30.heap.size < (w30.alloc (.cells #[.int .i64 zR, .slice AH lR.length cH, .slice BH mR.length dH] 29)).heap.size := by simp
  clear hsp
  have heq := eqOrbitSet_any zR lR mR HFR.out (w30.alloc (.cells #[.int .i64 zR, .slice AH lR.length cH, .slice BH mR.length dH] 29)) _ _ (orbOut_ix NH_32.out) (orbOut_ix NW_32.out)
  obtain ⟨ya0, ya1, ya2⟩ := OrbK.row3 KBH.out
  obtain ⟨yb0, yb1, yb2⟩ := OrbK.row3 KBW_32.out
  go_wp2_with fail
  refine heq.mono ?_
  rintro e w33 ⟨rfl, hb⟩
  have s34 : (w30.alloc (.cells #[.int .i64 zR, .slice AH lR.length cH, .slice BH mR.length dH] 29)).heap.size ≤ w33.heap.size := hb.size
  have KBW_34 := Lib.hid ((hb.block _ (Args4.box_lt KBW_32.out)).trans KBW_32.out)
  have KBG_34 := Lib.hid ((hb.block _ (Args4.box_lt KBG_32.out)).trans KBG_32.out)
  have KBH_34 := Lib.hid ((hb.block _ (Args4.box_lt KBH.out)).trans KBH.out)
  have NW_34 := Lib.hid (NW_32.out.alike (w' := w33) fun bb hbb => hb.block bb (NW_32.out.lt bb hbb))
  have NM_34 := Lib.hid (NM_32.out.alike (w' := w33) fun bb hbb => hb.block bb (NM_32.out.lt bb hbb))
  have NH_34 := Lib.hid (NH_32.out.alike (w' := w33) fun bb hbb => hb.block bb (NH_32.out.lt bb hbb))
  have HC34 := Lib.hid (HC32.out.trans (hb.mono HC32.out.size))
  clear heq hb ya0 ya1 ya2 yb0 yb1 yb2 KBW_32 KBG_32 KBH NW_32 NM_32 NH_32 HC32
  obtain ⟨y0, y1, y2⟩ := OrbK.row3 KBG_34.out
  have hhi := heldOrbitSet_any zR lR mR HFR.out S' AG BG cG dG 1 w33 (by omega) (by omega) NM_34.out
  go_wp2_with fail
  (with_reducible refine hhi.mono ?_)
  rintro e w35 ⟨rfl, hb⟩
  have s36 : w33.heap.size ≤ w35.heap.size := hb.size
  have KBW_36 := Lib.hid ((hb.block _ (Args4.box_lt KBW_34.out)).trans KBW_34.out)
  have KBG_36 := Lib.hid ((hb.block _ (Args4.box_lt KBG_34.out)).trans KBG_34.out)
  have KBH_36 := Lib.hid ((hb.block _ (Args4.box_lt KBH_34.out)).trans KBH_34.out)
  have NW_36 := Lib.hid (NW_34.out.alike (w' := w35) fun bb hbb => hb.block bb (NW_34.out.lt bb hbb))
  have NM_36 := Lib.hid (NM_34.out.alike (w' := w35) fun bb hbb => hb.block bb (NM_34.out.lt bb hbb))
  have NH_36 := Lib.hid (NH_34.out.alike (w' := w35) fun bb hbb => hb.block bb (NH_34.out.lt bb hbb))
  have HC36 := Lib.hid (HC34.out.trans (hb.mono HC34.out.size))
  clear hhi hb y0 y1 y2 KBW_34 KBG_34 KBH_34 NW_34 NM_34 NH_34 HC34
  have hfin := HW0.out.trans (HC36.out.mono HW0.out.size)
  go_wp2
  go_ret
  exact ⟨rfl, hfin⟩

theorem walk (w : World) (x0 : Value) (t0 : Fm) (hx0 : FmIn w x0 t0) (hs0 : ShortFm t0) (a1 : Int) (wf1 : (Lit.int .i64 a1).wf = true) :
    Calls Try.prog 3 #[x0, .int .i64 a1] w fun e w' => e = .returned (.bool true) ∧ Below w.heap.size w w' := by
  by_cases hn0 : (cntFm t0 : Int) ≤ 1048576
  · skip
    exact walk_yes w x0 t0 hx0 hs0 a1 wf1 hn0
  · exact walk_no0 w x0 t0 hx0 hs0 a1 wf1 hn0

set_option maxRecDepth 100000 in
theorem lifted (os : Os) (started : os.Started) (H : Type) (enc : TypeId × Value → H) :
    ReturnsInHanded {} Try.checked os 3 .any (Rows.fnExactSetOfFormulaSpec.pre6 enc Try.prog Try.f3 Rows.fnExactSetOfFormulaRow.domain false) (Rows.fnExactSetOfFormulaSpec.post enc Try.prog Try.f3 false true false false) := by
  refine returnsInHanded_of_change (C := Try.checked) own started (by kernel_rfl) Try.func3
    (ChangeSpec.witness6 (enc := enc) (C := Try.checked) false ⟨#[], #[.agg #[.int .i64 0, .int .i64 0, .int .i64 0, .slice none 0 0], .int .i64 0], []⟩ 8 (by kernel_rfl) (by kernel_rfl) (by kernel_rfl) (by kernel_rfl)) ?_
  intro W base args ds gs before hval0 hW hcnd _
  have hval : ∀ (j : Nat) t v, Try.f3.params[j]? = some t → args[j]? = some v → Value.okWide Try.prog W .any base t v := hval0
  have hW' := hW
  obtain ⟨p, q, hA0, hV, rfl, hfz, hnd⟩ := hW
  have hA : DataW.TrodAll enc Try.prog W 0 (fun _ => true) true Try.f3.params.toList args.toList ds p := hA0
  rw [Try.params3] at hA hval
  obtain ⟨v0, vs0, d0, ds0, p0, q0, hargs, rfl, rfl, h0, r0⟩ := trodAll_cons hA
  obtain ⟨v1, vs1, d1, ds1, p1, q1, rfl, rfl, rfl, h1, r1⟩ := trodAll_cons r0
  obtain ⟨rfl, rfl, rfl⟩ := trodAll_nil r1
  obtain rfl : args = #[v0, v1] := by cases args; simp_all
  obtain ⟨rfl, rfl⟩ := trodVars_none hV
  have k0 := h0
  have lt0 : ∀ x ∈ p0, x.block < W.heap.size := by obtain ⟨m, hm⟩ := k0; exact DataW.trod_lt m _ _ _ hm
  have k1 := h1
  have lt1 : ∀ x ∈ p1, x.block < W.heap.size := by obtain ⟨m, hm⟩ := k1; exact DataW.trod_lt m _ _ _ hm
  obtain ⟨t0, tx0, ts0⟩ := open_formula (hval 0 24 v0 rfl rfl) h0
  obtain ⟨a1, rfl, _, _, w1⟩ := open_int Try.underlying3 (hval 1 3 v1 rfl rfl) h1
  clear hA0 hval0
  refine (walk W v0 t0 tx0 ts0 a1 w1).mono fun e W' ⟨he, bel⟩ => ?_
  subst he
  exact ⟨_, rfl, _, _, _, [], _, [], hW', trodAll_mk1 (shut_bool Try.underlying4 _), (trodAll_cons_mk (Below.trod laidOut (by kernel_rfl) (of_decide_eq_true (by kernel_rfl)) k0 bel lt0) (trodAll_cons_mk (Below.trod laidOut (by kernel_rfl) (of_decide_eq_true (by kernel_rfl)) k1 bel lt1) trodAll_mk0)), rfl, bel.frame _, fun h => by cases h⟩

theorem over : Rows.fnExactSetOfFormulaRow.holds Try.pinned (OpenSpec.ofChange Rows.fnExactSetOfFormulaSpec) :=
  OpenClaim.holds_of_wide 3 Try.f3 rfl rfl rfl rfl rfl rfl rfl ⟨rfl, rfl, rfl, rfl, rfl⟩ rfl rfl rfl rfl rfl (by kernel_rfl) Try.func3 (by kernel_rfl)
    (of_decide_eq_true (by kernel_rfl)) (by unfold Func.isWrapper; first | (rw [if_pos (by decide +kernel)]; kernel_rfl) | (rw [if_neg (by decide +kernel)]; exact ⟨rfl, rfl⟩))
    (fun os started H enc _ => lifted os started H enc)

theorem proved : Rows.FnExactSetOfFormulaSaid := over
#print axioms proved
end Go.Proofs.Ythjkogighppeaaa.fnExactSetOfFormula
