/-
  The law FnExactPathsOf returns true for every value: the program gives the paths of a term as the model does, in memory of its own, and leaves its argument as it was. No condition.
-/
import Derived.Test.YtnnebndcjjdhoaaKPathsOf6
import Derived.Test.YtnnebndcjjdhoaaKPathsOf4
import Derived.Test.YtnnebndcjjdhoaaKPathsOf7
import Derived.Test.YtnnebndcjjdhoaaKPathsOf3
import Derived.Test.YtnnebndcjjdhoaaKPathsOf9
import Derived.Test.YtnnebndcjjdhoaaKPathsOf23
import Derived.Test.YtnnebndcjjdhoaaKPathsOf24
import Derived.Test.YtnnebndcjjdhoaaKPathsOf5
namespace Go.Proofs.Ytnnebndcjjdhoaa.fnExactPathsOf
open Go.ChangeShapes Go.WideShapes Go.ChangeAt Go.RowKit
set_option linter.unusedVariables false

namespace Args4
theorem box_lt {w : World} {g : Nat} {o : Obj} (h : w.heap[g]? = some o) : g < w.heap.size := (Array.getElem?_eq_some_iff.1 h).1
theorem row4 {w : World} {g : Nat} {a b c d : Value} {T : TypeId} (h : w.heap[g]? = some (.cells #[a, b, c, d] T (0, 0))) : w.cell? ⟨g, 0, none⟩ = some a ∧ w.cell? ⟨g, 1, none⟩ = some b ∧ w.cell? ⟨g, 2, none⟩ = some c ∧ w.cell? ⟨g, 3, none⟩ = some d := by
  refine ⟨?_, ?_, ?_, ?_⟩ <;> rw [cell_of_row w g _ _ _ _ h] <;> rfl
end Args4
theorem pairsAt_of {w : World} {base n : Nat} {e : TypeId} {B : Option Addr} {d : Nat} {l : List (Int × Int)} (h : w.ownsRow base e 2 (.slice B n d) l.length (cellsOf l)) : PairsAt w B l := by
  obtain ⟨A, c, ee, hp⟩ := own_pairsAt h
  injection ee with e1 e2 e3
  subst e1
  exact hp

set_option maxRecDepth 100000 in
set_option maxHeartbeats 16000000 in
theorem walk_no0 (w : World) (x0 : Value) (t0 : Tm) (hx0 : TmIn w x0 t0) (hs0 : Short t0) (hn0 : ¬ (cntT t0 : Int) ≤ 1048576) :
    Calls Try.prog 3 #[x0] w fun e w' => e = .returned (.bool true) ∧ Below w.heap.size w w' := by
  obtain ⟨A0, c0, kv0, rfl, hp0, hk0⟩ := hx0
  obtain ⟨B0, d0, rfl⟩ := hk0.form
  have hsh0 := (short_eq t0).1 hs0
  have hb0 : Below w.heap.size w (w.alloc (.cells #[.int .i64 t0.op, .int .i64 t0.num, .slice A0 t0.perm.length c0, .slice B0 t0.kids.length d0] 25)) := ((Below.refl _ w).alloc (by first | exact Nat.le_refl _ | (simp; done) | (simp; omega)) _)
  have HI0 : Hid (∀ w' : World, Below (w.alloc (.cells #[.int .i64 t0.op, .int .i64 t0.num, .slice A0 t0.perm.length c0, .slice B0 t0.kids.length d0] 25)).heap.size (w.alloc (.cells #[.int .i64 t0.op, .int .i64 t0.num, .slice A0 t0.perm.length c0, .slice B0 t0.kids.length d0] 25)) w' → TmIn w' (.agg #[.int .i64 t0.op, .int .i64 t0.num, .slice A0 t0.perm.length c0, .slice B0 t0.kids.length d0]) t0) := Lib.hid (fun w' h => ⟨A0, c0, _, rfl, hp0.below (hb0.trans (h.mono hb0.size)), hk0.below (hb0.trans (h.mono hb0.size))⟩)
  have kk0 : (w.alloc (.cells #[.int .i64 t0.op, .int .i64 t0.num, .slice A0 t0.perm.length c0, .slice B0 t0.kids.length d0] 25)).heap[w.heap.size]? = some (.cells #[.int .i64 t0.op, .int .i64 t0.num, .slice A0 t0.perm.length c0, .slice B0 t0.kids.length d0] 25 (0, 0)) := by
    have h := heap_alloc_new w (.cells #[.int .i64 t0.op, .int .i64 t0.num, .slice A0 t0.perm.length c0, .slice B0 t0.kids.length d0] 25)
    exact h
  obtain ⟨b00, b01, b02, b03⟩ := Args4.row4 kk0
  have lt0 : w.heap.size < (w.alloc (.cells #[.int .i64 t0.op, .int .i64 t0.num, .slice A0 t0.perm.length c0, .slice B0 t0.kids.length d0] 25)).heap.size := by first | (simp; done) | (simp; omega)
  have HB0 : Hid (∀ w' : World, Below (w.alloc (.cells #[.int .i64 t0.op, .int .i64 t0.num, .slice A0 t0.perm.length c0, .slice B0 t0.kids.length d0] 25)).heap.size (w.alloc (.cells #[.int .i64 t0.op, .int .i64 t0.num, .slice A0 t0.perm.length c0, .slice B0 t0.kids.length d0] 25)) w' → w'.cell? ⟨w.heap.size, 0, none⟩ = some (.int .i64 t0.op) ∧ w'.cell? ⟨w.heap.size, 1, none⟩ = some (.int .i64 t0.num) ∧ w'.cell? ⟨w.heap.size, 2, none⟩ = some (.slice A0 t0.perm.length c0) ∧ w'.cell? ⟨w.heap.size, 3, none⟩ = some (.slice B0 t0.kids.length d0)) := Lib.hid (fun w' h => ⟨(h.cell (p := ⟨w.heap.size, 0, none⟩) lt0).trans b00, (h.cell (p := ⟨w.heap.size, 1, none⟩) lt0).trans b01, (h.cell (p := ⟨w.heap.size, 2, none⟩) lt0).trans b02, (h.cell (p := ⟨w.heap.size, 3, none⟩) lt0).trans b03⟩)
  clear hp0 hk0 kk0 lt0 hs0
  have HC0 : Hid (Below (w.alloc (.cells #[.int .i64 t0.op, .int .i64 t0.num, .slice A0 t0.perm.length c0, .slice B0 t0.kids.length d0] 25)).heap.size (w.alloc (.cells #[.int .i64 t0.op, .int .i64 t0.num, .slice A0 t0.perm.length c0, .slice B0 t0.kids.length d0] 25)) (w.alloc (.cells #[.int .i64 t0.op, .int .i64 t0.num, .slice A0 t0.perm.length c0, .slice B0 t0.kids.length d0] 25))) := Lib.hid (Below.refl _ _)
  have HW0 := Lib.hid hb0
  clear hb0
  go_enter Try.func3, Try.ntmps3
  have hsz := szTerm_of t0 _ _ (1048576) (by omega) (by omega) (HI0.out (w.alloc (.cells #[.int .i64 t0.op, .int .i64 t0.num, .slice A0 t0.perm.length c0, .slice B0 t0.kids.length d0] 25)) HC0.out) hsh0.1 fun l' w' y g0 g1 hy => szTermS_any _ t0.kids (Nat.le_refl _) hsh0.2.2 hsh0.2.1 l' w' y g0 g1 hy
  unfold LeftPost at hsz
  rw [leftR_no (by omega)] at hsz
  go_wp2_with fail
  refine hsz.mono ?_
  rintro e u1 ⟨rfl, hb⟩
  clear hsz b00 b01 b02 b03
  have s2 : (w.alloc (.cells #[.int .i64 t0.op, .int .i64 t0.num, .slice A0 t0.perm.length c0, .slice B0 t0.kids.length d0] 25)).heap.size ≤ u1.heap.size := hb.size
  have HC2 := Lib.hid (HC0.out.trans (hb.mono HC0.out.size))
  clear hb HC0
  have hfin := HW0.out.trans (HC2.out.mono HW0.out.size)
  go_wp2
  go_ret
  exact ⟨rfl, hfin⟩

set_option maxRecDepth 100000 in
set_option maxHeartbeats 16000000 in
theorem walk_yes (w : World) (x0 : Value) (t0 : Tm) (hx0 : TmIn w x0 t0) (hs0 : Short t0) (hn0 : (cntT t0 : Int) ≤ 1048576) :
    Calls Try.prog 3 #[x0] w fun e w' => e = .returned (.bool true) ∧ Below w.heap.size w w' := by
  have HN0 : Hid (cntT t0 ≤ 1048576) := Lib.hid (by omega)
  have HF0 := Lib.hid (fit_of t0 HN0.out)
  have hmk0 : t0.perm.length * 2 + mcTs t0.kids ≤ 2097152 := by
    have h1 := mcTs_le t0.kids
    have h2 := cntT_eq t0
    omega
  have HFR := Lib.hid (show FitR (pathsR t0) from pathsR_fitR t0)
  have hmR : sumR (pathsR t0) ≤ 2097152 := pathsR_sum t0
  generalize hL : pathsR t0 = L at HFR hmR
  have HL := Lib.hid hL
  clear hL
  obtain ⟨A0, c0, kv0, rfl, hp0, hk0⟩ := hx0
  obtain ⟨B0, d0, rfl⟩ := hk0.form
  have hsh0 := (short_eq t0).1 hs0
  have hb0 : Below w.heap.size w (w.alloc (.cells #[.int .i64 t0.op, .int .i64 t0.num, .slice A0 t0.perm.length c0, .slice B0 t0.kids.length d0] 25)) := ((Below.refl _ w).alloc (by first | exact Nat.le_refl _ | (simp; done) | (simp; omega)) _)
  have HI0 : Hid (∀ w' : World, Below (w.alloc (.cells #[.int .i64 t0.op, .int .i64 t0.num, .slice A0 t0.perm.length c0, .slice B0 t0.kids.length d0] 25)).heap.size (w.alloc (.cells #[.int .i64 t0.op, .int .i64 t0.num, .slice A0 t0.perm.length c0, .slice B0 t0.kids.length d0] 25)) w' → TmIn w' (.agg #[.int .i64 t0.op, .int .i64 t0.num, .slice A0 t0.perm.length c0, .slice B0 t0.kids.length d0]) t0) := Lib.hid (fun w' h => ⟨A0, c0, _, rfl, hp0.below (hb0.trans (h.mono hb0.size)), hk0.below (hb0.trans (h.mono hb0.size))⟩)
  have kk0 : (w.alloc (.cells #[.int .i64 t0.op, .int .i64 t0.num, .slice A0 t0.perm.length c0, .slice B0 t0.kids.length d0] 25)).heap[w.heap.size]? = some (.cells #[.int .i64 t0.op, .int .i64 t0.num, .slice A0 t0.perm.length c0, .slice B0 t0.kids.length d0] 25 (0, 0)) := by
    have h := heap_alloc_new w (.cells #[.int .i64 t0.op, .int .i64 t0.num, .slice A0 t0.perm.length c0, .slice B0 t0.kids.length d0] 25)
    exact h
  obtain ⟨b00, b01, b02, b03⟩ := Args4.row4 kk0
  have lt0 : w.heap.size < (w.alloc (.cells #[.int .i64 t0.op, .int .i64 t0.num, .slice A0 t0.perm.length c0, .slice B0 t0.kids.length d0] 25)).heap.size := by first | (simp; done) | (simp; omega)
  have HB0 : Hid (∀ w' : World, Below (w.alloc (.cells #[.int .i64 t0.op, .int .i64 t0.num, .slice A0 t0.perm.length c0, .slice B0 t0.kids.length d0] 25)).heap.size (w.alloc (.cells #[.int .i64 t0.op, .int .i64 t0.num, .slice A0 t0.perm.length c0, .slice B0 t0.kids.length d0] 25)) w' → w'.cell? ⟨w.heap.size, 0, none⟩ = some (.int .i64 t0.op) ∧ w'.cell? ⟨w.heap.size, 1, none⟩ = some (.int .i64 t0.num) ∧ w'.cell? ⟨w.heap.size, 2, none⟩ = some (.slice A0 t0.perm.length c0) ∧ w'.cell? ⟨w.heap.size, 3, none⟩ = some (.slice B0 t0.kids.length d0)) := Lib.hid (fun w' h => ⟨(h.cell (p := ⟨w.heap.size, 0, none⟩) lt0).trans b00, (h.cell (p := ⟨w.heap.size, 1, none⟩) lt0).trans b01, (h.cell (p := ⟨w.heap.size, 2, none⟩) lt0).trans b02, (h.cell (p := ⟨w.heap.size, 3, none⟩) lt0).trans b03⟩)
  clear hp0 hk0 kk0 lt0 hs0
  have HC0 : Hid (Below (w.alloc (.cells #[.int .i64 t0.op, .int .i64 t0.num, .slice A0 t0.perm.length c0, .slice B0 t0.kids.length d0] 25)).heap.size (w.alloc (.cells #[.int .i64 t0.op, .int .i64 t0.num, .slice A0 t0.perm.length c0, .slice B0 t0.kids.length d0] 25)) (w.alloc (.cells #[.int .i64 t0.op, .int .i64 t0.num, .slice A0 t0.perm.length c0, .slice B0 t0.kids.length d0] 25))) := Lib.hid (Below.refl _ _)
  have HW0 := Lib.hid hb0
  clear hb0
  go_enter Try.func3, Try.ntmps3
  have hsz := szTerm_of t0 _ _ (1048576) (by omega) (by omega) (HI0.out (w.alloc (.cells #[.int .i64 t0.op, .int .i64 t0.num, .slice A0 t0.perm.length c0, .slice B0 t0.kids.length d0] 25)) HC0.out) hsh0.1 fun l' w' y g0 g1 hy => szTermS_any _ t0.kids (Nat.le_refl _) hsh0.2.2 hsh0.2.1 l' w' y g0 g1 hy
  unfold LeftPost at hsz
  rw [leftR_yes hn0] at hsz
  have hleft0 : ¬ 1048576 - (cntT t0 : Int) < 0 := by omega
  go_wp2_with fail
  refine hsz.mono ?_
  rintro e u1 ⟨rfl, hb⟩
  clear hsz b00 b01 b02 b03
  have s2 : (w.alloc (.cells #[.int .i64 t0.op, .int .i64 t0.num, .slice A0 t0.perm.length c0, .slice B0 t0.kids.length d0] 25)).heap.size ≤ u1.heap.size := hb.size
  have HC2 := Lib.hid (HC0.out.trans (hb.mono HC0.out.size))
  clear hb HC0
  have HZ : Hid ((w.alloc (.cells #[.int .i64 t0.op, .int .i64 t0.num, .slice A0 t0.perm.length c0, .slice B0 t0.kids.length d0] 25)).heap.size ≤ u1.heap.size) := Lib.hid HC2.out.size
  obtain ⟨b0, b1, b2, b3⟩ := HB0.out u1 HC2.out
  have hto := toTerm_any t0 HF0.out u1 _ (HI0.out u1 HC2.out)
  go_wp2_with fail
  refine hto.mono ?_
  rintro e w3 ⟨P, q, K, r, S, rfl, hL, _, hb⟩
  have hsp := pathsOf_spec t0 HN0.out _ w3 (tmOut_in hL)
  rw [HL.out] at hsp
  have s4 : u1.heap.size ≤ w3.heap.size := hb.size
  have HC4 := Lib.hid (HC2.out.trans (hb.mono HC2.out.size))
  clear hto hb hL b0 b1 b2 b3 HC2
  go_wp2_with fail
  refine hsp.mono ?_
  rintro e w5 ⟨vW, SW, rfl, hL, hS, hb⟩
  have s6 : w3.heap.size ≤ w5.heap.size := hb.size
  have HC6 := Lib.hid (HC4.out.trans (hb.mono HC4.out.size))
  have HTW : Hid (∀ b ∈ SW, w3.heap.size ≤ b ∧ b < w5.heap.size) := Lib.hid (fun b hb => ⟨hS b hb, hL.lt b hb⟩)
  have NW := Lib.hid hL
  clear hb hS HC4 hL
  clear hsp
  obtain ⟨b0, b1, b2, b3⟩ := HB0.out w5 HC6.out
  have hto := toTerm_any t0 HF0.out w5 _ (HI0.out w5 HC6.out)
  go_wp2_with fail
  refine hto.mono ?_
  rintro e w7 ⟨PX0, qX0, KX0, rX0, SX0, rfl, hL, hS, hb⟩
  have s8 : w5.heap.size ≤ w7.heap.size := hb.size
  have NW_8 := Lib.hid (NW.out.alike (w' := w7) fun bb hbb => hb.block bb (NW.out.lt bb hbb))
  have HC8 := Lib.hid (HC6.out.trans (hb.mono HC6.out.size))
  have HTX0 : Hid (∀ b ∈ SX0, w5.heap.size ≤ b ∧ b < w7.heap.size) := Lib.hid (fun b hb => ⟨hS b hb, hL.lt b hb⟩)
  have NX0 := Lib.hid hL
  clear hto hb hS b0 b1 b2 b3 NW HC6 hL
  have hbx : Below w7.heap.size w7 (w7.alloc (.cells #[.int .i64 t0.op, .int .i64 t0.num, .slice PX0 t0.perm.length qX0, .slice KX0 t0.kids.length rX0] 32)) := (Below.refl _ _).alloc (Nat.le_refl _) _
  have s9 : w7.heap.size ≤ (w7.alloc (.cells #[.int .i64 t0.op, .int .i64 t0.num, .slice PX0 t0.perm.length qX0, .slice KX0 t0.kids.length rX0] 32)).heap.size := hbx.size
  have NW_9 := Lib.hid (NW_8.out.alike (w' := (w7.alloc (.cells #[.int .i64 t0.op, .int .i64 t0.num, .slice PX0 t0.perm.length qX0, .slice KX0 t0.kids.length rX0] 32))) fun bb hbb => hbx.block bb (NW_8.out.lt bb hbb))
  have NX0_9 := Lib.hid (NX0.out.alike (w' := (w7.alloc (.cells #[.int .i64 t0.op, .int .i64 t0.num, .slice PX0 t0.perm.length qX0, .slice KX0 t0.kids.length rX0] 32))) fun bb hbb => hbx.block bb (NX0.out.lt bb hbb))
  have HC9 := Lib.hid (HC8.out.trans (hbx.mono HC8.out.size))
  have KBX0 := Lib.hid (heap_alloc_new w7 (.cells #[.int .i64 t0.op, .int .i64 t0.num, .slice PX0 t0.perm.length qX0, .slice KX0 t0.kids.length rX0] 32))
  clear hbx NW_8 NX0 HC8
  have lt_X0 : w7.heap.size < (w7.alloc (.cells #[.int .i64 t0.op, .int .i64 t0.num, .slice PX0 t0.perm.length qX0, .slice KX0 t0.kids.length rX0] 32)).heap.size := by simp
  have hsp := pathsOf_impl t0 (fit_of t0 HN0.out) _ (w7.alloc (.cells #[.int .i64 t0.op, .int .i64 t0.num, .slice PX0 t0.perm.length qX0, .slice KX0 t0.kids.length rX0] 32)) (tmOut_in NX0_9.out)
  rw [HL.out] at hsp
  obtain ⟨x00, x01, x02, x03⟩ := Args4.row4 KBX0.out
  go_wp2_with fail
  refine hsp.mono ?_
  rintro e w10 ⟨vG, SG, rfl, hL, hS, hb⟩
  have s11 : (w7.alloc (.cells #[.int .i64 t0.op, .int .i64 t0.num, .slice PX0 t0.perm.length qX0, .slice KX0 t0.kids.length rX0] 32)).heap.size ≤ w10.heap.size := hb.size
  have KBX0_11 := Lib.hid ((hb.block _ (Args4.box_lt KBX0.out)).trans KBX0.out)
  have NW_11 := Lib.hid (NW_9.out.alike (w' := w10) fun bb hbb => hb.block bb (NW_9.out.lt bb hbb))
  have NX0_11 := Lib.hid (NX0_9.out.alike (w' := w10) fun bb hbb => hb.block bb (NX0_9.out.lt bb hbb))
  have HC11 := Lib.hid (HC9.out.trans (hb.mono HC9.out.size))
  have HTG : Hid (∀ b ∈ SG, (w7.alloc (.cells #[.int .i64 t0.op, .int .i64 t0.num, .slice PX0 t0.perm.length qX0, .slice KX0 t0.kids.length rX0] 32)).heap.size ≤ b ∧ b < w10.heap.size) := Lib.hid (fun b hb => ⟨hS b hb, hL.lt b hb⟩)
  have NG := Lib.hid hL
  clear hb hS KBX0 NW_9 NX0_9 HC9 hL
  clear hsp x00 x01 x02 x03
  have heq := eqIntSS_any L HFR.out w10 _ _ NG.out.at_ NW_11.out.at_
  go_wp2_with fail
  refine heq.mono ?_
  rintro e w12 ⟨rfl, hb⟩
  have s13 : w10.heap.size ≤ w12.heap.size := hb.size
  have KBX0_13 := Lib.hid ((hb.block _ (Args4.box_lt KBX0_11.out)).trans KBX0_11.out)
  have NW_13 := Lib.hid (NW_11.out.alike (w' := w12) fun bb hbb => hb.block bb (NW_11.out.lt bb hbb))
  have NX0_13 := Lib.hid (NX0_11.out.alike (w' := w12) fun bb hbb => hb.block bb (NX0_11.out.lt bb hbb))
  have NG_13 := Lib.hid (NG.out.alike (w' := w12) fun bb hbb => hb.block bb (NG.out.lt bb hbb))
  have HC13 := Lib.hid (HC11.out.trans (hb.mono HC11.out.size))
  clear heq hb KBX0_11 NW_11 NX0_11 NG HC11
  have hdw : Below w12.heap.size w12 w12.drew := ⟨rfl, rfl, rfl, Nat.le_refl _, fun _ _ => rfl⟩
  have s14 : w12.heap.size ≤ w12.drew.heap.size := hdw.size
  have KBX0_14 := Lib.hid ((hdw.block _ (Args4.box_lt KBX0_13.out)).trans KBX0_13.out)
  have NW_14 := Lib.hid (NW_13.out.alike (w' := w12.drew) fun bb hbb => hdw.block bb (NW_13.out.lt bb hbb))
  have NX0_14 := Lib.hid (NX0_13.out.alike (w' := w12.drew) fun bb hbb => hdw.block bb (NX0_13.out.lt bb hbb))
  have NG_14 := Lib.hid (NG_13.out.alike (w' := w12.drew) fun bb hbb => hdw.block bb (NG_13.out.lt bb hbb))
  have HC14 := Lib.hid (HC13.out.trans (hdw.mono HC13.out.size))
  clear hdw KBX0_13 NW_13 NX0_13 NG_13 HC13
  have HS := HC14
  have HX := KBX0_14
  obtain ⟨b0, b1, b2, b3⟩ := HB0.out w12.drew HC14.out
  obtain ⟨x0, x1, x2, x3⟩ := Args4.row4 KBX0_14.out
  have hxx := tmOut_in NX0_14.out
  have hto := toTerm_any t0 HF0.out w12.drew _ (HI0.out w12.drew HS.out)
  go_wp2
  go_region_held3 (fun w' => w'.cell? ⟨w.heap.size, 0, none⟩ = some (.int .i64 t0.op) ∧ w'.cell? ⟨w.heap.size, 1, none⟩ = some (.int .i64 t0.num) ∧ w'.cell? ⟨w.heap.size, 2, none⟩ = some (.slice A0 t0.perm.length c0) ∧ w'.cell? ⟨w.heap.size, 3, none⟩ = some (.slice B0 t0.kids.length d0) ∧ w'.cell? ⟨w7.heap.size, 0, none⟩ = some (.int .i64 t0.op) ∧ w'.cell? ⟨w7.heap.size, 1, none⟩ = some (.int .i64 t0.num) ∧ w'.cell? ⟨w7.heap.size, 2, none⟩ = some (.slice PX0 t0.perm.length qX0) ∧ w'.cell? ⟨w7.heap.size, 3, none⟩ = some (.slice KX0 t0.kids.length rX0))
    (first | (with_reducible exact ⟨by assumption, by assumption, by assumption, by assumption, by assumption, by assumption, by assumption, by assumption⟩) | ((try dsimp only); exact ⟨by assumption, by assumption, by assumption, by assumption, by assumption, by assumption, by assumption, by assumption⟩) | go_keep)
    (first
      | (go_at_call 6; refine hto.mono ?_; rintro e w15 ⟨PZ, qZ, KZ, rZ, SZ, rfl, hLZ, _, hb1⟩; have hc1 := HS.out.trans (hb1.mono HS.out.size); have hzz := tmOut_in hLZ; have hyy := hxx.below hb1; obtain ⟨e0, e1, e2, e3⟩ := HB0.out w15 hc1; obtain ⟨e4, e5, e6, e7⟩ := Args4.row4 (((hb1).block _ (Args4.box_lt HX.out)).trans HX.out))
      | (go_at_call 9; refine (eqTerm_any t0 HF0.out _ _ _ hyy hzz).mono ?_; rintro e w16 ⟨rfl, hb2⟩; have hbz := hb1.trans (hb2.mono hb1.size); have hc2 := HS.out.trans (hbz.mono HS.out.size); obtain ⟨g0, g1, g2, g3⟩ := HB0.out w16 hc2; obtain ⟨g4, g5, g6, g7⟩ := Args4.row4 (((hbz).block _ (Args4.box_lt HX.out)).trans HX.out))
      | fail)
  have s17 : w12.drew.heap.size ≤ w16.heap.size := hbz.size
  have KBX0_17 := Lib.hid ((hbz.block _ (Args4.box_lt KBX0_14.out)).trans KBX0_14.out)
  have NW_17 := Lib.hid (NW_14.out.alike (w' := w16) fun bb hbb => hbz.block bb (NW_14.out.lt bb hbb))
  have NX0_17 := Lib.hid (NX0_14.out.alike (w' := w16) fun bb hbb => hbz.block bb (NX0_14.out.lt bb hbb))
  have NG_17 := Lib.hid (NG_14.out.alike (w' := w16) fun bb hbb => hbz.block bb (NG_14.out.lt bb hbb))
  have HC17 := Lib.hid (HC14.out.trans (hbz.mono HC14.out.size))
  clear hbz hb1 hb2 hc1 hc2 hzz hyy hxx hLZ hto HS HX b0 b1 b2 b3 x0 x1 x2 x3 e0 e1 e2 e3 e4 e5 e6 e7 g0 g1 g2 g3 g4 g5 g6 g7 KBX0_14 NW_14 NX0_14 NG_14 HC14
  obtain ⟨x0, x1, x2, x3⟩ := Args4.row4 KBX0_17.out
  have hmk := markTerm_any t0 HF0.out SX0 PX0 KX0 qX0 rX0 (1) w16 (by omega) (by omega) NX0_17.out
  go_wp2_with fail
  (with_reducible refine hmk.mono ?_)
  rintro e w18 ⟨rfl, hon⟩
  have s19 : w16.heap.size ≤ w18.heap.size := hon.size
  have NW_19 := Lib.hid (NW_17.out.alike (w' := w18) fun bb hbb => hon.block bb (NW_17.out.lt bb hbb) (fun hm => by have h1 := HTX0.out _ hm; have h2 := HTW.out _ hbb; omega))
  have NG_19 := Lib.hid (NG_17.out.alike (w' := w18) fun bb hbb => hon.block bb (NG_17.out.lt bb hbb) (fun hm => by have h1 := HTX0.out _ hm; have h2 := HTG.out _ hbb; omega))
  have HC19 := Lib.hid (Only.below HC17.out hon HC17.out.size (fun b hb => by have := HTX0.out _ hb; have := HZ.out; omega))
  clear hmk hon x0 x1 x2 x3 NX0_17 KBX0_17 NW_17 NG_17 HC17
  have tk : ¬ 1 + (t0.perm.length : Int) * 2 + (mcTs t0.kids : Int) < 0 := by omega
  have heq := eqIntSS_any L HFR.out w18 _ _ NG_19.out.at_ NW_19.out.at_
  go_wp2_with fail
  refine heq.mono ?_
  rintro e w20 ⟨rfl, hb⟩
  have s21 : w18.heap.size ≤ w20.heap.size := hb.size
  have NW_21 := Lib.hid (NW_19.out.alike (w' := w20) fun bb hbb => hb.block bb (NW_19.out.lt bb hbb))
  have NG_21 := Lib.hid (NG_19.out.alike (w' := w20) fun bb hbb => hb.block bb (NG_19.out.lt bb hbb))
  have HC21 := Lib.hid (HC19.out.trans (hb.mono HC19.out.size))
  clear heq hb NW_19 NG_19 HC19
  have hmi := markIntSS_any L HFR.out SG vG 1 w20 (by omega) (by omega) NG_21.out
  go_wp2_with fail
  (with_reducible refine hmi.mono ?_)
  rintro e w22 ⟨rfl, hLm, hon⟩
  have s23 : w20.heap.size ≤ w22.heap.size := hon.size
  have NW_23 := Lib.hid (NW_21.out.alike (w' := w22) fun bb hbb => hon.block bb (NW_21.out.lt bb hbb) (fun hm => by have h1 := HTG.out _ hm; have h2 := HTW.out _ hbb; omega))
  have HC23 := Lib.hid (Only.below HC21.out hon HC21.out.size (fun b hb => by have := HTG.out _ hb; have := HZ.out; omega))
  have NM := Lib.hid hLm
  clear hmi hon hLm NG_21 NW_21 HC21
  have tm : ¬ 1 + (sumR L : Int) < 0 := by omega
  have tq : (1 + (sumR L : Int) != 1 + (sumR L : Int)) = false := by simp
  have hhi := heldIntSS_any L HFR.out vG 1 w22 (by omega) (by omega) NM.out.at_
  go_wp2_with fail
  refine hhi.mono ?_
  rintro e w' ⟨rfl, rfl⟩
  clear hhi
  obtain ⟨b0, b1, b2, b3⟩ := HB0.out w22 HC23.out
  have hto := toTerm_any t0 HF0.out w22 _ (HI0.out w22 HC23.out)
  go_wp2_with fail
  refine hto.mono ?_
  rintro e w24 ⟨P, q, K, r, S, rfl, hL, _, hb⟩
  have hsp := pathsOf_impl t0 (fit_of t0 HN0.out) _ w24 (tmOut_in hL)
  rw [HL.out] at hsp
  have s25 : w22.heap.size ≤ w24.heap.size := hb.size
  have NW_25 := Lib.hid (NW_23.out.alike (w' := w24) fun bb hbb => hb.block bb (NW_23.out.lt bb hbb))
  have NM_25 := Lib.hid (NM.out.alike (w' := w24) fun bb hbb => hb.block bb (NM.out.lt bb hbb))
  have HC25 := Lib.hid (HC23.out.trans (hb.mono HC23.out.size))
  clear hto hb hL b0 b1 b2 b3 NW_23 NM HC23
  go_wp2_with fail
  refine hsp.mono ?_
  rintro e w26 ⟨vH, SH, rfl, hL, hS, hb⟩
  have s27 : w24.heap.size ≤ w26.heap.size := hb.size
  have NW_27 := Lib.hid (NW_25.out.alike (w' := w26) fun bb hbb => hb.block bb (NW_25.out.lt bb hbb))
  have NM_27 := Lib.hid (NM_25.out.alike (w' := w26) fun bb hbb => hb.block bb (NM_25.out.lt bb hbb))
  have HC27 := Lib.hid (HC25.out.trans (hb.mono HC25.out.size))
  have HTH : Hid (∀ b ∈ SH, w24.heap.size ≤ b ∧ b < w26.heap.size) := Lib.hid (fun b hb => ⟨hS b hb, hL.lt b hb⟩)
  have NH := Lib.hid hL
  clear hb hS NW_25 NM_25 HC25 hL
  clear hsp
  have heq := eqIntSS_any L HFR.out w26 _ _ NH.out.at_ NW_27.out.at_
  go_wp2_with fail
  refine heq.mono ?_
  rintro e w28 ⟨rfl, hb⟩
  have s29 : w26.heap.size ≤ w28.heap.size := hb.size
  have NW_29 := Lib.hid (NW_27.out.alike (w' := w28) fun bb hbb => hb.block bb (NW_27.out.lt bb hbb))
  have NM_29 := Lib.hid (NM_27.out.alike (w' := w28) fun bb hbb => hb.block bb (NM_27.out.lt bb hbb))
  have NH_29 := Lib.hid (NH.out.alike (w' := w28) fun bb hbb => hb.block bb (NH.out.lt bb hbb))
  have HC29 := Lib.hid (HC27.out.trans (hb.mono HC27.out.size))
  clear heq hb NW_27 NM_27 NH HC27
  have hhi := heldIntSS_any L HFR.out vG 1 w28 (by omega) (by omega) NM_29.out.at_
  go_wp2_with fail
  refine hhi.mono ?_
  rintro e w' ⟨rfl, rfl⟩
  clear hhi
  have hfin := HW0.out.trans (HC29.out.mono HW0.out.size)
  go_wp2
  go_ret
  exact ⟨rfl, hfin⟩

theorem walk (w : World) (x0 : Value) (t0 : Tm) (hx0 : TmIn w x0 t0) (hs0 : Short t0) :
    Calls Try.prog 3 #[x0] w fun e w' => e = .returned (.bool true) ∧ Below w.heap.size w w' := by
  by_cases hn0 : (cntT t0 : Int) ≤ 1048576
  · skip
    exact walk_yes w x0 t0 hx0 hs0 hn0
  · exact walk_no0 w x0 t0 hx0 hs0 hn0

set_option maxRecDepth 100000 in
theorem lifted (os : Os) (started : os.Started) (H : Type) (enc : TypeId × Value → H) :
    ReturnsInHanded {} Try.checked os 3 .any (Rows.fnExactPathsOfSpec.pre6 enc Try.prog Try.f3 Rows.fnExactPathsOfRow.domain false) (Rows.fnExactPathsOfSpec.post enc Try.prog Try.f3 false true false false) := by
  refine returnsInHanded_of_change (C := Try.checked) own started (by kernel_rfl) Try.func3
    (ChangeSpec.witness6 (enc := enc) (C := Try.checked) false ⟨#[], #[.agg #[.int .i64 0, .int .i64 0, .slice none 0 0, .slice none 0 0]], []⟩ 8 (by kernel_rfl) (by kernel_rfl) (by kernel_rfl) (by kernel_rfl)) ?_
  intro W base args ds gs before hval0 hW hcnd _
  have hval : ∀ (j : Nat) t v, Try.f3.params[j]? = some t → args[j]? = some v → Value.okWide Try.prog W .any base t v := hval0
  have hW' := hW
  obtain ⟨p, q, hA0, hV, rfl, hfz, hnd⟩ := hW
  have hA : DataW.TrodAll enc Try.prog W 0 (fun _ => true) true Try.f3.params.toList args.toList ds p := hA0
  rw [Try.params3] at hA hval
  obtain ⟨v0, vs0, d0, ds0, p0, q0, hargs, rfl, rfl, h0, r0⟩ := trodAll_cons hA
  obtain ⟨rfl, rfl, rfl⟩ := trodAll_nil r0
  obtain rfl : args = #[v0] := by cases args; simp_all
  obtain ⟨rfl, rfl⟩ := trodVars_none hV
  have k0 := h0
  have lt0 : ∀ x ∈ p0, x.block < W.heap.size := by obtain ⟨m, hm⟩ := k0; exact DataW.trod_lt m _ _ _ hm
  obtain ⟨t0, tx0, ts0⟩ := open_term (hval 0 25 v0 rfl rfl) h0
  clear hA0 hval0
  refine (walk W v0 t0 tx0 ts0).mono fun e W' ⟨he, bel⟩ => ?_
  subst he
  exact ⟨_, rfl, _, _, _, [], _, [], hW', trodAll_mk1 (shut_bool Try.underlying4 _), (trodAll_cons_mk (Below.trod laidOut (by kernel_rfl) (of_decide_eq_true (by kernel_rfl)) k0 bel lt0) trodAll_mk0), rfl, bel.frame _, fun h => by cases h⟩

theorem over : Rows.fnExactPathsOfRow.holds Try.pinned (OpenSpec.ofChange Rows.fnExactPathsOfSpec) :=
  OpenClaim.holds_of_wide 3 Try.f3 rfl rfl rfl rfl rfl rfl rfl ⟨rfl, rfl, rfl, rfl, rfl⟩ rfl rfl rfl rfl rfl (by kernel_rfl) Try.func3 (by kernel_rfl)
    (of_decide_eq_true (by kernel_rfl)) (by unfold Func.isWrapper; first | (rw [if_pos (by decide +kernel)]; kernel_rfl) | (rw [if_neg (by decide +kernel)]; exact ⟨rfl, rfl⟩))
    (fun os started H enc _ => lifted os started H enc)

theorem proved : Rows.FnExactPathsOfSaid := over
#print axioms proved
end Go.Proofs.Ytnnebndcjjdhoaa.fnExactPathsOf
