/-
  The law FnExactIsFunctionTerm returns true for every value: the program decides as the model whether a value is a function term, and leaves its argument as it was. No condition.
-/
import Derived.Test.YtihijigbdpjcoaaKIsFunctionTerm12
import Derived.Test.YtihijigbdpjcoaaKIsFunctionTerm4
import Derived.Test.YtihijigbdpjcoaaKIsFunctionTerm13
import Derived.Test.YtihijigbdpjcoaaKIsFunctionTerm8
import Derived.Test.YtihijigbdpjcoaaKIsFunctionTerm18
import Derived.Test.YtihijigbdpjcoaaKIsFunctionTerm11
namespace Go.Proofs.Ytihijigbdpjcoaa.fnExactIsFunctionTerm
open Go.ChangeShapes Go.WideShapes Go.ChangeAt Go.RowKit
set_option linter.unusedVariables false

namespace Args4
theorem box_lt {w : World} {g : Nat} {o : Obj} (h : w.heap[g]? = some o) : g < w.heap.size := (Array.getElem?_eq_some_iff.1 h).1
theorem row4 {w : World} {g : Nat} {a b c d : Value} {T : TypeId} (h : w.heap[g]? = some (.cells #[a, b, c, d] T (0, 0))) : w.cell? ⟨g, 0, none⟩ = some a ∧ w.cell? ⟨g, 1, none⟩ = some b ∧ w.cell? ⟨g, 2, none⟩ = some c ∧ w.cell? ⟨g, 3, none⟩ = some d := by
  refine ⟨?_, ?_, ?_, ?_⟩ <;> rw [cell_of_row w g _ _ _ _ h] <;> rfl
end Args4
theorem pairsAt_of {w : World} {base n : Nat} {e : TypeId} {B : Option Addr} {d : Nat} {l : List (Int × Int)} (h : w.ownsRow base e 2 (.slice B n d) l.length (cellsOf l)) : PairsAt w B l := by
  obtain ⟨A, c, ee, hp⟩ := own_pairsAt h
  injection ee with e1 e2 e3
  subst e1
  exact hp

set_option maxRecDepth 100000 in
set_option maxHeartbeats 16000000 in
theorem walk_no0 (w : World) (x0 : Value) (t0 : Tm) (hx0 : TmIn w x0 t0) (hs0 : Short t0) (hn0 : ¬ (cntT t0 : Int) ≤ 1048576) :
    Calls Try.prog 3 #[x0] w fun e w' => e = .returned (.bool true) ∧ Below w.heap.size w w' := by
  obtain ⟨A0, c0, kv0, rfl, hp0, hk0⟩ := hx0
  obtain ⟨B0, d0, rfl⟩ := hk0.form
  have hsh0 := (short_eq t0).1 hs0
  have hb0 : Below w.heap.size w (w.alloc (.cells #[.int .i64 t0.op, .int .i64 t0.num, .slice A0 t0.perm.length c0, .slice B0 t0.kids.length d0] 25)) := ((Below.refl _ w).alloc (by first | exact Nat.le_refl _ | (simp; done) | (simp; omega)) _)
  have HI0 : Hid (∀ w' : World, Below (w.alloc (.cells #[.int .i64 t0.op, .int .i64 t0.num, .slice A0 t0.perm.length c0, .slice B0 t0.kids.length d0] 25)).heap.size (w.alloc (.cells #[.int .i64 t0.op, .int .i64 t0.num, .slice A0 t0.perm.length c0, .slice B0 t0.kids.length d0] 25)) w' → TmIn w' (.agg #[.int .i64 t0.op, .int .i64 t0.num, .slice A0 t0.perm.length c0, .slice B0 t0.kids.length d0]) t0) := Lib.hid (fun w' h => ⟨A0, c0, _, rfl, hp0.below (hb0.trans (h.mono hb0.size)), hk0.below (hb0.trans (h.mono hb0.size))⟩)
  have kk0 : (w.alloc (.cells #[.int .i64 t0.op, .int .i64 t0.num, .slice A0 t0.perm.length c0, .slice B0 t0.kids.length d0] 25)).heap[w.heap.size]? = some (.cells #[.int .i64 t0.op, .int .i64 t0.num, .slice A0 t0.perm.length c0, .slice B0 t0.kids.length d0] 25 (0, 0)) := by
    have h := heap_alloc_new w (.cells #[.int .i64 t0.op, .int .i64 t0.num, .slice A0 t0.perm.length c0, .slice B0 t0.kids.length d0] 25)
    exact h
  obtain ⟨b00, b01, b02, b03⟩ := Args4.row4 kk0
  have lt0 : w.heap.size < (w.alloc (.cells #[.int .i64 t0.op, .int .i64 t0.num, .slice A0 t0.perm.length c0, .slice B0 t0.kids.length d0] 25)).heap.size := by first | (simp; done) | (simp; omega)
  have HB0 : Hid (∀ w' : World, Below (w.alloc (.cells #[.int .i64 t0.op, .int .i64 t0.num, .slice A0 t0.perm.length c0, .slice B0 t0.kids.length d0] 25)).heap.size (w.alloc (.cells #[.int .i64 t0.op, .int .i64 t0.num, .slice A0 t0.perm.length c0, .slice B0 t0.kids.length d0] 25)) w' → w'.cell? ⟨w.heap.size, 0, none⟩ = some (.int .i64 t0.op) ∧ w'.cell? ⟨w.heap.size, 1, none⟩ = some (.int .i64 t0.num) ∧ w'.cell? ⟨w.heap.size, 2, none⟩ = some (.slice A0 t0.perm.length c0) ∧ w'.cell? ⟨w.heap.size, 3, none⟩ = some (.slice B0 t0.kids.length d0)) := Lib.hid (fun w' h => ⟨(h.cell (p := ⟨w.heap.size, 0, none⟩) lt0).trans b00, (h.cell (p := ⟨w.heap.size, 1, none⟩) lt0).trans b01, (h.cell (p := ⟨w.heap.size, 2, none⟩) lt0).trans b02, (h.cell (p := ⟨w.heap.size, 3, none⟩) lt0).trans b03⟩)
  clear hp0 hk0 kk0 lt0 hs0
  have HC0 : Hid (Below (w.alloc (.cells #[.int .i64 t0.op, .int .i64 t0.num, .slice A0 t0.perm.length c0, .slice B0 t0.kids.length d0] 25)).heap.size (w.alloc (.cells #[.int .i64 t0.op, .int .i64 t0.num, .slice A0 t0.perm.length c0, .slice B0 t0.kids.length d0] 25)) (w.alloc (.cells #[.int .i64 t0.op, .int .i64 t0.num, .slice A0 t0.perm.length c0, .slice B0 t0.kids.length d0] 25))) := Lib.hid (Below.refl _ _)
  have HW0 := Lib.hid hb0
  clear hb0
  go_enter Try.func3, Try.ntmps3
  have hsz := szTerm_of t0 _ _ (1048576) (by omega) (by omega) (HI0.out (w.alloc (.cells #[.int .i64 t0.op, .int .i64 t0.num, .slice A0 t0.perm.length c0, .slice B0 t0.kids.length d0] 25)) HC0.out) hsh0.1 fun l' w' y g0 g1 hy => szTermS_any _ t0.kids (Nat.le_refl _) hsh0.2.2 hsh0.2.1 l' w' y g0 g1 hy
  unfold LeftPost at hsz
  rw [leftR_no (by omega)] at hsz
  go_wp2_with fail
  refine hsz.mono ?_
  rintro e u1 ⟨rfl, hb⟩
  clear hsz b00 b01 b02 b03
  have s2 : (w.alloc (.cells #[.int .i64 t0.op, .int .i64 t0.num, .slice A0 t0.perm.length c0, .slice B0 t0.kids.length d0] 25)).heap.size ≤ u1.heap.size := hb.size
  have HC2 := Lib.hid (HC0.out.trans (hb.mono HC0.out.size))
  clear hb HC0
  have hfin := HW0.out.trans (HC2.out.mono HW0.out.size)
  go_wp2
  go_ret
  exact ⟨rfl, hfin⟩

set_option maxRecDepth 100000 in
set_option maxHeartbeats 16000000 in
theorem walk_yes (w : World) (x0 : Value) (t0 : Tm) (hx0 : TmIn w x0 t0) (hs0 : Short t0) (hn0 : (cntT t0 : Int) ≤ 1048576) :
    Calls Try.prog 3 #[x0] w fun e w' => e = .returned (.bool true) ∧ Below w.heap.size w w' := by
  have HN0 : Hid (cntT t0 ≤ 1048576) := Lib.hid (by omega)
  have HF0 := Lib.hid (fit_of t0 HN0.out)
  have hmk0 : t0.perm.length * 2 + mcTs t0.kids ≤ 2097152 := by
    have h1 := mcTs_le t0.kids
    have h2 := cntT_eq t0
    omega
  generalize hFF : (groundB t0 && funB t0) = fl
  have HFL := Lib.hid hFF
  have hfl : (fl != fl) = false := by simp
  clear hFF
  obtain ⟨A0, c0, kv0, rfl, hp0, hk0⟩ := hx0
  obtain ⟨B0, d0, rfl⟩ := hk0.form
  have hsh0 := (short_eq t0).1 hs0
  have hb0 : Below w.heap.size w (w.alloc (.cells #[.int .i64 t0.op, .int .i64 t0.num, .slice A0 t0.perm.length c0, .slice B0 t0.kids.length d0] 25)) := ((Below.refl _ w).alloc (by first | exact Nat.le_refl _ | (simp; done) | (simp; omega)) _)
  have HI0 : Hid (∀ w' : World, Below (w.alloc (.cells #[.int .i64 t0.op, .int .i64 t0.num, .slice A0 t0.perm.length c0, .slice B0 t0.kids.length d0] 25)).heap.size (w.alloc (.cells #[.int .i64 t0.op, .int .i64 t0.num, .slice A0 t0.perm.length c0, .slice B0 t0.kids.length d0] 25)) w' → TmIn w' (.agg #[.int .i64 t0.op, .int .i64 t0.num, .slice A0 t0.perm.length c0, .slice B0 t0.kids.length d0]) t0) := Lib.hid (fun w' h => ⟨A0, c0, _, rfl, hp0.below (hb0.trans (h.mono hb0.size)), hk0.below (hb0.trans (h.mono hb0.size))⟩)
  have kk0 : (w.alloc (.cells #[.int .i64 t0.op, .int .i64 t0.num, .slice A0 t0.perm.length c0, .slice B0 t0.kids.length d0] 25)).heap[w.heap.size]? = some (.cells #[.int .i64 t0.op, .int .i64 t0.num, .slice A0 t0.perm.length c0, .slice B0 t0.kids.length d0] 25 (0, 0)) := by
    have h := heap_alloc_new w (.cells #[.int .i64 t0.op, .int .i64 t0.num, .slice A0 t0.perm.length c0, .slice B0 t0.kids.length d0] 25)
    exact h
  obtain ⟨b00, b01, b02, b03⟩ := Args4.row4 kk0
  have lt0 : w.heap.size < (w.alloc (.cells #[.int .i64 t0.op, .int .i64 t0.num, .slice A0 t0.perm.length c0, .slice B0 t0.kids.length d0] 25)).heap.size := by first | (simp; done) | (simp; omega)
  have HB0 : Hid (∀ w' : World, Below (w.alloc (.cells #[.int .i64 t0.op, .int .i64 t0.num, .slice A0 t0.perm.length c0, .slice B0 t0.kids.length d0] 25)).heap.size (w.alloc (.cells #[.int .i64 t0.op, .int .i64 t0.num, .slice A0 t0.perm.length c0, .slice B0 t0.kids.length d0] 25)) w' → w'.cell? ⟨w.heap.size, 0, none⟩ = some (.int .i64 t0.op) ∧ w'.cell? ⟨w.heap.size, 1, none⟩ = some (.int .i64 t0.num) ∧ w'.cell? ⟨w.heap.size, 2, none⟩ = some (.slice A0 t0.perm.length c0) ∧ w'.cell? ⟨w.heap.size, 3, none⟩ = some (.slice B0 t0.kids.length d0)) := Lib.hid (fun w' h => ⟨(h.cell (p := ⟨w.heap.size, 0, none⟩) lt0).trans b00, (h.cell (p := ⟨w.heap.size, 1, none⟩) lt0).trans b01, (h.cell (p := ⟨w.heap.size, 2, none⟩) lt0).trans b02, (h.cell (p := ⟨w.heap.size, 3, none⟩) lt0).trans b03⟩)
  clear hp0 hk0 kk0 lt0 hs0
  have HC0 : Hid (Below (w.alloc (.cells #[.int .i64 t0.op, .int .i64 t0.num, .slice A0 t0.perm.length c0, .slice B0 t0.kids.length d0] 25)).heap.size (w.alloc (.cells #[.int .i64 t0.op, .int .i64 t0.num, .slice A0 t0.perm.length c0, .slice B0 t0.kids.length d0] 25)) (w.alloc (.cells #[.int .i64 t0.op, .int .i64 t0.num, .slice A0 t0.perm.length c0, .slice B0 t0.kids.length d0] 25))) := Lib.hid (Below.refl _ _)
  have HW0 := Lib.hid hb0
  clear hb0
  go_enter Try.func3, Try.ntmps3
  have hsz := szTerm_of t0 _ _ (1048576) (by omega) (by omega) (HI0.out (w.alloc (.cells #[.int .i64 t0.op, .int .i64 t0.num, .slice A0 t0.perm.length c0, .slice B0 t0.kids.length d0] 25)) HC0.out) hsh0.1 fun l' w' y g0 g1 hy => szTermS_any _ t0.kids (Nat.le_refl _) hsh0.2.2 hsh0.2.1 l' w' y g0 g1 hy
  unfold LeftPost at hsz
  rw [leftR_yes hn0] at hsz
  have hleft0 : ¬ 1048576 - (cntT t0 : Int) < 0 := by omega
  go_wp2_with fail
  refine hsz.mono ?_
  rintro e u1 ⟨rfl, hb⟩
  clear hsz b00 b01 b02 b03
  have s2 : (w.alloc (.cells #[.int .i64 t0.op, .int .i64 t0.num, .slice A0 t0.perm.length c0, .slice B0 t0.kids.length d0] 25)).heap.size ≤ u1.heap.size := hb.size
  have HC2 := Lib.hid (HC0.out.trans (hb.mono HC0.out.size))
  clear hb HC0
  have HZ : Hid ((w.alloc (.cells #[.int .i64 t0.op, .int .i64 t0.num, .slice A0 t0.perm.length c0, .slice B0 t0.kids.length d0] 25)).heap.size ≤ u1.heap.size) := Lib.hid HC2.out.size
  obtain ⟨b0, b1, b2, b3⟩ := HB0.out u1 HC2.out
  have hto := toTerm_any t0 HF0.out u1 _ (HI0.out u1 HC2.out)
  go_wp2_with fail
  refine hto.mono ?_
  rintro e w3 ⟨P, q, K, r, S, rfl, hL, _, hb⟩
  have hsp := isFunctionTerm_spec t0 _ w3 (tmOut_in hL) HN0.out
  rw [HFL.out] at hsp
  have s4 : u1.heap.size ≤ w3.heap.size := hb.size
  have HC4 := Lib.hid (HC2.out.trans (hb.mono HC2.out.size))
  clear hto hb hL b0 b1 b2 b3 HC2
  go_wp2_with fail
  refine hsp.mono ?_
  rintro e w5 ⟨rfl, hb⟩
  have s6 : w3.heap.size ≤ w5.heap.size := hb.size
  have HC6 := Lib.hid (HC4.out.trans (hb.mono HC4.out.size))
  clear hb HC4
  clear hsp
  obtain ⟨b0, b1, b2, b3⟩ := HB0.out w5 HC6.out
  have hto := toTerm_any t0 HF0.out w5 _ (HI0.out w5 HC6.out)
  go_wp2_with fail
  refine hto.mono ?_
  rintro e w7 ⟨PX0, qX0, KX0, rX0, SX0, rfl, hL, hS, hb⟩
  have s8 : w5.heap.size ≤ w7.heap.size := hb.size
  have HC8 := Lib.hid (HC6.out.trans (hb.mono HC6.out.size))
  have HTX0 : Hid (∀ b ∈ SX0, w5.heap.size ≤ b ∧ b < w7.heap.size) := Lib.hid (fun b hb => ⟨hS b hb, hL.lt b hb⟩)
  have NX0 := Lib.hid hL
  clear hto hb hS b0 b1 b2 b3 HC6 hL
  have hbx : Below w7.heap.size w7 (w7.alloc (.cells #[.int .i64 t0.op, .int .i64 t0.num, .slice PX0 t0.perm.length qX0, .slice KX0 t0.kids.length rX0] 31)) := (Below.refl _ _).alloc (Nat.le_refl _) _
  have s9 : w7.heap.size ≤ (w7.alloc (.cells #[.int .i64 t0.op, .int .i64 t0.num, .slice PX0 t0.perm.length qX0, .slice KX0 t0.kids.length rX0] 31)).heap.size := hbx.size
  have NX0_9 := Lib.hid (NX0.out.alike (w' := (w7.alloc (.cells #[.int .i64 t0.op, .int .i64 t0.num, .slice PX0 t0.perm.length qX0, .slice KX0 t0.kids.length rX0] 31))) fun bb hbb => hbx.block bb (NX0.out.lt bb hbb))
  have HC9 := Lib.hid (HC8.out.trans (hbx.mono HC8.out.size))
  have KBX0 := Lib.hid (heap_alloc_new w7 (.cells #[.int .i64 t0.op, .int .i64 t0.num, .slice PX0 t0.perm.length qX0, .slice KX0 t0.kids.length rX0] 31))
  clear hbx NX0 HC8
  have lt_X0 : w7.heap.size < (w7.alloc (.cells #[.int .i64 t0.op, .int .i64 t0.num, .slice PX0 t0.perm.length qX0, .slice KX0 t0.kids.length rX0] 31)).heap.size := by simp
  have hsp := isFunctionTerm_impl t0 _ (w7.alloc (.cells #[.int .i64 t0.op, .int .i64 t0.num, .slice PX0 t0.perm.length qX0, .slice KX0 t0.kids.length rX0] 31)) (tmOut_in NX0_9.out) HF0.out
  rw [HFL.out] at hsp
  obtain ⟨x00, x01, x02, x03⟩ := Args4.row4 KBX0.out
  go_wp2_with fail
  refine hsp.mono ?_
  rintro e w10 ⟨rfl, hb⟩
  have s11 : (w7.alloc (.cells #[.int .i64 t0.op, .int .i64 t0.num, .slice PX0 t0.perm.length qX0, .slice KX0 t0.kids.length rX0] 31)).heap.size ≤ w10.heap.size := hb.size
  have KBX0_11 := Lib.hid ((hb.block _ (Args4.box_lt KBX0.out)).trans KBX0.out)
  have NX0_11 := Lib.hid (NX0_9.out.alike (w' := w10) fun bb hbb => hb.block bb (NX0_9.out.lt bb hbb))
  have HC11 := Lib.hid (HC9.out.trans (hb.mono HC9.out.size))
  clear hb KBX0 NX0_9 HC9
  clear hsp x00 x01 x02 x03
  have hdw : Below w10.heap.size w10 w10.drew := ⟨rfl, rfl, rfl, Nat.le_refl _, fun _ _ => rfl⟩
  have s12 : w10.heap.size ≤ w10.drew.heap.size := hdw.size
  have KBX0_12 := Lib.hid ((hdw.block _ (Args4.box_lt KBX0_11.out)).trans KBX0_11.out)
  have NX0_12 := Lib.hid (NX0_11.out.alike (w' := w10.drew) fun bb hbb => hdw.block bb (NX0_11.out.lt bb hbb))
  have HC12 := Lib.hid (HC11.out.trans (hdw.mono HC11.out.size))
  clear hdw KBX0_11 NX0_11 HC11
  have HS := HC12
  have HX := KBX0_12
  obtain ⟨b0, b1, b2, b3⟩ := HB0.out w10.drew HC12.out
  obtain ⟨x0, x1, x2, x3⟩ := Args4.row4 KBX0_12.out
  have hxx := tmOut_in NX0_12.out
  have hto := toTerm_any t0 HF0.out w10.drew _ (HI0.out w10.drew HS.out)
  go_wp2
  go_region_held3 (fun w' => w'.cell? ⟨w.heap.size, 0, none⟩ = some (.int .i64 t0.op) ∧ w'.cell? ⟨w.heap.size, 1, none⟩ = some (.int .i64 t0.num) ∧ w'.cell? ⟨w.heap.size, 2, none⟩ = some (.slice A0 t0.perm.length c0) ∧ w'.cell? ⟨w.heap.size, 3, none⟩ = some (.slice B0 t0.kids.length d0) ∧ w'.cell? ⟨w7.heap.size, 0, none⟩ = some (.int .i64 t0.op) ∧ w'.cell? ⟨w7.heap.size, 1, none⟩ = some (.int .i64 t0.num) ∧ w'.cell? ⟨w7.heap.size, 2, none⟩ = some (.slice PX0 t0.perm.length qX0) ∧ w'.cell? ⟨w7.heap.size, 3, none⟩ = some (.slice KX0 t0.kids.length rX0))
    (first | (with_reducible exact ⟨by assumption, by assumption, by assumption, by assumption, by assumption, by assumption, by assumption, by assumption⟩) | ((try dsimp only); exact ⟨by assumption, by assumption, by assumption, by assumption, by assumption, by assumption, by assumption, by assumption⟩) | go_keep)
    (first
      | (go_at_call 12; refine hto.mono ?_; rintro e w13 ⟨PZ, qZ, KZ, rZ, SZ, rfl, hLZ, _, hb1⟩; have hc1 := HS.out.trans (hb1.mono HS.out.size); have hzz := tmOut_in hLZ; have hyy := hxx.below hb1; obtain ⟨e0, e1, e2, e3⟩ := HB0.out w13 hc1; obtain ⟨e4, e5, e6, e7⟩ := Args4.row4 (((hb1).block _ (Args4.box_lt HX.out)).trans HX.out))
      | (go_at_call 14; refine (eqTerm_any t0 HF0.out _ _ _ hyy hzz).mono ?_; rintro e w14 ⟨rfl, hb2⟩; have hbz := hb1.trans (hb2.mono hb1.size); have hc2 := HS.out.trans (hbz.mono HS.out.size); obtain ⟨g0, g1, g2, g3⟩ := HB0.out w14 hc2; obtain ⟨g4, g5, g6, g7⟩ := Args4.row4 (((hbz).block _ (Args4.box_lt HX.out)).trans HX.out))
      | fail)
  have s15 : w10.drew.heap.size ≤ w14.heap.size := hbz.size
  have KBX0_15 := Lib.hid ((hbz.block _ (Args4.box_lt KBX0_12.out)).trans KBX0_12.out)
  have NX0_15 := Lib.hid (NX0_12.out.alike (w' := w14) fun bb hbb => hbz.block bb (NX0_12.out.lt bb hbb))
  have HC15 := Lib.hid (HC12.out.trans (hbz.mono HC12.out.size))
  clear hbz hb1 hb2 hc1 hc2 hzz hyy hxx hLZ hto HS HX b0 b1 b2 b3 x0 x1 x2 x3 e0 e1 e2 e3 e4 e5 e6 e7 g0 g1 g2 g3 g4 g5 g6 g7 KBX0_12 NX0_12 HC12
  have hfin := HW0.out.trans (HC15.out.mono HW0.out.size)
  go_wp2
  go_ret
  exact ⟨rfl, hfin⟩

theorem walk (w : World) (x0 : Value) (t0 : Tm) (hx0 : TmIn w x0 t0) (hs0 : Short t0) :
    Calls Try.prog 3 #[x0] w fun e w' => e = .returned (.bool true) ∧ Below w.heap.size w w' := by
  by_cases hn0 : (cntT t0 : Int) ≤ 1048576
  · skip
    exact walk_yes w x0 t0 hx0 hs0 hn0
  · exact walk_no0 w x0 t0 hx0 hs0 hn0

set_option maxRecDepth 100000 in
theorem lifted (os : Os) (started : os.Started) (H : Type) (enc : TypeId × Value → H) :
    ReturnsInHanded {} Try.checked os 3 .any (Rows.fnExactIsFunctionTermSpec.pre6 enc Try.prog Try.f3 Rows.fnExactIsFunctionTermRow.domain false) (Rows.fnExactIsFunctionTermSpec.post enc Try.prog Try.f3 false true false false) := by
  refine returnsInHanded_of_change (C := Try.checked) own started (by kernel_rfl) Try.func3
    (ChangeSpec.witness6 (enc := enc) (C := Try.checked) false ⟨#[], #[.agg #[.int .i64 0, .int .i64 0, .slice none 0 0, .slice none 0 0]], []⟩ 8 (by kernel_rfl) (by kernel_rfl) (by kernel_rfl) (by kernel_rfl)) ?_
  intro W base args ds gs before hval0 hW hcnd _
  have hval : ∀ (j : Nat) t v, Try.f3.params[j]? = some t → args[j]? = some v → Value.okWide Try.prog W .any base t v := hval0
  have hW' := hW
  obtain ⟨p, q, hA0, hV, rfl, hfz, hnd⟩ := hW
  have hA : DataW.TrodAll enc Try.prog W 0 (fun _ => true) true Try.f3.params.toList args.toList ds p := hA0
  rw [Try.params3] at hA hval
  obtain ⟨v0, vs0, d0, ds0, p0, q0, hargs, rfl, rfl, h0, r0⟩ := trodAll_cons hA
  obtain ⟨rfl, rfl, rfl⟩ := trodAll_nil r0
  obtain rfl : args = #[v0] := by cases args; simp_all
  obtain ⟨rfl, rfl⟩ := trodVars_none hV
  have k0 := h0
  have lt0 : ∀ x ∈ p0, x.block < W.heap.size := by obtain ⟨m, hm⟩ := k0; exact DataW.trod_lt m _ _ _ hm
  obtain ⟨t0, tx0, ts0⟩ := open_term (hval 0 25 v0 rfl rfl) h0
  clear hA0 hval0
  refine (walk W v0 t0 tx0 ts0).mono fun e W' ⟨he, bel⟩ => ?_
  subst he
  exact ⟨_, rfl, _, _, _, [], _, [], hW', trodAll_mk1 (shut_bool Try.underlying4 _), (trodAll_cons_mk (Below.trod laidOut (by kernel_rfl) (of_decide_eq_true (by kernel_rfl)) k0 bel lt0) trodAll_mk0), rfl, bel.frame _, fun h => by cases h⟩

theorem over : Rows.fnExactIsFunctionTermRow.holds Try.pinned (OpenSpec.ofChange Rows.fnExactIsFunctionTermSpec) :=
  OpenClaim.holds_of_wide 3 Try.f3 rfl rfl rfl rfl rfl rfl rfl ⟨rfl, rfl, rfl, rfl, rfl⟩ rfl rfl rfl rfl rfl (by kernel_rfl) Try.func3 (by kernel_rfl)
    (of_decide_eq_true (by kernel_rfl)) (by unfold Func.isWrapper; first | (rw [if_pos (by decide +kernel)]; kernel_rfl) | (rw [if_neg (by decide +kernel)]; exact ⟨rfl, rfl⟩))
    (fun os started H enc _ => lifted os started H enc)

theorem proved : Rows.FnExactIsFunctionTermSaid := over
#print axioms proved
end Go.Proofs.Ytihijigbdpjcoaa.fnExactIsFunctionTerm
