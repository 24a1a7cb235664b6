/-
  The law FnExactPatternsOf returns true for every two numbers: the program gives all patterns of a width for so many constants as the model does, in memory of its own. No condition.
-/
import Derived.Test.YtdbogjhkcnajkaaKPatternsOf17
import Derived.Test.YtdbogjhkcnajkaaKPatternsOf10
import Derived.Test.YtdbogjhkcnajkaaKPatternsOf18
namespace Go.Proofs.Ytdbogjhkcnajkaa.fnExactPatternsOf
open Go.ChangeShapes Go.WideShapes Go.ChangeAt Go.RowKit
set_option linter.unusedVariables false

namespace Args4
theorem box_lt {w : World} {g : Nat} {o : Obj} (h : w.heap[g]? = some o) : g < w.heap.size := (Array.getElem?_eq_some_iff.1 h).1
theorem row4 {w : World} {g : Nat} {a b c d : Value} {T : TypeId} (h : w.heap[g]? = some (.cells #[a, b, c, d] T (0, 0))) : w.cell? ⟨g, 0, none⟩ = some a ∧ w.cell? ⟨g, 1, none⟩ = some b ∧ w.cell? ⟨g, 2, none⟩ = some c ∧ w.cell? ⟨g, 3, none⟩ = some d := by
  refine ⟨?_, ?_, ?_, ?_⟩ <;> rw [cell_of_row w g _ _ _ _ h] <;> rfl
end Args4
theorem pairsAt_of {w : World} {base n : Nat} {e : TypeId} {B : Option Addr} {d : Nat} {l : List (Int × Int)} (h : w.ownsRow base e 2 (.slice B n d) l.length (cellsOf l)) : PairsAt w B l := by
  obtain ⟨A, c, ee, hp⟩ := own_pairsAt h
  injection ee with e1 e2 e3
  subst e1
  exact hp

set_option maxRecDepth 100000 in
set_option maxHeartbeats 16000000 in
theorem walk_yes (w : World) (a0 : Int) (wf0 : (Lit.int .i64 a0).wf = true) (a1 : Int) (wf1 : (Lit.int .i64 a1).wf = true) :
    Calls Try.prog 3 #[.int .i64 a0, .int .i64 a1] w fun e w' => e = .returned (.bool true) ∧ Below w.heap.size w w' := by
  have HFR := Lib.hid (show FitR (patsR a0 a1) from patsR_fit a0 a1)
  have hmR : sumR (patsR a0 a1) ≤ 2097152 := patsR_sum a0 a1
  generalize hL : patsR a0 a1 = L at HFR hmR
  have HL := Lib.hid hL
  clear hL
  have hb0 : Below w.heap.size w w := (Below.refl _ w)
  have HC0 : Hid (Below w.heap.size w w) := Lib.hid (Below.refl _ _)
  have HW0 := Lib.hid hb0
  clear hb0
  go_enter Try.func3, Try.ntmps3
  have HZ : Hid (w.heap.size ≤ w.heap.size) := Lib.hid HC0.out.size
  have hsp := patternsOf_spec a0 a1 w
  rw [HL.out] at hsp
  go_wp2_with fail
  (with_reducible refine hsp.mono ?_)
  rintro e w1 ⟨vW, SW, rfl, hL, hS, hb⟩
  have s2 : w.heap.size ≤ w1.heap.size := hb.size
  have HC2 := Lib.hid (HC0.out.trans (hb.mono HC0.out.size))
  have HTW : Hid (∀ b ∈ SW, w.heap.size ≤ b ∧ b < w1.heap.size) := Lib.hid (fun b hb => ⟨hS b hb, hL.lt b hb⟩)
  have NW := Lib.hid hL
  clear hb hS HC0 hL
  clear hsp
  have hsp := patternsOf_impl a0 a1 w1
  rw [HL.out] at hsp
  go_wp2_with fail
  refine hsp.mono ?_
  rintro e w3 ⟨vG, SG, rfl, hL, hS, hb⟩
  have s4 : w1.heap.size ≤ w3.heap.size := hb.size
  have NW_4 := Lib.hid (NW.out.alike (w' := w3) fun bb hbb => hb.block bb (NW.out.lt bb hbb))
  have HC4 := Lib.hid (HC2.out.trans (hb.mono HC2.out.size))
  have HTG : Hid (∀ b ∈ SG, w1.heap.size ≤ b ∧ b < w3.heap.size) := Lib.hid (fun b hb => ⟨hS b hb, hL.lt b hb⟩)
  have NG := Lib.hid hL
  clear hb hS NW HC2 hL
  clear hsp
  have heq := eqIntSS_any L HFR.out w3 _ _ NG.out.at_ NW_4.out.at_
  go_wp2_with fail
  refine heq.mono ?_
  rintro e w5 ⟨rfl, hb⟩
  have s6 : w3.heap.size ≤ w5.heap.size := hb.size
  have NW_6 := Lib.hid (NW_4.out.alike (w' := w5) fun bb hbb => hb.block bb (NW_4.out.lt bb hbb))
  have NG_6 := Lib.hid (NG.out.alike (w' := w5) fun bb hbb => hb.block bb (NG.out.lt bb hbb))
  have HC6 := Lib.hid (HC4.out.trans (hb.mono HC4.out.size))
  clear heq hb NW_4 NG HC4
  have hmi := markIntSS_any L HFR.out SG vG 1 w5 (by omega) (by omega) NG_6.out
  go_wp2_with fail
  (with_reducible refine hmi.mono ?_)
  rintro e w7 ⟨rfl, hLm, hon⟩
  have s8 : w5.heap.size ≤ w7.heap.size := hon.size
  have NW_8 := Lib.hid (NW_6.out.alike (w' := w7) fun bb hbb => hon.block bb (NW_6.out.lt bb hbb) (fun hm => by have h1 := HTG.out _ hm; have h2 := HTW.out _ hbb; omega))
  have HC8 := Lib.hid (Only.below HC6.out hon HC6.out.size (fun b hb => by have := HTG.out _ hb; have := HZ.out; omega))
  have NM := Lib.hid hLm
  clear hmi hon hLm NG_6 NW_6 HC6
  have tm : ¬ 1 + (sumR L : Int) < 0 := by omega
  have tq : (1 + (sumR L : Int) != 1 + (sumR L : Int)) = false := by simp
  have hhi := heldIntSS_any L HFR.out vG 1 w7 (by omega) (by omega) NM.out.at_
  go_wp2_with fail
  refine hhi.mono ?_
  rintro e w' ⟨rfl, rfl⟩
  clear hhi
  have hsp := patternsOf_impl a0 a1 w7
  rw [HL.out] at hsp
  go_wp2_with fail
  (with_reducible refine hsp.mono ?_)
  rintro e w9 ⟨vH, SH, rfl, hL, hS, hb⟩
  have s10 : w7.heap.size ≤ w9.heap.size := hb.size
  have NW_10 := Lib.hid (NW_8.out.alike (w' := w9) fun bb hbb => hb.block bb (NW_8.out.lt bb hbb))
  have NM_10 := Lib.hid (NM.out.alike (w' := w9) fun bb hbb => hb.block bb (NM.out.lt bb hbb))
  have HC10 := Lib.hid (HC8.out.trans (hb.mono HC8.out.size))
  have HTH : Hid (∀ b ∈ SH, w7.heap.size ≤ b ∧ b < w9.heap.size) := Lib.hid (fun b hb => ⟨hS b hb, hL.lt b hb⟩)
  have NH := Lib.hid hL
  clear hb hS NW_8 NM HC8 hL
  clear hsp
  have heq := eqIntSS_any L HFR.out w9 _ _ NH.out.at_ NW_10.out.at_
  go_wp2_with fail
  refine heq.mono ?_
  rintro e w11 ⟨rfl, hb⟩
  have s12 : w9.heap.size ≤ w11.heap.size := hb.size
  have NW_12 := Lib.hid (NW_10.out.alike (w' := w11) fun bb hbb => hb.block bb (NW_10.out.lt bb hbb))
  have NM_12 := Lib.hid (NM_10.out.alike (w' := w11) fun bb hbb => hb.block bb (NM_10.out.lt bb hbb))
  have NH_12 := Lib.hid (NH.out.alike (w' := w11) fun bb hbb => hb.block bb (NH.out.lt bb hbb))
  have HC12 := Lib.hid (HC10.out.trans (hb.mono HC10.out.size))
  clear heq hb NW_10 NM_10 NH HC10
  have hhi := heldIntSS_any L HFR.out vG 1 w11 (by omega) (by omega) NM_12.out.at_
  go_wp2_with fail
  refine hhi.mono ?_
  rintro e w' ⟨rfl, rfl⟩
  clear hhi
  have hfin := HW0.out.trans (HC12.out.mono HW0.out.size)
  go_wp2
  go_ret
  exact ⟨rfl, hfin⟩

theorem walk (w : World) (a0 : Int) (wf0 : (Lit.int .i64 a0).wf = true) (a1 : Int) (wf1 : (Lit.int .i64 a1).wf = true) :
    Calls Try.prog 3 #[.int .i64 a0, .int .i64 a1] w fun e w' => e = .returned (.bool true) ∧ Below w.heap.size w w' := by
  exact walk_yes w a0 wf0 a1 wf1 

set_option maxRecDepth 100000 in
theorem lifted (os : Os) (started : os.Started) (H : Type) (enc : TypeId × Value → H) :
    ReturnsInHanded {} Try.checked os 3 .any (Rows.fnExactPatternsOfSpec.pre6 enc Try.prog Try.f3 Rows.fnExactPatternsOfRow.domain false) (Rows.fnExactPatternsOfSpec.post enc Try.prog Try.f3 false true false false) := by
  refine returnsInHanded_of_change (C := Try.checked) own started (by kernel_rfl) Try.func3
    (ChangeSpec.witness6 (enc := enc) (C := Try.checked) false ⟨#[], #[.int .i64 0, .int .i64 0], []⟩ 8 (by kernel_rfl) (by kernel_rfl) (by kernel_rfl) (by kernel_rfl)) ?_
  intro W base args ds gs before hval0 hW hcnd _
  have hval : ∀ (j : Nat) t v, Try.f3.params[j]? = some t → args[j]? = some v → Value.okWide Try.prog W .any base t v := hval0
  have hW' := hW
  obtain ⟨p, q, hA0, hV, rfl, hfz, hnd⟩ := hW
  have hA : DataW.TrodAll enc Try.prog W 0 (fun _ => true) true Try.f3.params.toList args.toList ds p := hA0
  rw [Try.params3] at hA hval
  obtain ⟨v0, vs0, d0, ds0, p0, q0, hargs, rfl, rfl, h0, r0⟩ := trodAll_cons hA
  obtain ⟨v1, vs1, d1, ds1, p1, q1, rfl, rfl, rfl, h1, r1⟩ := trodAll_cons r0
  obtain ⟨rfl, rfl, rfl⟩ := trodAll_nil r1
  obtain rfl : args = #[v0, v1] := by cases args; simp_all
  obtain ⟨rfl, rfl⟩ := trodVars_none hV
  have k0 := h0
  have lt0 : ∀ x ∈ p0, x.block < W.heap.size := by obtain ⟨m, hm⟩ := k0; exact DataW.trod_lt m _ _ _ hm
  have k1 := h1
  have lt1 : ∀ x ∈ p1, x.block < W.heap.size := by obtain ⟨m, hm⟩ := k1; exact DataW.trod_lt m _ _ _ hm
  obtain ⟨a0, rfl, _, _, w0⟩ := open_int Try.underlying3 (hval 0 3 v0 rfl rfl) h0
  obtain ⟨a1, rfl, _, _, w1⟩ := open_int Try.underlying3 (hval 1 3 v1 rfl rfl) h1
  clear hA0 hval0
  refine (walk W a0 w0 a1 w1).mono fun e W' ⟨he, bel⟩ => ?_
  subst he
  exact ⟨_, rfl, _, _, _, [], _, [], hW', trodAll_mk1 (shut_bool Try.underlying4 _), (trodAll_cons_mk (Below.trod laidOut (by kernel_rfl) (of_decide_eq_true (by kernel_rfl)) k0 bel lt0) (trodAll_cons_mk (Below.trod laidOut (by kernel_rfl) (of_decide_eq_true (by kernel_rfl)) k1 bel lt1) trodAll_mk0)), rfl, bel.frame _, fun h => by cases h⟩

theorem over : Rows.fnExactPatternsOfRow.holds Try.pinned (OpenSpec.ofChange Rows.fnExactPatternsOfSpec) :=
  OpenClaim.holds_of_wide 3 Try.f3 rfl rfl rfl rfl rfl rfl rfl ⟨rfl, rfl, rfl, rfl, rfl⟩ rfl rfl rfl rfl rfl (by kernel_rfl) Try.func3 (by kernel_rfl)
    (of_decide_eq_true (by kernel_rfl)) (by unfold Func.isWrapper; first | (rw [if_pos (by decide +kernel)]; kernel_rfl) | (rw [if_neg (by decide +kernel)]; exact ⟨rfl, rfl⟩))
    (fun os started H enc _ => lifted os started H enc)

theorem proved : Rows.FnExactPatternsOfSaid := over
#print axioms proved
end Go.Proofs.Ytdbogjhkcnajkaa.fnExactPatternsOf
