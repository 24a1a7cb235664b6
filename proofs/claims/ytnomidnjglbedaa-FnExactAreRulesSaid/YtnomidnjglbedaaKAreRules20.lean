/-
  The law FnExactAreRules returns true for every list of values: the program decides as the model whether they are rules, and leaves its argument as it was. No condition.
-/
import Derived.Test.YtnomidnjglbedaaKAreRules16
import Derived.Test.YtnomidnjglbedaaKAreRules19
import Derived.Test.YtnomidnjglbedaaKAreRules6
namespace Go.Proofs.Ytnomidnjglbedaa.fnExactAreRules
open Go.ChangeShapes Go.WideShapes Go.ChangeAt Go.RowKit
set_option linter.unusedVariables false

namespace Args4
theorem box_lt {w : World} {g : Nat} {o : Obj} (h : w.heap[g]? = some o) : g < w.heap.size := (Array.getElem?_eq_some_iff.1 h).1
theorem row4 {w : World} {g : Nat} {a b c d : Value} {T : TypeId} (h : w.heap[g]? = some (.cells #[a, b, c, d] T (0, 0))) : w.cell? ⟨g, 0, none⟩ = some a ∧ w.cell? ⟨g, 1, none⟩ = some b ∧ w.cell? ⟨g, 2, none⟩ = some c ∧ w.cell? ⟨g, 3, none⟩ = some d := by
  refine ⟨?_, ?_, ?_, ?_⟩ <;> rw [cell_of_row w g _ _ _ _ h] <;> rfl
end Args4
theorem pairsAt_of {w : World} {base n : Nat} {e : TypeId} {B : Option Addr} {d : Nat} {l : List (Int × Int)} (h : w.ownsRow base e 2 (.slice B n d) l.length (cellsOf l)) : PairsAt w B l := by
  obtain ⟨A, c, ee, hp⟩ := own_pairsAt h
  injection ee with e1 e2 e3
  subst e1
  exact hp

set_option maxRecDepth 100000 in
set_option maxHeartbeats 16000000 in
theorem walk_no0 (w : World) (A0 : Option Addr) (c0 : Nat) (l0 : List RRule) (hA0 : RRulesIn w (.slice A0 l0.length c0) l0) (hs0 : ShortRRules l0) (hm0 : l0.length ≤ maxLen) (hn0 : ¬ ((l0.length + sumRRule l0 : Nat) : Int) ≤ 1048576) :
    Calls Try.prog 12 #[.slice A0 l0.length c0] w fun e w' => e = .returned (.bool true) ∧ Below w.heap.size w w' := by
  have hb0 : Below w.heap.size w w := (Below.refl _ w)
  have HI0 : Hid (∀ w' : World, Below w.heap.size w w' → RRulesIn w' (.slice A0 l0.length c0) l0) := Lib.hid (fun w' h => hA0.below (hb0.trans (h.mono hb0.size)))
  clear hA0
  have HC0 : Hid (Below w.heap.size w w) := Lib.hid (Below.refl _ _)
  have HW0 := Lib.hid hb0
  clear hb0
  go_enter Try.func12, Try.ntmps12
  have hsz := szRuleS_any l0 hs0 hm0 (1048576) w _ (by omega) (by omega) (HI0.out w HC0.out)
  unfold LeftPost at hsz
  rw [leftR_no (by omega)] at hsz
  go_wp2_with fail
  refine hsz.mono ?_
  rintro e u1 ⟨rfl, hb⟩
  clear hsz
  have s2 : w.heap.size ≤ u1.heap.size := hb.size
  have HC2 := Lib.hid (HC0.out.trans (hb.mono HC0.out.size))
  clear hb HC0
  have hfin := HW0.out.trans (HC2.out.mono HW0.out.size)
  go_wp2
  go_ret
  exact ⟨rfl, hfin⟩

set_option maxRecDepth 100000 in
set_option maxHeartbeats 16000000 in
theorem walk_yes (w : World) (A0 : Option Addr) (c0 : Nat) (l0 : List RRule) (hA0 : RRulesIn w (.slice A0 l0.length c0) l0) (hs0 : ShortRRules l0) (hm0 : l0.length ≤ maxLen) (hn0 : ((l0.length + sumRRule l0 : Nat) : Int) ≤ 1048576) :
    Calls Try.prog 12 #[.slice A0 l0.length c0] w fun e w' => e = .returned (.bool true) ∧ Below w.heap.size w w' := by
  have HL0 : Hid (l0.length ≤ 1048576) := Lib.hid (by omega)
  have HN0 : Hid (∀ k, k < l0.length → cntRRule (atRRule l0 k) ≤ 1048576) := Lib.hid (fun k hk => by have := cntRRule_le hk; omega)
  have HF0 : Hid (FitRRules l0) := Lib.hid (fun k hk => ⟨by have h := HN0.out k hk; unfold cntRRule at h; omega, fit_of _ (by have h := HN0.out k hk; unfold cntRRule at h; omega), fit_of _ (by have h := HN0.out k hk; unfold cntRRule at h; omega)⟩)
  generalize hFF : rulesB l0 = fl
  have HFL := Lib.hid hFF
  have hfl : (fl != fl) = false := by simp
  clear hFF
  have hb0 : Below w.heap.size w w := (Below.refl _ w)
  have HI0 : Hid (∀ w' : World, Below w.heap.size w w' → RRulesIn w' (.slice A0 l0.length c0) l0) := Lib.hid (fun w' h => hA0.below (hb0.trans (h.mono hb0.size)))
  clear hA0
  have HC0 : Hid (Below w.heap.size w w) := Lib.hid (Below.refl _ _)
  have HW0 := Lib.hid hb0
  clear hb0
  go_enter Try.func12, Try.ntmps12
  have hsz := szRuleS_any l0 hs0 hm0 (1048576) w _ (by omega) (by omega) (HI0.out w HC0.out)
  unfold LeftPost at hsz
  rw [leftR_yes hn0] at hsz
  have hleft0 : ¬ 1048576 - ((l0.length + sumRRule l0 : Nat) : Int) < 0 := by omega
  go_wp2_with fail
  refine hsz.mono ?_
  rintro e u1 ⟨rfl, hb⟩
  clear hsz
  have s2 : w.heap.size ≤ u1.heap.size := hb.size
  have HC2 := Lib.hid (HC0.out.trans (hb.mono HC0.out.size))
  clear hb HC0
  have HZ : Hid (w.heap.size ≤ u1.heap.size) := Lib.hid HC2.out.size
  have hto := toRuleS_any l0 HF0.out HL0.out u1 _ (HI0.out u1 HC2.out)
  go_wp2_with fail
  refine hto.mono ?_
  rintro e w3 ⟨vv, SS, rfl, hL, _, hb⟩
  have hsp := areRules_spec l0 _ w3 (ownRRules_in hL) HL0.out HN0.out
  rw [HFL.out] at hsp
  have s4 : u1.heap.size ≤ w3.heap.size := hb.size
  have HC4 := Lib.hid (HC2.out.trans (hb.mono HC2.out.size))
  clear hto hb hL HC2
  go_wp2_with fail
  refine hsp.mono ?_
  rintro e w5 ⟨rfl, hb⟩
  have s6 : w3.heap.size ≤ w5.heap.size := hb.size
  have HC6 := Lib.hid (HC4.out.trans (hb.mono HC4.out.size))
  clear hb HC4
  clear hsp
  have hto := toRuleS_any l0 HF0.out HL0.out w5 _ (HI0.out w5 HC6.out)
  go_wp2_with fail
  refine hto.mono ?_
  rintro e w7 ⟨vX0, SX0, rfl, hL, hS, hb⟩
  have s8 : w5.heap.size ≤ w7.heap.size := hb.size
  have HC8 := Lib.hid (HC6.out.trans (hb.mono HC6.out.size))
  have HTX0 : Hid (∀ b ∈ SX0, w5.heap.size ≤ b ∧ b < w7.heap.size) := Lib.hid (fun b hb => ⟨hS b hb, hL.lt b hb⟩)
  have NX0 := Lib.hid hL
  clear hto hb hS HC6 hL
  have hsp := areRules_impl l0 _ w7 (ownRRules_in NX0.out) HL0.out HN0.out
  rw [HFL.out] at hsp
  go_wp2_with fail
  refine hsp.mono ?_
  rintro e w9 ⟨rfl, hb⟩
  have s10 : w7.heap.size ≤ w9.heap.size := hb.size
  have NX0_10 := Lib.hid (NX0.out.alike (w' := w9) fun bb hbb => hb.block bb (NX0.out.lt bb hbb))
  have HC10 := Lib.hid (HC8.out.trans (hb.mono HC8.out.size))
  clear hb NX0 HC8
  clear hsp
  have hto := toRuleS_any l0 HF0.out HL0.out w9 _ (HI0.out w9 HC10.out)
  go_wp2_with fail
  refine hto.mono ?_
  rintro e w11 ⟨vv, SS, rfl, hL, _, hb⟩
  have s12 : w9.heap.size ≤ w11.heap.size := hb.size
  have NX0_12 := Lib.hid (NX0_10.out.alike (w' := w11) fun bb hbb => hb.block bb (NX0_10.out.lt bb hbb))
  have HC12 := Lib.hid (HC10.out.trans (hb.mono HC10.out.size))
  have heq := eqRuleS_any l0 HF0.out HL0.out w11 _ _ (ownRRules_in NX0_12.out) (ownRRules_in hL)
  clear hto hb hL NX0_10 HC10
  go_wp2_with fail
  refine heq.mono ?_
  rintro e w13 ⟨rfl, hb⟩
  have s14 : w11.heap.size ≤ w13.heap.size := hb.size
  have NX0_14 := Lib.hid (NX0_12.out.alike (w' := w13) fun bb hbb => hb.block bb (NX0_12.out.lt bb hbb))
  have HC14 := Lib.hid (HC12.out.trans (hb.mono HC12.out.size))
  clear heq hb NX0_12 HC12
  have hfin := HW0.out.trans (HC14.out.mono HW0.out.size)
  go_wp2
  go_ret
  exact ⟨rfl, hfin⟩

theorem walk (w : World) (A0 : Option Addr) (c0 : Nat) (l0 : List RRule) (hA0 : RRulesIn w (.slice A0 l0.length c0) l0) (hs0 : ShortRRules l0) (hm0 : l0.length ≤ maxLen) :
    Calls Try.prog 12 #[.slice A0 l0.length c0] w fun e w' => e = .returned (.bool true) ∧ Below w.heap.size w w' := by
  by_cases hn0 : ((l0.length + sumRRule l0 : Nat) : Int) ≤ 1048576
  · skip
    exact walk_yes w A0 c0 l0 hA0 hs0 hm0 hn0
  · exact walk_no0 w A0 c0 l0 hA0 hs0 hm0 hn0

set_option maxRecDepth 100000 in
theorem lifted (os : Os) (started : os.Started) (H : Type) (enc : TypeId × Value → H) :
    ReturnsInHanded {} Try.checked os 12 .any (Rows.fnExactAreRulesSpec.pre6 enc Try.prog Try.f12 Rows.fnExactAreRulesRow.domain false) (Rows.fnExactAreRulesSpec.post enc Try.prog Try.f12 false true false false) := by
  refine returnsInHanded_of_change (C := Try.checked) own started (by kernel_rfl) Try.func12
    (ChangeSpec.witness6 (enc := enc) (C := Try.checked) false ⟨#[], #[.slice none 0 0], []⟩ 8 (by kernel_rfl) (by kernel_rfl) (by kernel_rfl) (by kernel_rfl)) ?_
  intro W base args ds gs before hval0 hW hcnd _
  have hval : ∀ (j : Nat) t v, Try.f12.params[j]? = some t → args[j]? = some v → Value.okWide Try.prog W .any base t v := hval0
  have hW' := hW
  obtain ⟨p, q, hA0, hV, rfl, hfz, hnd⟩ := hW
  have hA : DataW.TrodAll enc Try.prog W 0 (fun _ => true) true Try.f12.params.toList args.toList ds p := hA0
  rw [Try.params12] at hA hval
  obtain ⟨v0, vs0, d0, ds0, p0, q0, hargs, rfl, rfl, h0, r0⟩ := trodAll_cons hA
  obtain ⟨rfl, rfl, rfl⟩ := trodAll_nil r0
  obtain rfl : args = #[v0] := by cases args; simp_all
  obtain ⟨rfl, rfl⟩ := trodVars_none hV
  have k0 := h0
  have lt0 : ∀ x ∈ p0, x.block < W.heap.size := by obtain ⟨m, hm⟩ := k0; exact DataW.trod_lt m _ _ _ hm
  obtain ⟨A0, n0, c0, rfl⟩ := okWide_slice Try.underlying72 (hval 0 72 v0 rfl rfl)
  obtain ⟨l0, rfl, w0, s0, m0⟩ := open_rules h0
  clear hA0 hval0
  refine (walk W A0 c0 l0 w0 s0 m0).mono fun e W' ⟨he, bel⟩ => ?_
  subst he
  exact ⟨_, rfl, _, _, _, [], _, [], hW', trodAll_mk1 (shut_bool Try.underlying4 _), (trodAll_cons_mk (Below.trod laidOut (by kernel_rfl) (of_decide_eq_true (by kernel_rfl)) k0 bel lt0) trodAll_mk0), rfl, bel.frame _, fun h => by cases h⟩

theorem over : Rows.fnExactAreRulesRow.holds Try.pinned (OpenSpec.ofChange Rows.fnExactAreRulesSpec) :=
  OpenClaim.holds_of_wide 12 Try.f12 rfl rfl rfl rfl rfl rfl rfl ⟨rfl, rfl, rfl, rfl, rfl⟩ rfl rfl rfl rfl rfl (by kernel_rfl) Try.func12 (by kernel_rfl)
    (of_decide_eq_true (by kernel_rfl)) (by unfold Func.isWrapper; first | (rw [if_pos (by decide +kernel)]; kernel_rfl) | (rw [if_neg (by decide +kernel)]; exact ⟨rfl, rfl⟩))
    (fun os started H enc _ => lifted os started H enc)

theorem proved : Rows.FnExactAreRulesSaid := over
#print axioms proved
end Go.Proofs.Ytnomidnjglbedaa.fnExactAreRules
