/-
  The law FnExactHolesIn returns true for every value: the program gives the holes of a list of equations as the model does, in memory of its own, and leaves its argument as it was. No condition.
-/
import Derived.Test.YtnomidnjglbedaaKHolesIn8
import Derived.Test.YtnomidnjglbedaaKHolesIn10
import Derived.Test.YtnomidnjglbedaaKHolesIn9
import Derived.Test.YtnomidnjglbedaaKHolesIn6
import Derived.Test.YtnomidnjglbedaaKHolesIn3
import Derived.Test.YtnomidnjglbedaaKHolesIn11
import Derived.Test.YtnomidnjglbedaaKHolesIn19
import Derived.Test.YtnomidnjglbedaaKHolesIn7
namespace Go.Proofs.Ytnomidnjglbedaa.fnExactHolesIn
open Go.ChangeShapes Go.WideShapes Go.ChangeAt Go.RowKit
set_option linter.unusedVariables false

namespace Args4
theorem box_lt {w : World} {g : Nat} {o : Obj} (h : w.heap[g]? = some o) : g < w.heap.size := (Array.getElem?_eq_some_iff.1 h).1
theorem row4 {w : World} {g : Nat} {a b c d : Value} {T : TypeId} (h : w.heap[g]? = some (.cells #[a, b, c, d] T (0, 0))) : w.cell? ⟨g, 0, none⟩ = some a ∧ w.cell? ⟨g, 1, none⟩ = some b ∧ w.cell? ⟨g, 2, none⟩ = some c ∧ w.cell? ⟨g, 3, none⟩ = some d := by
  refine ⟨?_, ?_, ?_, ?_⟩ <;> rw [cell_of_row w g _ _ _ _ h] <;> rfl
end Args4
theorem pairsAt_of {w : World} {base n : Nat} {e : TypeId} {B : Option Addr} {d : Nat} {l : List (Int × Int)} (h : w.ownsRow base e 2 (.slice B n d) l.length (cellsOf l)) : PairsAt w B l := by
  obtain ⟨A, c, ee, hp⟩ := own_pairsAt h
  injection ee with e1 e2 e3
  subst e1
  exact hp

set_option maxRecDepth 100000 in
set_option maxHeartbeats 16000000 in
theorem walk_no0 (w : World) (A0 : Option Addr) (c0 : Nat) (l0 : List REquation) (hA0 : REquationsIn w (.slice A0 l0.length c0) l0) (hs0 : ShortREquations l0) (hm0 : l0.length ≤ maxLen) (hn0 : ¬ ((l0.length + sumREquation l0 : Nat) : Int) ≤ 1048576) :
    Calls Try.prog 9 #[.slice A0 l0.length c0] w fun e w' => e = .returned (.bool true) ∧ Below w.heap.size w w' := by
  have hb0 : Below w.heap.size w w := (Below.refl _ w)
  have HI0 : Hid (∀ w' : World, Below w.heap.size w w' → REquationsIn w' (.slice A0 l0.length c0) l0) := Lib.hid (fun w' h => hA0.below (hb0.trans (h.mono hb0.size)))
  clear hA0
  have HC0 : Hid (Below w.heap.size w w) := Lib.hid (Below.refl _ _)
  have HW0 := Lib.hid hb0
  clear hb0
  go_enter Try.func9, Try.ntmps9
  have hsz := szEquationS_any l0 hs0 hm0 (1048576) w _ (by omega) (by omega) (HI0.out w HC0.out)
  unfold LeftPost at hsz
  rw [leftR_no (by omega)] at hsz
  go_wp2_with fail
  refine hsz.mono ?_
  rintro e u1 ⟨rfl, hb⟩
  clear hsz
  have s2 : w.heap.size ≤ u1.heap.size := hb.size
  have HC2 := Lib.hid (HC0.out.trans (hb.mono HC0.out.size))
  clear hb HC0
  have hfin := HW0.out.trans (HC2.out.mono HW0.out.size)
  go_wp2
  go_ret
  exact ⟨rfl, hfin⟩

set_option maxRecDepth 100000 in
set_option maxHeartbeats 16000000 in
theorem walk_yes (w : World) (A0 : Option Addr) (c0 : Nat) (l0 : List REquation) (hA0 : REquationsIn w (.slice A0 l0.length c0) l0) (hs0 : ShortREquations l0) (hm0 : l0.length ≤ maxLen) (hn0 : ((l0.length + sumREquation l0 : Nat) : Int) ≤ 1048576) :
    Calls Try.prog 9 #[.slice A0 l0.length c0] w fun e w' => e = .returned (.bool true) ∧ Below w.heap.size w w' := by
  have HL0 : Hid (l0.length ≤ 1048576) := Lib.hid (by omega)
  have HN0 : Hid (∀ k, k < l0.length → cntREquation (atREquation l0 k) ≤ 1048576) := Lib.hid (fun k hk => by have := cntREquation_le hk; omega)
  have HF0 : Hid (FitREquations l0) := Lib.hid (fun k hk => ⟨fit_of _ (by have h := HN0.out k hk; unfold cntREquation at h; omega), fit_of _ (by have h := HN0.out k hk; unfold cntREquation at h; omega)⟩)
  have hLL : (holesE l0).length ≤ 2097152 := by have := holesE_len l0; omega
  generalize hL : holesE l0 = L at hLL
  have HL := Lib.hid hL
  clear hL
  have hb0 : Below w.heap.size w w := (Below.refl _ w)
  have HI0 : Hid (∀ w' : World, Below w.heap.size w w' → REquationsIn w' (.slice A0 l0.length c0) l0) := Lib.hid (fun w' h => hA0.below (hb0.trans (h.mono hb0.size)))
  clear hA0
  have HC0 : Hid (Below w.heap.size w w) := Lib.hid (Below.refl _ _)
  have HW0 := Lib.hid hb0
  clear hb0
  go_enter Try.func9, Try.ntmps9
  have hsz := szEquationS_any l0 hs0 hm0 (1048576) w _ (by omega) (by omega) (HI0.out w HC0.out)
  unfold LeftPost at hsz
  rw [leftR_yes hn0] at hsz
  have hleft0 : ¬ 1048576 - ((l0.length + sumREquation l0 : Nat) : Int) < 0 := by omega
  go_wp2_with fail
  refine hsz.mono ?_
  rintro e u1 ⟨rfl, hb⟩
  clear hsz
  have s2 : w.heap.size ≤ u1.heap.size := hb.size
  have HC2 := Lib.hid (HC0.out.trans (hb.mono HC0.out.size))
  clear hb HC0
  have HZ : Hid (w.heap.size ≤ u1.heap.size) := Lib.hid HC2.out.size
  have hto := toEquationS_any l0 HF0.out HL0.out u1 _ (HI0.out u1 HC2.out)
  go_wp2_with fail
  refine hto.mono ?_
  rintro e w3 ⟨vv, SS, rfl, hL, _, hb⟩
  have hsp := holesIn_spec l0 _ w3 (ownREquations_in hL) HL0.out HN0.out
  rw [HL.out] at hsp
  have s4 : u1.heap.size ≤ w3.heap.size := hb.size
  have HC4 := Lib.hid (HC2.out.trans (hb.mono HC2.out.size))
  clear hto hb hL HC2
  go_wp2_with fail
  refine hsp.mono ?_
  rintro e w5 ⟨vW, rfl, oW, hb⟩
  have s6 : w3.heap.size ≤ w5.heap.size := hb.size
  have HC6 := Lib.hid (HC4.out.trans (hb.mono HC4.out.size))
  have HRW := Lib.hid (show ∀ k, (vW : Value).ownBlock = some k → w3.heap.size ≤ k ∧ k < w5.heap.size from fun k hk => oW.lt k hk)
  have QW := Lib.hid oW
  clear hb HC4 oW
  clear hsp
  have hto := toEquationS_any l0 HF0.out HL0.out w5 _ (HI0.out w5 HC6.out)
  go_wp2_with fail
  refine hto.mono ?_
  rintro e w7 ⟨vX0, SX0, rfl, hL, hS, hb⟩
  have s8 : w5.heap.size ≤ w7.heap.size := hb.size
  have QW_8 := Lib.hid (own_below QW.out hb)
  have HC8 := Lib.hid (HC6.out.trans (hb.mono HC6.out.size))
  have HTX0 : Hid (∀ b ∈ SX0, w5.heap.size ≤ b ∧ b < w7.heap.size) := Lib.hid (fun b hb => ⟨hS b hb, hL.lt b hb⟩)
  have NX0 := Lib.hid hL
  clear hto hb hS QW HC6 hL
  have hsp := holesIn_impl l0 _ w7 (ownREquations_in NX0.out) HL0.out HN0.out
  rw [HL.out] at hsp
  go_wp2_with fail
  refine hsp.mono ?_
  rintro e w9 ⟨vG, rfl, oG, hb⟩
  have s10 : w7.heap.size ≤ w9.heap.size := hb.size
  have NX0_10 := Lib.hid (NX0.out.alike (w' := w9) fun bb hbb => hb.block bb (NX0.out.lt bb hbb))
  have QW_10 := Lib.hid (own_below QW_8.out hb)
  have HC10 := Lib.hid (HC8.out.trans (hb.mono HC8.out.size))
  have HRG := Lib.hid (show ∀ k, (vG : Value).ownBlock = some k → w7.heap.size ≤ k ∧ k < w9.heap.size from fun k hk => oG.lt k hk)
  have QG := Lib.hid oG
  clear hb NX0 QW_8 HC8 oG
  clear hsp
  have heq := eqIntS_own _ _ _ _ L L w9 QG.out QW_10.out (by omega)
  rw [decide_eq_true (rfl : L = L)] at heq
  go_wp2_with fail
  refine heq.mono ?_
  rintro e w11 ⟨rfl, hb⟩
  have s12 : w9.heap.size ≤ w11.heap.size := hb.size
  have NX0_12 := Lib.hid (NX0_10.out.alike (w' := w11) fun bb hbb => hb.block bb (NX0_10.out.lt bb hbb))
  have QW_12 := Lib.hid (own_below QW_10.out hb)
  have QG_12 := Lib.hid (own_below QG.out hb)
  have HC12 := Lib.hid (HC10.out.trans (hb.mono HC10.out.size))
  clear heq hb NX0_10 QW_10 QG HC10
  have hto := toEquationS_any l0 HF0.out HL0.out w11 _ (HI0.out w11 HC12.out)
  go_wp2_with fail
  refine hto.mono ?_
  rintro e w13 ⟨vv, SS, rfl, hL, _, hb⟩
  have s14 : w11.heap.size ≤ w13.heap.size := hb.size
  have NX0_14 := Lib.hid (NX0_12.out.alike (w' := w13) fun bb hbb => hb.block bb (NX0_12.out.lt bb hbb))
  have QW_14 := Lib.hid (own_below QW_12.out hb)
  have QG_14 := Lib.hid (own_below QG_12.out hb)
  have HC14 := Lib.hid (HC12.out.trans (hb.mono HC12.out.size))
  have heq := eqEquationS_any l0 HF0.out HL0.out w13 _ _ (ownREquations_in NX0_14.out) (ownREquations_in hL)
  clear hto hb hL NX0_12 QW_12 QG_12 HC12
  go_wp2_with fail
  refine heq.mono ?_
  rintro e w15 ⟨rfl, hb⟩
  have s16 : w13.heap.size ≤ w15.heap.size := hb.size
  have NX0_16 := Lib.hid (NX0_14.out.alike (w' := w15) fun bb hbb => hb.block bb (NX0_14.out.lt bb hbb))
  have QW_16 := Lib.hid (own_below QW_14.out hb)
  have QG_16 := Lib.hid (own_below QG_14.out hb)
  have HC16 := Lib.hid (HC14.out.trans (hb.mono HC14.out.size))
  clear heq hb NX0_14 QW_14 QG_14 HC14
  have hml0 := mcREquations_le l0
  have hmk := markEquationS_any l0 HL0.out HF0.out SX0 vX0 (1) w15 (by omega) (by omega) NX0_16.out
  go_wp2_with fail
  (with_reducible refine hmk.mono ?_)
  rintro e w17 ⟨rfl, _, hon⟩
  have s18 : w15.heap.size ≤ w17.heap.size := hon.size
  have QW_18 := Lib.hid (own_only QW_16.out hon (fun k e hm => by have h1 := HTX0.out _ hm; have h2 := HRW.out _ e; omega))
  have QG_18 := Lib.hid (own_only QG_16.out hon (fun k e hm => by have h1 := HTX0.out _ hm; have h2 := HRG.out _ e; omega))
  have HC18 := Lib.hid (Only.below HC16.out hon HC16.out.size (fun b hb => by have := HTX0.out _ hb; have := HZ.out; omega))
  clear hmk hon NX0_16 QW_16 QG_16 HC16
  have tk : ¬ 1 + (mcREquations l0 : Int) < 0 := by omega
  have heq := eqIntS_own _ _ _ _ L L w17 QG_18.out QW_18.out (by omega)
  rw [decide_eq_true (rfl : L = L)] at heq
  go_wp2_with fail
  refine heq.mono ?_
  rintro e w19 ⟨rfl, hb⟩
  have s20 : w17.heap.size ≤ w19.heap.size := hb.size
  have QW_20 := Lib.hid (own_below QW_18.out hb)
  have QG_20 := Lib.hid (own_below QG_18.out hb)
  have HC20 := Lib.hid (HC18.out.trans (hb.mono HC18.out.size))
  clear heq hb QW_18 QG_18 HC18
  have hmi := markIntS_own _ L.length vG _ 1 w19 QG_20.out (by omega) (by omega)
  go_wp2_with fail
  refine hmi.mono ?_
  rintro e w21 ⟨rfl, om, hg⟩
  have hon : Only vG.ownBlock.toList w19 w21 := Only.of_grown hg (fun b e => by rw [e]; simp)
  have HTG : Hid (∀ b ∈ vG.ownBlock.toList, _ ∧ _) := Lib.hid (fun b hb => HRG.out b (by simpa using hb))
  have s22 : w19.heap.size ≤ w21.heap.size := hon.size
  have QW_22 := Lib.hid (own_only QW_20.out hon (fun k e hm => by have h1 := HTG.out _ hm; have h2 := HRW.out _ e; omega))
  have HC22 := Lib.hid (Only.below HC20.out hon HC20.out.size (fun b hb => by have := HTG.out _ hb; have := HZ.out; omega))
  have QM := Lib.hid om
  clear hmi hg hon om QG_20 QW_20 HC20
  have tm : ¬ 1 + (L.length : Int) < 0 := by omega
  have tq : (1 + (L.length : Int) != 1 + (L.length : Int)) = false := by simp
  have hhi := heldIntS_own _ L.length vG 1 w21 QM.out (by omega) (by omega)
  go_wp2_with fail
  refine hhi.mono ?_
  rintro e w' ⟨rfl, rfl⟩
  clear hhi
  have hto := toEquationS_any l0 HF0.out HL0.out w21 _ (HI0.out w21 HC22.out)
  go_wp2_with fail
  refine hto.mono ?_
  rintro e w23 ⟨vv, SS, rfl, hL, _, hb⟩
  have hsp := holesIn_impl l0 _ w23 (ownREquations_in hL) HL0.out HN0.out
  rw [HL.out] at hsp
  have s24 : w21.heap.size ≤ w23.heap.size := hb.size
  have QW_24 := Lib.hid (own_below QW_22.out hb)
  have QM_24 := Lib.hid (own_below QM.out hb)
  have HC24 := Lib.hid (HC22.out.trans (hb.mono HC22.out.size))
  clear hto hb hL QW_22 QM HC22
  go_wp2_with fail
  refine hsp.mono ?_
  rintro e w25 ⟨vH, rfl, oH, hb⟩
  have s26 : w23.heap.size ≤ w25.heap.size := hb.size
  have QW_26 := Lib.hid (own_below QW_24.out hb)
  have QM_26 := Lib.hid (own_below QM_24.out hb)
  have HC26 := Lib.hid (HC24.out.trans (hb.mono HC24.out.size))
  have HRH := Lib.hid (show ∀ k, (vH : Value).ownBlock = some k → w23.heap.size ≤ k ∧ k < w25.heap.size from fun k hk => oH.lt k hk)
  have QH := Lib.hid oH
  clear hb QW_24 QM_24 HC24 oH
  clear hsp
  have heq := eqIntS_own _ _ _ _ L L w25 QH.out QW_26.out (by omega)
  rw [decide_eq_true (rfl : L = L)] at heq
  go_wp2_with fail
  refine heq.mono ?_
  rintro e w27 ⟨rfl, hb⟩
  have s28 : w25.heap.size ≤ w27.heap.size := hb.size
  have QW_28 := Lib.hid (own_below QW_26.out hb)
  have QM_28 := Lib.hid (own_below QM_26.out hb)
  have QH_28 := Lib.hid (own_below QH.out hb)
  have HC28 := Lib.hid (HC26.out.trans (hb.mono HC26.out.size))
  clear heq hb QW_26 QM_26 QH HC26
  have hhi := heldIntS_own _ L.length vG 1 w27 QM_28.out (by omega) (by omega)
  go_wp2_with fail
  refine hhi.mono ?_
  rintro e w' ⟨rfl, rfl⟩
  clear hhi
  have hfin := HW0.out.trans (HC28.out.mono HW0.out.size)
  go_wp2
  go_ret
  exact ⟨rfl, hfin⟩

theorem walk (w : World) (A0 : Option Addr) (c0 : Nat) (l0 : List REquation) (hA0 : REquationsIn w (.slice A0 l0.length c0) l0) (hs0 : ShortREquations l0) (hm0 : l0.length ≤ maxLen) :
    Calls Try.prog 9 #[.slice A0 l0.length c0] w fun e w' => e = .returned (.bool true) ∧ Below w.heap.size w w' := by
  by_cases hn0 : ((l0.length + sumREquation l0 : Nat) : Int) ≤ 1048576
  · skip
    exact walk_yes w A0 c0 l0 hA0 hs0 hm0 hn0
  · exact walk_no0 w A0 c0 l0 hA0 hs0 hm0 hn0

set_option maxRecDepth 100000 in
theorem lifted (os : Os) (started : os.Started) (H : Type) (enc : TypeId × Value → H) :
    ReturnsInHanded {} Try.checked os 9 .any (Rows.fnExactHolesInSpec.pre6 enc Try.prog Try.f9 Rows.fnExactHolesInRow.domain false) (Rows.fnExactHolesInSpec.post enc Try.prog Try.f9 false true false false) := by
  refine returnsInHanded_of_change (C := Try.checked) own started (by kernel_rfl) Try.func9
    (ChangeSpec.witness6 (enc := enc) (C := Try.checked) false ⟨#[], #[.slice none 0 0], []⟩ 8 (by kernel_rfl) (by kernel_rfl) (by kernel_rfl) (by kernel_rfl)) ?_
  intro W base args ds gs before hval0 hW hcnd _
  have hval : ∀ (j : Nat) t v, Try.f9.params[j]? = some t → args[j]? = some v → Value.okWide Try.prog W .any base t v := hval0
  have hW' := hW
  obtain ⟨p, q, hA0, hV, rfl, hfz, hnd⟩ := hW
  have hA : DataW.TrodAll enc Try.prog W 0 (fun _ => true) true Try.f9.params.toList args.toList ds p := hA0
  rw [Try.params9] at hA hval
  obtain ⟨v0, vs0, d0, ds0, p0, q0, hargs, rfl, rfl, h0, r0⟩ := trodAll_cons hA
  obtain ⟨rfl, rfl, rfl⟩ := trodAll_nil r0
  obtain rfl : args = #[v0] := by cases args; simp_all
  obtain ⟨rfl, rfl⟩ := trodVars_none hV
  have k0 := h0
  have lt0 : ∀ x ∈ p0, x.block < W.heap.size := by obtain ⟨m, hm⟩ := k0; exact DataW.trod_lt m _ _ _ hm
  obtain ⟨A0, n0, c0, rfl⟩ := okWide_slice Try.underlying48 (hval 0 48 v0 rfl rfl)
  obtain ⟨l0, rfl, w0, s0, m0⟩ := open_equations h0
  clear hA0 hval0
  refine (walk W A0 c0 l0 w0 s0 m0).mono fun e W' ⟨he, bel⟩ => ?_
  subst he
  exact ⟨_, rfl, _, _, _, [], _, [], hW', trodAll_mk1 (shut_bool Try.underlying4 _), (trodAll_cons_mk (Below.trod laidOut (by kernel_rfl) (of_decide_eq_true (by kernel_rfl)) k0 bel lt0) trodAll_mk0), rfl, bel.frame _, fun h => by cases h⟩

theorem over : Rows.fnExactHolesInRow.holds Try.pinned (OpenSpec.ofChange Rows.fnExactHolesInSpec) :=
  OpenClaim.holds_of_wide 9 Try.f9 rfl rfl rfl rfl rfl rfl rfl ⟨rfl, rfl, rfl, rfl, rfl⟩ rfl rfl rfl rfl rfl (by kernel_rfl) Try.func9 (by kernel_rfl)
    (of_decide_eq_true (by kernel_rfl)) (by unfold Func.isWrapper; first | (rw [if_pos (by decide +kernel)]; kernel_rfl) | (rw [if_neg (by decide +kernel)]; exact ⟨rfl, rfl⟩))
    (fun os started H enc _ => lifted os started H enc)

theorem proved : Rows.FnExactHolesInSaid := over
#print axioms proved
end Go.Proofs.Ytnomidnjglbedaa.fnExactHolesIn
