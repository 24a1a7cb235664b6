/-
  The law FnExactInversePermutation returns true for every list of pairs: the program gives what gives back, and whether there is one, as the model does, in memory of its own, and leaves its argument as it was. No condition.
-/
import Derived.Test.YtddmoempagcjeaaBase
import Derived.Test.YtddmoempagcjeaaMark
import Derived.Test.YtddmoempagcjeaaArgs
import Derived.Test.YtddmoempagcjeaaInverse
import Derived.Test.YtddmoempagcjeaaOpen
namespace Go.Proofs.Ytddmoempagcjeaa.fnExactInversePermutation
open Go.ChangeShapes Go.WideShapes Go.ChangeAt Go.RowKit
set_option linter.unusedVariables false

set_option maxHeartbeats 2000000 in
theorem walk (w : World) (A0 : Option Addr) (c0 : Nat) (l0 : List (Int × Int)) (hA0 : PairsAt w A0 l0) (hm0 : l0.length ≤ maxLen) :
    Calls Try.prog 3 #[.slice A0 l0.length c0] w fun e w' => e = .returned (.bool true) ∧ Below w.heap.size w w' := by
  unfold maxLen at hm0
  by_cases hn : l0.length ≤ 1048576
  · go_enter Try.func3, Try.ntmps3
    go_wp2_with fail
    refine (sz_yes _ _ _ _ _ (by omega) (by omega) (by omega)).mono ?_
    rintro e w' ⟨rfl, rfl⟩
    have hleft : ¬ 1048576 - (l0.length : Int) < 0 := by omega
    have HLL : (invR l0).length ≤ l0.length := invR_len l0
    generalize hL : invR l0 = L at HLL
    have HL := Lib.hid hL
    clear hL
    generalize hF : permB l0 = fl
    have HFL := Lib.hid hF
    have hfl : (fl != fl) = false := by simp
    clear hF
    have hs0 : Below w.heap.size w w := Below.refl _ _
    go_wp2_with fail
    refine (toPairS_any A0 c0 l0 _ (hA0.below hs0) (by omega)).mono ?_
    rintro e w1 ⟨vs0, rfl, ons0, hb1⟩
    have szs0 : w.heap.size ≤ w.heap.size := hs0.size
    have hs1 := hs0.trans (hb1.mono hs0.size)
    clear hs0 hb1
    go_wp2_with fail
    refine (inverse_spec_own _ vs0 l0 _ ons0 (by omega)).mono ?_
    rw [HL.out]
    rw [HFL.out]
    rintro e w2 ⟨vW, rfl, onW, hb2⟩
    have szW : w.heap.size ≤ w1.heap.size := hs1.size
    have lts0W := Lib.hid (show ∀ k, vs0.ownBlock = some k → k < w1.heap.size from fun k hk => (ons0.lt k hk).2)
    have hs2 := hs1.trans (hb2.mono hs1.size)
    have os0_2 := own_below ons0 hb2
    clear hs1 ons0 hb2
    clear os0_2
    go_wp2_with fail
    refine (toPairS_any A0 c0 l0 _ (hA0.below hs2) (by omega)).mono ?_
    rintro e w3 ⟨vx0, rfl, onx0, hb3⟩
    have szx0 : w.heap.size ≤ w2.heap.size := hs2.size
    have ltWx0 := Lib.hid (show ∀ k, vW.ownBlock = some k → k < w2.heap.size from fun k hk => (onW.lt k hk).2)
    have hs3 := hs2.trans (hb3.mono hs2.size)
    have oW_3 := own_below onW hb3
    clear hs2 onW hb3
    go_wp2_with fail
    refine (inverse_impl_own _ vx0 l0 _ onx0 (by omega)).mono ?_
    rw [HL.out]
    rw [HFL.out]
    rintro e w4 ⟨vG, rfl, onG, hb4⟩
    have szG : w.heap.size ≤ w3.heap.size := hs3.size
    have ltWG := Lib.hid (show ∀ k, vW.ownBlock = some k → k < w3.heap.size from fun k hk => (oW_3.lt k hk).2)
    have ltx0G := Lib.hid (show ∀ k, vx0.ownBlock = some k → k < w3.heap.size from fun k hk => (onx0.lt k hk).2)
    have hs4 := hs3.trans (hb4.mono hs3.size)
    have oW_4 := own_below oW_3 hb4
    have ox0_4 := own_below onx0 hb4
    clear hs3 oW_3 onx0 hb4
    go_wp2_with fail
    refine (eqPairS_own _ _ vG vW L L _ onG oW_4 (by omega)).mono ?_
    rw [decide_eq_true (rfl : L = L)]
    rintro e w5 ⟨rfl, hb5⟩
    have hs5 := hs4.trans (hb5.mono hs4.size)
    have oW_5 := own_below oW_4 hb5
    have ox0_5 := own_below ox0_4 hb5
    have oG_5 := own_below onG hb5
    clear hs4 oW_4 ox0_4 onG hb5
    go_wp2_with fail
    refine (toPairS_any A0 c0 l0 _ (hA0.below hs5) (by omega)).mono ?_
    rintro e w6 ⟨vy0, rfl, ony0, hb6⟩
    have szy0 : w.heap.size ≤ w5.heap.size := hs5.size
    have ltWy0 := Lib.hid (show ∀ k, vW.ownBlock = some k → k < w5.heap.size from fun k hk => (oW_5.lt k hk).2)
    have ltx0y0 := Lib.hid (show ∀ k, vx0.ownBlock = some k → k < w5.heap.size from fun k hk => (ox0_5.lt k hk).2)
    have ltGy0 := Lib.hid (show ∀ k, vG.ownBlock = some k → k < w5.heap.size from fun k hk => (oG_5.lt k hk).2)
    have hs6 := hs5.trans (hb6.mono hs5.size)
    have oW_6 := own_below oW_5 hb6
    have ox0_6 := own_below ox0_5 hb6
    have oG_6 := own_below oG_5 hb6
    clear hs5 oW_5 ox0_5 oG_5 hb6
    go_wp2_with fail
    refine (eqPairS_own _ _ vx0 vy0 l0 l0 _ ox0_6 ony0 (by omega)).mono ?_
    rw [decide_eq_true (rfl : l0 = l0)]
    rintro e w7 ⟨rfl, hb7⟩
    have hs7 := hs6.trans (hb7.mono hs6.size)
    have oW_7 := own_below oW_6 hb7
    have ox0_7 := own_below ox0_6 hb7
    have oG_7 := own_below oG_6 hb7
    have oy0_7 := own_below ony0 hb7
    clear hs6 oW_6 ox0_6 oG_6 ony0 hb7
    clear oy0_7
    go_wp2_with fail
    refine (markPairS_own _ l0.length vx0 _ (1) _ ox0_7 (by omega) (by omega)).mono ?_
    rintro e w8 ⟨rfl, omx0_8, hg8⟩
    have hs8 : Below w.heap.size w w8 := below_own hs7 ox0_7 szx0 hs7.size hg8
    have oW_8 := own_newer oW_7 ox0_7 hg8 ltWx0.out
    have oG_8 := own_older oG_7 hg8 ltx0G.out
    clear hs7 oW_7 oG_7 ox0_7 hg8
    clear omx0_8
    have tk : 0 ≤ 1 + (l0.length : Int) * 2 := by omega
    go_wp2_with fail
    refine (eqPairS_own _ _ vG vW L L _ oG_8 oW_8 (by omega)).mono ?_
    rw [decide_eq_true (rfl : L = L)]
    rintro e w9 ⟨rfl, hb9⟩
    have hs9 := hs8.trans (hb9.mono hs8.size)
    have oW_9 := own_below oW_8 hb9
    have oG_9 := own_below oG_8 hb9
    clear hs8 oW_8 oG_8 hb9
    have tm : 0 ≤ 1 + (L.length : Int) * 2 := by omega
    have tq : (1 + (L.length : Int) * 2 != 1 + (L.length : Int) * 2) = false := by simp
    go_wp2_with fail
    refine (markPairS_own _ L.length vG _ 1 _ oG_9 (by omega) (by omega)).mono ?_
    rintro e w10 ⟨rfl, omG_10, hg10⟩
    have hs10 : Below w.heap.size w w10 := below_own hs9 oG_9 szG hs9.size hg10
    have oW_10 := own_newer oW_9 oG_9 hg10 ltWG.out
    clear hs9 oW_9 oG_9 hg10
    go_wp2_with fail
    refine (heldPairS_own _ L.length vG 1 _ omG_10 (by omega) (by omega)).mono ?_
    rintro e w' ⟨rfl, rfl⟩
    go_wp2_with fail
    refine (toPairS_any A0 c0 l0 _ (hA0.below hs10) (by omega)).mono ?_
    rintro e w12 ⟨vz0, rfl, onz0, hb12⟩
    have szz0 : w.heap.size ≤ w10.heap.size := hs10.size
    have ltWz0 := Lib.hid (show ∀ k, vW.ownBlock = some k → k < w10.heap.size from fun k hk => (oW_10.lt k hk).2)
    have ltGz0 := Lib.hid (show ∀ k, vG.ownBlock = some k → k < w10.heap.size from fun k hk => (omG_10.lt k hk).2)
    have hs12 := hs10.trans (hb12.mono hs10.size)
    have oW_12 := own_below oW_10 hb12
    have oG_12 := own_below omG_10 hb12
    clear hs10 oW_10 omG_10 hb12
    go_wp2_with fail
    refine (inverse_impl_own _ vz0 l0 _ onz0 (by omega)).mono ?_
    rw [HL.out]
    rw [HFL.out]
    rintro e w13 ⟨vH, rfl, onH, hb13⟩
    have szH : w.heap.size ≤ w12.heap.size := hs12.size
    have ltWH := Lib.hid (show ∀ k, vW.ownBlock = some k → k < w12.heap.size from fun k hk => (oW_12.lt k hk).2)
    have ltGH := Lib.hid (show ∀ k, vG.ownBlock = some k → k < w12.heap.size from fun k hk => (oG_12.lt k hk).2)
    have ltz0H := Lib.hid (show ∀ k, vz0.ownBlock = some k → k < w12.heap.size from fun k hk => (onz0.lt k hk).2)
    have hs13 := hs12.trans (hb13.mono hs12.size)
    have oW_13 := own_below oW_12 hb13
    have oG_13 := own_below oG_12 hb13
    have oz0_13 := own_below onz0 hb13
    clear hs12 oW_12 oG_12 onz0 hb13
    clear oz0_13
    go_wp2_with fail
    refine (eqPairS_own _ _ vH vW L L _ onH oW_13 (by omega)).mono ?_
    rw [decide_eq_true (rfl : L = L)]
    rintro e w14 ⟨rfl, hb14⟩
    have hs14 := hs13.trans (hb14.mono hs13.size)
    have oW_14 := own_below oW_13 hb14
    have oG_14 := own_below oG_13 hb14
    have oH_14 := own_below onH hb14
    clear hs13 oW_13 oG_13 onH hb14
    clear oH_14
    clear oW_14
    go_wp2_with fail
    refine (heldPairS_own _ L.length vG 1 _ oG_14 (by omega) (by omega)).mono ?_
    rintro e w' ⟨rfl, rfl⟩
    clear oG_14
    go_wp2_with fail
    go_ret
    exact ⟨rfl, hs14⟩
  · go_enter Try.func3, Try.ntmps3
    go_wp2_with fail
    refine (sz_no _ _ _ _ _ (by omega) (by omega) (by omega) (by omega)).mono ?_
    rintro e w' ⟨rfl, rfl⟩
    go_wp2
    go_ret
    exact ⟨rfl, Below.refl _ _⟩

set_option maxRecDepth 100000 in
theorem lifted (os : Os) (started : os.Started) (H : Type) (enc : TypeId × Value → H) :
    ReturnsInHanded {} Try.checked os 3 .any (Rows.fnExactInversePermutationSpec.pre6 enc Try.prog Try.f3 Rows.fnExactInversePermutationRow.domain false) (Rows.fnExactInversePermutationSpec.post enc Try.prog Try.f3 false true false false) := by
  refine returnsInHanded_of_change (C := Try.checked) own started (by kernel_rfl) Try.func3
    (ChangeSpec.witness6 (enc := enc) (C := Try.checked) false ⟨#[], #[.slice none 0 0], []⟩ 8 (by kernel_rfl) (by kernel_rfl) (by kernel_rfl) (by kernel_rfl)) ?_
  intro W base args ds gs before hval0 hW hcnd _
  have hval : ∀ (j : Nat) t v, Try.f3.params[j]? = some t → args[j]? = some v → Value.okWide Try.prog W .any base t v := hval0
  have hW' := hW
  obtain ⟨p, q, hA0, hV, rfl, hfz, hnd⟩ := hW
  have hA : DataW.TrodAll enc Try.prog W 0 (fun _ => true) true Try.f3.params.toList args.toList ds p := hA0
  rw [Try.params3] at hA hval
  obtain ⟨v0, vs0, d0, ds0, p0, q0, hargs, rfl, rfl, h0, r0⟩ := trodAll_cons hA
  obtain ⟨rfl, rfl, rfl⟩ := trodAll_nil r0
  obtain rfl : args = #[v0] := by cases args; simp_all
  obtain ⟨rfl, rfl⟩ := trodVars_none hV
  have k0 := h0
  have lt0 : ∀ x ∈ p0, x.block < W.heap.size := by obtain ⟨m, hm⟩ := k0; exact DataW.trod_lt m _ _ _ hm
  obtain ⟨A0, n0, c0, rfl⟩ := okWide_slice Try.underlying22 (hval 0 22 v0 rfl rfl)
  obtain ⟨l0, rfl, w0, m0⟩ := open_pairs h0
  clear hA0 hval0
  refine (walk W A0 c0 l0 w0 m0).mono fun e W' ⟨he, bel⟩ => ?_
  subst he
  exact ⟨_, rfl, _, _, _, [], _, [], hW', trodAll_mk1 (shut_bool Try.underlying4 _), (trodAll_cons_mk (Below.trod laidOut (by kernel_rfl) (of_decide_eq_true (by kernel_rfl)) k0 bel lt0) trodAll_mk0), rfl, bel.frame _, fun h => by cases h⟩

theorem over : Rows.fnExactInversePermutationRow.holds Try.pinned (OpenSpec.ofChange Rows.fnExactInversePermutationSpec) :=
  OpenClaim.holds_of_wide 3 Try.f3 rfl rfl rfl rfl rfl rfl rfl ⟨rfl, rfl, rfl, rfl, rfl⟩ rfl rfl rfl rfl rfl (by kernel_rfl) Try.func3 (by kernel_rfl)
    (of_decide_eq_true (by kernel_rfl)) (by unfold Func.isWrapper; first | (rw [if_pos (by decide +kernel)]; kernel_rfl) | (rw [if_neg (by decide +kernel)]; exact ⟨rfl, rfl⟩))
    (fun os started H enc _ => lifted os started H enc)

theorem proved : Rows.FnExactInversePermutationSaid := over
#print axioms proved
end Go.Proofs.Ytddmoempagcjeaa.fnExactInversePermutation
