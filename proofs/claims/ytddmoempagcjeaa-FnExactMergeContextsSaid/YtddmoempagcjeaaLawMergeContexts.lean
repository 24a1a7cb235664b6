/-
  The law FnExactMergeContexts returns true for every two lists of elements: the program gives the context with the elements of both, and whether there is one, as the model does, in memory of its own, and leaves its arguments as they were. No condition.
-/
import Derived.Test.YtddmoempagcjeaaFrs
import Derived.Test.YtddmoempagcjeaaMarkF
import Derived.Test.YtddmoempagcjeaaArgs
import Derived.Test.YtddmoempagcjeaaMergeS
import Derived.Test.YtddmoempagcjeaaOpenF
namespace Go.Proofs.Ytddmoempagcjeaa.fnExactMergeContexts
open Go.ChangeShapes Go.WideShapes Go.ChangeAt Go.RowKit
set_option linter.unusedVariables false

set_option maxHeartbeats 4000000 in
theorem walk (w : World) (A0 : Option Addr) (c0 : Nat) (l0 : List (Int × Int)) (hA0 : PairsAt w A0 l0) (hm0 : l0.length ≤ maxLen) (A1 : Option Addr) (c1 : Nat) (l1 : List (Int × Int)) (hA1 : PairsAt w A1 l1) (hm1 : l1.length ≤ maxLen) :
    Calls Try.prog 8 #[.slice A0 l0.length c0, .slice A1 l1.length c1] w fun e w' => e = .returned (.bool true) ∧ Below w.heap.size w w' := by
  unfold maxLen at hm0 hm1
  by_cases hn0 : l0.length ≤ 1048576
  · by_cases hn1 : l0.length + l1.length ≤ 1048576
    · go_enter Try.func8, Try.ntmps8
      go_wp2_with fail
      refine (szF_yes _ _ _ _ _ (by omega) (by omega) (by omega)).mono ?_
      rintro e w' ⟨rfl, rfl⟩
      have hleft : ¬ 1048576 - (l0.length : Int) < 0 := by omega
      go_wp2_with fail
      refine (szF_yes _ _ _ _ _ (by omega) (by omega) (by omega)).mono ?_
      rintro e w' ⟨rfl, rfl⟩
      have hleft1 : ¬ 1048576 - (l0.length : Int) - (l1.length : Int) < 0 := by omega
      have HLL : (mergeL l0 l1).length ≤ l0.length + l1.length := mergeL_len l0 l1
      generalize hL : mergeL l0 l1 = L at HLL
      have HL := Lib.hid hL
      clear hL
      generalize hF : mergeB l0 l1 = fl
      have HFL := Lib.hid hF
      have hfl : (fl != fl) = false := by simp
      clear hF
      have hs0 : Below w.heap.size w w := Below.refl _ _
      go_wp2_with fail
      refine (toFreshS_any A0 c0 l0 _ (hA0.below hs0) (by omega)).mono ?_
      rintro e w1 ⟨vs0, rfl, ons0, hb1⟩
      have szs0 : w.heap.size ≤ w.heap.size := hs0.size
      have hs1 := hs0.trans (hb1.mono hs0.size)
      clear hs0 hb1
      go_wp2_with fail
      refine (toFreshS_any A1 c1 l1 _ (hA1.below hs1) (by omega)).mono ?_
      rintro e w2 ⟨vs1, rfl, ons1, hb2⟩
      have szs1 : w.heap.size ≤ w1.heap.size := hs1.size
      have lts0s1 := Lib.hid (show ∀ k, vs0.ownBlock = some k → k < w1.heap.size from fun k hk => (ons0.lt k hk).2)
      have hs2 := hs1.trans (hb2.mono hs1.size)
      have os0_2 := own_below ons0 hb2
      clear hs1 ons0 hb2
      go_wp2_with fail
      refine (merge_spec_own _ _ vs0 vs1 l0 l1 _ os0_2 ons1 (by omega) (by omega)).mono ?_
      rw [HL.out]
      rw [HFL.out]
      rintro e w3 ⟨vW, rfl, onW, hb3⟩
      have szW : w.heap.size ≤ w2.heap.size := hs2.size
      have lts0W := Lib.hid (show ∀ k, vs0.ownBlock = some k → k < w2.heap.size from fun k hk => (os0_2.lt k hk).2)
      have lts1W := Lib.hid (show ∀ k, vs1.ownBlock = some k → k < w2.heap.size from fun k hk => (ons1.lt k hk).2)
      have hs3 := hs2.trans (hb3.mono hs2.size)
      have os0_3 := own_below os0_2 hb3
      have os1_3 := own_below ons1 hb3
      clear hs2 os0_2 ons1 hb3
      clear os0_3
      clear os1_3
      go_wp2_with fail
      refine (toFreshS_any A0 c0 l0 _ (hA0.below hs3) (by omega)).mono ?_
      rintro e w4 ⟨vx0, rfl, onx0, hb4⟩
      have szx0 : w.heap.size ≤ w3.heap.size := hs3.size
      have ltWx0 := Lib.hid (show ∀ k, vW.ownBlock = some k → k < w3.heap.size from fun k hk => (onW.lt k hk).2)
      have hs4 := hs3.trans (hb4.mono hs3.size)
      have oW_4 := own_below onW hb4
      clear hs3 onW hb4
      go_wp2_with fail
      refine (toFreshS_any A1 c1 l1 _ (hA1.below hs4) (by omega)).mono ?_
      rintro e w5 ⟨vx1, rfl, onx1, hb5⟩
      have szx1 : w.heap.size ≤ w4.heap.size := hs4.size
      have ltWx1 := Lib.hid (show ∀ k, vW.ownBlock = some k → k < w4.heap.size from fun k hk => (oW_4.lt k hk).2)
      have ltx0x1 := Lib.hid (show ∀ k, vx0.ownBlock = some k → k < w4.heap.size from fun k hk => (onx0.lt k hk).2)
      have hs5 := hs4.trans (hb5.mono hs4.size)
      have oW_5 := own_below oW_4 hb5
      have ox0_5 := own_below onx0 hb5
      clear hs4 oW_4 onx0 hb5
      go_wp2_with fail
      refine (merge_impl_own _ _ vx0 vx1 l0 l1 _ ox0_5 onx1 (by omega) (by omega)).mono ?_
      rw [HL.out]
      rw [HFL.out]
      rintro e w6 ⟨vG, rfl, onG, hb6⟩
      have szG : w.heap.size ≤ w5.heap.size := hs5.size
      have ltWG := Lib.hid (show ∀ k, vW.ownBlock = some k → k < w5.heap.size from fun k hk => (oW_5.lt k hk).2)
      have ltx0G := Lib.hid (show ∀ k, vx0.ownBlock = some k → k < w5.heap.size from fun k hk => (ox0_5.lt k hk).2)
      have ltx1G := Lib.hid (show ∀ k, vx1.ownBlock = some k → k < w5.heap.size from fun k hk => (onx1.lt k hk).2)
      have hs6 := hs5.trans (hb6.mono hs5.size)
      have oW_6 := own_below oW_5 hb6
      have ox0_6 := own_below ox0_5 hb6
      have ox1_6 := own_below onx1 hb6
      clear hs5 oW_5 ox0_5 onx1 hb6
      go_wp2_with fail
      refine (eqFreshS_own _ _ vG vW L L _ onG oW_6 (by omega)).mono ?_
      rw [decide_eq_true (rfl : L = L)]
      rintro e w7 ⟨rfl, hb7⟩
      have hs7 := hs6.trans (hb7.mono hs6.size)
      have oW_7 := own_below oW_6 hb7
      have ox0_7 := own_below ox0_6 hb7
      have ox1_7 := own_below ox1_6 hb7
      have oG_7 := own_below onG hb7
      clear hs6 oW_6 ox0_6 ox1_6 onG hb7
      go_wp2_with fail
      refine (toFreshS_any A0 c0 l0 _ (hA0.below hs7) (by omega)).mono ?_
      rintro e w8 ⟨vy0, rfl, ony0, hb8⟩
      have szy0 : w.heap.size ≤ w7.heap.size := hs7.size
      have ltWy0 := Lib.hid (show ∀ k, vW.ownBlock = some k → k < w7.heap.size from fun k hk => (oW_7.lt k hk).2)
      have ltx0y0 := Lib.hid (show ∀ k, vx0.ownBlock = some k → k < w7.heap.size from fun k hk => (ox0_7.lt k hk).2)
      have ltx1y0 := Lib.hid (show ∀ k, vx1.ownBlock = some k → k < w7.heap.size from fun k hk => (ox1_7.lt k hk).2)
      have ltGy0 := Lib.hid (show ∀ k, vG.ownBlock = some k → k < w7.heap.size from fun k hk => (oG_7.lt k hk).2)
      have hs8 := hs7.trans (hb8.mono hs7.size)
      have oW_8 := own_below oW_7 hb8
      have ox0_8 := own_below ox0_7 hb8
      have ox1_8 := own_below ox1_7 hb8
      have oG_8 := own_below oG_7 hb8
      clear hs7 oW_7 ox0_7 ox1_7 oG_7 hb8
      go_wp2_with fail
      refine (eqFreshS_own _ _ vx0 vy0 l0 l0 _ ox0_8 ony0 (by omega)).mono ?_
      rw [decide_eq_true (rfl : l0 = l0)]
      rintro e w9 ⟨rfl, hb9⟩
      have hs9 := hs8.trans (hb9.mono hs8.size)
      have oW_9 := own_below oW_8 hb9
      have ox0_9 := own_below ox0_8 hb9
      have ox1_9 := own_below ox1_8 hb9
      have oG_9 := own_below oG_8 hb9
      have oy0_9 := own_below ony0 hb9
      clear hs8 oW_8 ox0_8 ox1_8 oG_8 ony0 hb9
      clear oy0_9
      go_wp2_with fail
      refine (toFreshS_any A1 c1 l1 _ (hA1.below hs9) (by omega)).mono ?_
      rintro e w10 ⟨vy1, rfl, ony1, hb10⟩
      have szy1 : w.heap.size ≤ w9.heap.size := hs9.size
      have ltWy1 := Lib.hid (show ∀ k, vW.ownBlock = some k → k < w9.heap.size from fun k hk => (oW_9.lt k hk).2)
      have ltx0y1 := Lib.hid (show ∀ k, vx0.ownBlock = some k → k < w9.heap.size from fun k hk => (ox0_9.lt k hk).2)
      have ltx1y1 := Lib.hid (show ∀ k, vx1.ownBlock = some k → k < w9.heap.size from fun k hk => (ox1_9.lt k hk).2)
      have ltGy1 := Lib.hid (show ∀ k, vG.ownBlock = some k → k < w9.heap.size from fun k hk => (oG_9.lt k hk).2)
      have hs10 := hs9.trans (hb10.mono hs9.size)
      have oW_10 := own_below oW_9 hb10
      have ox0_10 := own_below ox0_9 hb10
      have ox1_10 := own_below ox1_9 hb10
      have oG_10 := own_below oG_9 hb10
      clear hs9 oW_9 ox0_9 ox1_9 oG_9 hb10
      go_wp2_with fail
      refine (eqFreshS_own _ _ vx1 vy1 l1 l1 _ ox1_10 ony1 (by omega)).mono ?_
      rw [decide_eq_true (rfl : l1 = l1)]
      rintro e w11 ⟨rfl, hb11⟩
      have hs11 := hs10.trans (hb11.mono hs10.size)
      have oW_11 := own_below oW_10 hb11
      have ox0_11 := own_below ox0_10 hb11
      have ox1_11 := own_below ox1_10 hb11
      have oG_11 := own_below oG_10 hb11
      have oy1_11 := own_below ony1 hb11
      clear hs10 oW_10 ox0_10 ox1_10 oG_10 ony1 hb11
      clear oy1_11
      go_wp2_with fail
      refine (markFreshS_own _ l0.length vx0 _ (1) _ ox0_11 (by omega) (by omega)).mono ?_
      rintro e w12 ⟨rfl, omx0_12, hg12⟩
      have hs12 : Below w.heap.size w w12 := below_own hs11 ox0_11 szx0 hs11.size hg12
      have oW_12 := own_newer oW_11 ox0_11 hg12 ltWx0.out
      have ox1_12 := own_older ox1_11 hg12 ltx0x1.out
      have oG_12 := own_older oG_11 hg12 ltx0G.out
      clear hs11 oW_11 ox1_11 oG_11 ox0_11 hg12
      clear omx0_12
      go_wp2_with fail
      refine (markFreshS_own _ l1.length vx1 _ (1 + (l0.length : Int) * 2) _ ox1_12 (by omega) (by omega)).mono ?_
      rintro e w13 ⟨rfl, omx1_13, hg13⟩
      have hs13 : Below w.heap.size w w13 := below_own hs12 ox1_12 szx1 hs12.size hg13
      have oW_13 := own_newer oW_12 ox1_12 hg13 ltWx1.out
      have oG_13 := own_older oG_12 hg13 ltx1G.out
      clear hs12 oW_12 oG_12 ox1_12 hg13
      clear omx1_13
      have tk : 0 ≤ 1 + (l0.length : Int) * 2 + (l1.length : Int) * 2 := by omega
      go_wp2_with fail
      refine (eqFreshS_own _ _ vG vW L L _ oG_13 oW_13 (by omega)).mono ?_
      rw [decide_eq_true (rfl : L = L)]
      rintro e w14 ⟨rfl, hb14⟩
      have hs14 := hs13.trans (hb14.mono hs13.size)
      have oW_14 := own_below oW_13 hb14
      have oG_14 := own_below oG_13 hb14
      clear hs13 oW_13 oG_13 hb14
      have tm : 0 ≤ 1 + (L.length : Int) * 2 := by omega
      have tq : (1 + (L.length : Int) * 2 != 1 + (L.length : Int) * 2) = false := by simp
      go_wp2_with fail
      refine (markFreshS_own _ L.length vG _ 1 _ oG_14 (by omega) (by omega)).mono ?_
      rintro e w15 ⟨rfl, omG_15, hg15⟩
      have hs15 : Below w.heap.size w w15 := below_own hs14 oG_14 szG hs14.size hg15
      have oW_15 := own_newer oW_14 oG_14 hg15 ltWG.out
      clear hs14 oW_14 oG_14 hg15
      go_wp2_with fail
      refine (heldFreshS_own _ L.length vG 1 _ omG_15 (by omega) (by omega)).mono ?_
      rintro e w' ⟨rfl, rfl⟩
      go_wp2_with fail
      refine (toFreshS_any A0 c0 l0 _ (hA0.below hs15) (by omega)).mono ?_
      rintro e w17 ⟨vz0, rfl, onz0, hb17⟩
      have szz0 : w.heap.size ≤ w15.heap.size := hs15.size
      have ltWz0 := Lib.hid (show ∀ k, vW.ownBlock = some k → k < w15.heap.size from fun k hk => (oW_15.lt k hk).2)
      have ltGz0 := Lib.hid (show ∀ k, vG.ownBlock = some k → k < w15.heap.size from fun k hk => (omG_15.lt k hk).2)
      have hs17 := hs15.trans (hb17.mono hs15.size)
      have oW_17 := own_below oW_15 hb17
      have oG_17 := own_below omG_15 hb17
      clear hs15 oW_15 omG_15 hb17
      go_wp2_with fail
      refine (toFreshS_any A1 c1 l1 _ (hA1.below hs17) (by omega)).mono ?_
      rintro e w18 ⟨vz1, rfl, onz1, hb18⟩
      have szz1 : w.heap.size ≤ w17.heap.size := hs17.size
      have ltWz1 := Lib.hid (show ∀ k, vW.ownBlock = some k → k < w17.heap.size from fun k hk => (oW_17.lt k hk).2)
      have ltGz1 := Lib.hid (show ∀ k, vG.ownBlock = some k → k < w17.heap.size from fun k hk => (oG_17.lt k hk).2)
      have ltz0z1 := Lib.hid (show ∀ k, vz0.ownBlock = some k → k < w17.heap.size from fun k hk => (onz0.lt k hk).2)
      have hs18 := hs17.trans (hb18.mono hs17.size)
      have oW_18 := own_below oW_17 hb18
      have oG_18 := own_below oG_17 hb18
      have oz0_18 := own_below onz0 hb18
      clear hs17 oW_17 oG_17 onz0 hb18
      go_wp2_with fail
      refine (merge_impl_own _ _ vz0 vz1 l0 l1 _ oz0_18 onz1 (by omega) (by omega)).mono ?_
      rw [HL.out]
      rw [HFL.out]
      rintro e w19 ⟨vH, rfl, onH, hb19⟩
      have szH : w.heap.size ≤ w18.heap.size := hs18.size
      have ltWH := Lib.hid (show ∀ k, vW.ownBlock = some k → k < w18.heap.size from fun k hk => (oW_18.lt k hk).2)
      have ltGH := Lib.hid (show ∀ k, vG.ownBlock = some k → k < w18.heap.size from fun k hk => (oG_18.lt k hk).2)
      have ltz0H := Lib.hid (show ∀ k, vz0.ownBlock = some k → k < w18.heap.size from fun k hk => (oz0_18.lt k hk).2)
      have ltz1H := Lib.hid (show ∀ k, vz1.ownBlock = some k → k < w18.heap.size from fun k hk => (onz1.lt k hk).2)
      have hs19 := hs18.trans (hb19.mono hs18.size)
      have oW_19 := own_below oW_18 hb19
      have oG_19 := own_below oG_18 hb19
      have oz0_19 := own_below oz0_18 hb19
      have oz1_19 := own_below onz1 hb19
      clear hs18 oW_18 oG_18 oz0_18 onz1 hb19
      clear oz0_19
      clear oz1_19
      go_wp2_with fail
      refine (eqFreshS_own _ _ vH vW L L _ onH oW_19 (by omega)).mono ?_
      rw [decide_eq_true (rfl : L = L)]
      rintro e w20 ⟨rfl, hb20⟩
      have hs20 := hs19.trans (hb20.mono hs19.size)
      have oW_20 := own_below oW_19 hb20
      have oG_20 := own_below oG_19 hb20
      have oH_20 := own_below onH hb20
      clear hs19 oW_19 oG_19 onH hb20
      clear oH_20
      clear oW_20
      go_wp2_with fail
      refine (heldFreshS_own _ L.length vG 1 _ oG_20 (by omega) (by omega)).mono ?_
      rintro e w' ⟨rfl, rfl⟩
      clear oG_20
      go_wp2_with fail
      go_ret
      exact ⟨rfl, hs20⟩
    · go_enter Try.func8, Try.ntmps8
      go_wp2_with fail
      refine (szF_yes _ _ _ _ _ (by omega) (by omega) (by omega)).mono ?_
      rintro e w' ⟨rfl, rfl⟩
      have hleft : ¬ 1048576 - (l0.length : Int) < 0 := by omega
      go_wp2_with fail
      refine (szF_no _ _ _ _ _ (by omega) (by omega) (by omega) (by omega)).mono ?_
      rintro e w' ⟨rfl, rfl⟩
      go_wp2
      go_ret
      exact ⟨rfl, Below.refl _ _⟩
  · go_enter Try.func8, Try.ntmps8
    go_wp2_with fail
    refine (szF_no _ _ _ _ _ (by omega) (by omega) (by omega) (by omega)).mono ?_
    rintro e w' ⟨rfl, rfl⟩
    go_wp2
    go_ret
    exact ⟨rfl, Below.refl _ _⟩

set_option maxRecDepth 100000 in
theorem lifted (os : Os) (started : os.Started) (H : Type) (enc : TypeId × Value → H) :
    ReturnsInHanded {} Try.checked os 8 .any (Rows.fnExactMergeContextsSpec.pre6 enc Try.prog Try.f8 Rows.fnExactMergeContextsRow.domain false) (Rows.fnExactMergeContextsSpec.post enc Try.prog Try.f8 false true false false) := by
  refine returnsInHanded_of_change (C := Try.checked) own started (by kernel_rfl) Try.func8
    (ChangeSpec.witness6 (enc := enc) (C := Try.checked) false ⟨#[], #[.slice none 0 0, .slice none 0 0], []⟩ 8 (by kernel_rfl) (by kernel_rfl) (by kernel_rfl) (by kernel_rfl)) ?_
  intro W base args ds gs before hval0 hW hcnd _
  have hval : ∀ (j : Nat) t v, Try.f8.params[j]? = some t → args[j]? = some v → Value.okWide Try.prog W .any base t v := hval0
  have hW' := hW
  obtain ⟨p, q, hA0, hV, rfl, hfz, hnd⟩ := hW
  have hA : DataW.TrodAll enc Try.prog W 0 (fun _ => true) true Try.f8.params.toList args.toList ds p := hA0
  rw [Try.params8] at hA hval
  obtain ⟨v0, vs0, d0, ds0, p0, q0, hargs, rfl, rfl, h0, r0⟩ := trodAll_cons hA
  obtain ⟨v1, vs1, d1, ds1, p1, q1, rfl, rfl, rfl, h1, r1⟩ := trodAll_cons r0
  obtain ⟨rfl, rfl, rfl⟩ := trodAll_nil r1
  obtain rfl : args = #[v0, v1] := by cases args; simp_all
  obtain ⟨rfl, rfl⟩ := trodVars_none hV
  have k0 := h0
  have lt0 : ∀ x ∈ p0, x.block < W.heap.size := by obtain ⟨m, hm⟩ := k0; exact DataW.trod_lt m _ _ _ hm
  have k1 := h1
  have lt1 : ∀ x ∈ p1, x.block < W.heap.size := by obtain ⟨m, hm⟩ := k1; exact DataW.trod_lt m _ _ _ hm
  obtain ⟨A0, n0, c0, rfl⟩ := okWide_slice Try.underlying58 (hval 0 58 v0 rfl rfl)
  obtain ⟨l0, rfl, w0, m0⟩ := open_freshs h0
  obtain ⟨A1, n1, c1, rfl⟩ := okWide_slice Try.underlying58 (hval 1 58 v1 rfl rfl)
  obtain ⟨l1, rfl, w1, m1⟩ := open_freshs h1
  clear hA0 hval0
  refine (walk W A0 c0 l0 w0 m0 A1 c1 l1 w1 m1).mono fun e W' ⟨he, bel⟩ => ?_
  subst he
  exact ⟨_, rfl, _, _, _, [], _, [], hW', trodAll_mk1 (shut_bool Try.underlying4 _), (trodAll_cons_mk (Below.trod laidOut (by kernel_rfl) (of_decide_eq_true (by kernel_rfl)) k0 bel lt0) (trodAll_cons_mk (Below.trod laidOut (by kernel_rfl) (of_decide_eq_true (by kernel_rfl)) k1 bel lt1) trodAll_mk0)), rfl, bel.frame _, fun h => by cases h⟩

theorem over : Rows.fnExactMergeContextsRow.holds Try.pinned (OpenSpec.ofChange Rows.fnExactMergeContextsSpec) :=
  OpenClaim.holds_of_wide 8 Try.f8 rfl rfl rfl rfl rfl rfl rfl ⟨rfl, rfl, rfl, rfl, rfl⟩ rfl rfl rfl rfl rfl (by kernel_rfl) Try.func8 (by kernel_rfl)
    (of_decide_eq_true (by kernel_rfl)) (by unfold Func.isWrapper; first | (rw [if_pos (by decide +kernel)]; kernel_rfl) | (rw [if_neg (by decide +kernel)]; exact ⟨rfl, rfl⟩))
    (fun os started H enc _ => lifted os started H enc)

theorem proved : Rows.FnExactMergeContextsSaid := over
#print axioms proved
end Go.Proofs.Ytddmoempagcjeaa.fnExactMergeContexts
