/-
  The law FnComposed returns true for every code of bytes: drawn permutations do one after the other what both do, and an inverse gives back. No condition.
-/
import Derived.Test.YtddmoempagcjeaaDrawPerm
import Derived.Test.YtddmoempagcjeaaInverse
import Derived.Test.YtddmoempagcjeaaLawPairs
import Derived.Test.YtddmoempagcjeaaImage
import Derived.Test.YtddmoempagcjeaaCompose
import Derived.Test.YtddmoempagcjeaaOpenB
namespace Go.Proofs.Ytddmoempagcjeaa.fnComposed
open Go.ChangeShapes Go.WideShapes Go.ChangeAt Go.RowKit
set_option linter.unusedVariables false

theorem big_no (A : Option Addr) (n c : Nat) (w : World) (h : n ≤ 4096) : Calls Try.prog 17 #[.slice A n c] w fun e w' => e = .returned (.bool false) ∧ w = w' := by
  have k0 : decide ((4096 : Int) < n) = false := by simp; omega
  go_enter Try.func17, Try.ntmps17
  go_wp2
  go_ret
  exact ⟨rfl, rfl⟩

theorem big_yes (A : Option Addr) (n c : Nat) (w : World) (h : 4096 < n) (h2 : n ≤ 9223372036854775807) : Calls Try.prog 17 #[.slice A n c] w fun e w' => e = .returned (.bool true) ∧ w = w' := by
  have k0 : decide ((4096 : Int) < n) = true := by simp; omega
  go_enter Try.func17, Try.ntmps17
  go_wp2
  go_ret
  exact ⟨rfl, rfl⟩

set_option maxRecDepth 100000 in
set_option maxHeartbeats 8000000 in
theorem walk (w : World) (A0 : Option Addr) (c0 n0 : Nat) (hA0 : BytesIn w A0 n0) (hm0 : n0 ≤ maxLen) :
    Calls Try.prog 4 #[.slice A0 n0 c0] w fun e w' => e = .returned (.bool true) ∧ Below w.heap.size w w' := by
  unfold maxLen at hm0
  by_cases hn : n0 ≤ 4096
  · go_enter Try.func4, Try.ntmps4
    go_wp2_with (first | (go_at_call 17; refine (big_no _ _ _ _ hn).mono ?_; rintro e w' ⟨rfl, rfl⟩) | fail)
    have hs0 : Below w.heap.size w w := Below.refl _ _
    have ct1 := drawPermutations_any A0 n0 c0 _ hA0 (by omega)
    go_wp2_with fail
    refine ct1.mono ?_
    rintro e w1 ⟨p, q, r, Ap, Aq, Ar, cp, cq, cr, rfl, ⟨hP, hlp⟩, ⟨hQ, hlq⟩, ⟨hR, hlr⟩, fp, fq, fr, hb1⟩
    clear ct1
    have hs1 := hs0.trans (hb1.mono hs0.size)
    have fcode_1 := hA0.below hb1
    clear hs0 hb1 hA0
    have ct2 := drawAtoms_any A0 n0 c0 _ fcode_1 (by omega)
    go_wp2_with fail
    refine ct2.mono ?_
    rintro e w2 ⟨a, b, c3, rfl, ha, hb, hc, hb2⟩
    clear ct2
    have hs2 := hs1.trans (hb2.mono hs1.size)
    have fcode_2 := fcode_1.below hb2
    have fp_2 := fp.below hb2
    have fq_2 := fq.below hb2
    have fr_2 := fr.below hb2
    clear hs1 hb2 fcode_1 fp fq fr
    clear fcode_2
    have Hpp := Lib.hid (permB_of hP (by omega))
    have Hpq := Lib.hid (permB_of hQ (by omega))
    have Hpr := Lib.hid (permB_of hR (by omega))
    have hl1 := thenL_len p q
    have hl2 := thenL_len q r
    have hl3 := thenL_len (thenL p q) r
    have hl4 := thenL_len p (thenL q r)
    have hl5 := invL_len p
    have Hx := Lib.hid (isP_thenL hP hQ)
    have Hv := Lib.hid (isP_thenL hQ hR)
    have Hy := Lib.hid (isP_invL hP)
    have Hpx := Lib.hid (permB_of Hx.out (by omega))
    have Hpv := Lib.hid (permB_of Hv.out (by omega))
    have Hpy := Lib.hid (permB_of Hy.out (by omega))
    have F1 := Lib.hid (compB_yes Hpp.out Hpq.out (by omega))
    have F2 := Lib.hid (compB_yes Hpx.out Hpr.out (by omega))
    have F3 := Lib.hid (compB_yes Hpq.out Hpr.out (by omega))
    have F4 := Lib.hid (compB_yes Hpp.out Hpv.out (by omega))
    have hz := Lib.hid (inv_then hP)
    have F5 := Lib.hid (compB_yes Hpy.out Hpp.out (by rw [hz.out]; decide))
    have L1 := Lib.hid (compL_yes F1.out)
    have L2 := Lib.hid (compL_yes F2.out)
    have L3 := Lib.hid (compL_yes F3.out)
    have L4 := Lib.hid (compL_yes F4.out)
    have L5 := Lib.hid ((compL_yes F5.out).trans hz.out)
    have HLI := Lib.hid (invR_yes Hpp.out)
    have Has := Lib.hid (thenL_assoc (p := p) (q := q) (r := r))
    have Hat : ∀ z : Int, 0 ≤ z ∧ z ≤ 999 → atomB z = true := fun z hz => by simp [atomB, hz]
    have HaH := Lib.hid ha
    have HbH := Lib.hid hb
    have I1 := Lib.hid ((imageF_yes Hpx.out (Hat a ha)).trans (img_thenL p q a))
    have I2 := Lib.hid (imageF_yes Hpq.out (Hat a ha))
    have I3 := Lib.hid (imageF_yes Hpp.out (Hat _ (hQ.atom ha)))
    have I4 := Lib.hid (imageF_yes Hpp.out (Hat b hb))
    have I5 := Lib.hid ((imageF_yes Hpy.out (Hat _ (hP.atom hb))).trans ((img_invL hP _).trans (back_img hP b)))
    have hlen1 : (thenL p q).length ≤ 1048576 := by omega
    have hlen2 : (thenL q r).length ≤ 1048576 := by omega
    have hlen3 : (invL p).length ≤ 1048576 := by omega
    have hlen4 : (thenL (thenL p q) r).length ≤ 1048576 := by omega
    have hlp2 : p.length ≤ 1048576 := by omega
    have hlq2 : q.length ≤ 1048576 := by omega
    have hlr2 : r.length ≤ 1048576 := by omega
    clear Hat hP hQ hR ha hb hc hl1 hl2 hl3 hl4 hl5 hlp hlq hlr Hx Hv Hy hz HaH HbH
    have ct3 := compose_impl Ap Aq cp cq p q _ fp_2 fq_2 hlp2 hlq2
    rw [L1.out, F1.out] at ct3
    go_wp2_with fail
    refine ct3.mono ?_
    rintro e w3 ⟨vx, rfl, hox, hb3⟩
    clear ct3
    have hs3 := hs2.trans (hb3.mono hs2.size)
    have fp_3 := fp_2.below hb3
    have fq_3 := fq_2.below hb3
    have fr_3 := fr_2.below hb3
    clear hs2 hb3 fp_2 fq_2 fr_2
    obtain ⟨Ax, cx, rfl, hpx⟩ := own_pairsAt hox
    clear hox
    have ct4 := inverse_impl Ap cp p _ fp_3 hlp2
    rw [HLI.out, Hpp.out] at ct4
    go_wp2_with fail
    refine ct4.mono ?_
    rintro e w4 ⟨vy, rfl, hoy, hb4⟩
    clear ct4
    have hs4 := hs3.trans (hb4.mono hs3.size)
    have fp_4 := fp_3.below hb4
    have fq_4 := fq_3.below hb4
    have fr_4 := fr_3.below hb4
    have fx_4 := hpx.below hb4
    clear hs3 hb4 fp_3 fq_3 fr_3 hpx
    obtain ⟨Ay, cy, rfl, hpy⟩ := own_pairsAt hoy
    clear hoy
    have nq1 : (imgL p (imgL q a) != imgL p (imgL q a)) = false := by simp
    have nq2 : (b != b) = false := by simp
    generalize hk1 : imgL p (imgL q a) = k1 at nq1
    have K1 := Lib.hid hk1
    clear hk1
    have ct5 := imageOf_impl Ax cx (thenL p q) a _ fx_4 (by omega)
    rw [I1.out, K1.out] at ct5
    go_wp2_with fail
    refine ct5.mono ?_
    rintro e w5 ⟨rfl, hb5⟩
    clear ct5
    have hs5 := hs4.trans (hb5.mono hs4.size)
    have fp_5 := fp_4.below hb5
    have fq_5 := fq_4.below hb5
    have fr_5 := fr_4.below hb5
    have fx_5 := fx_4.below hb5
    have fy_5 := hpy.below hb5
    clear hs4 hb5 fp_4 fq_4 fr_4 fx_4 hpy
    have ct6 := imageOf_impl Aq cq q a _ fq_5 (by omega)
    rw [I2.out] at ct6
    go_wp2_with fail
    refine ct6.mono ?_
    rintro e w6 ⟨rfl, hb6⟩
    clear ct6
    have hs6 := hs5.trans (hb6.mono hs5.size)
    have fp_6 := fp_5.below hb6
    have fq_6 := fq_5.below hb6
    have fr_6 := fr_5.below hb6
    have fx_6 := fx_5.below hb6
    have fy_6 := fy_5.below hb6
    clear hs5 hb6 fp_5 fq_5 fr_5 fx_5 fy_5
    have ct7 := imageOf_impl Ap cp p (imgL q a) _ fp_6 (by omega)
    rw [I3.out, K1.out] at ct7
    go_wp2_with fail
    refine ct7.mono ?_
    rintro e w7 ⟨rfl, hb7⟩
    clear ct7
    have hs7 := hs6.trans (hb7.mono hs6.size)
    have fp_7 := fp_6.below hb7
    have fq_7 := fq_6.below hb7
    have fr_7 := fr_6.below hb7
    have fx_7 := fx_6.below hb7
    have fy_7 := fy_6.below hb7
    clear hs6 hb7 fp_6 fq_6 fr_6 fx_6 fy_6
    have ct8 := imageOf_impl Ap cp p b _ fp_7 (by omega)
    rw [I4.out] at ct8
    go_wp2_with fail
    refine ct8.mono ?_
    rintro e w8 ⟨rfl, hb8⟩
    clear ct8
    have hs8 := hs7.trans (hb8.mono hs7.size)
    have fp_8 := fp_7.below hb8
    have fq_8 := fq_7.below hb8
    have fr_8 := fr_7.below hb8
    have fx_8 := fx_7.below hb8
    have fy_8 := fy_7.below hb8
    clear hs7 hb8 fp_7 fq_7 fr_7 fx_7 fy_7
    have ct9 := imageOf_impl Ay cy (invL p) (imgL p b) _ fy_8 (by omega)
    rw [I5.out] at ct9
    go_wp2_with fail
    refine ct9.mono ?_
    rintro e w9 ⟨rfl, hb9⟩
    clear ct9
    have hs9 := hs8.trans (hb9.mono hs8.size)
    have fp_9 := fp_8.below hb9
    have fq_9 := fq_8.below hb9
    have fr_9 := fr_8.below hb9
    have fx_9 := fx_8.below hb9
    have fy_9 := fy_8.below hb9
    clear hs8 hb9 fp_8 fq_8 fr_8 fx_8 fy_8
    have ct10 := compose_impl Ax Ar cx cr (thenL p q) r _ fx_9 fr_9 hlen1 hlr2
    rw [L2.out, F2.out] at ct10
    go_wp2_with fail
    refine ct10.mono ?_
    rintro e w10 ⟨vu, rfl, hou, hb10⟩
    clear ct10
    have hs10 := hs9.trans (hb10.mono hs9.size)
    have fp_10 := fp_9.below hb10
    have fq_10 := fq_9.below hb10
    have fr_10 := fr_9.below hb10
    have fx_10 := fx_9.below hb10
    have fy_10 := fy_9.below hb10
    clear hs9 hb10 fp_9 fq_9 fr_9 fx_9 fy_9
    obtain ⟨Au, cu, rfl, hpu⟩ := own_pairsAt hou
    clear hou
    have ct11 := compose_impl Aq Ar cq cr q r _ fq_10 fr_10 hlq2 hlr2
    rw [L3.out, F3.out] at ct11
    go_wp2_with fail
    refine ct11.mono ?_
    rintro e w11 ⟨vv, rfl, hov, hb11⟩
    clear ct11
    have hs11 := hs10.trans (hb11.mono hs10.size)
    have fp_11 := fp_10.below hb11
    have fq_11 := fq_10.below hb11
    have fr_11 := fr_10.below hb11
    have fx_11 := fx_10.below hb11
    have fy_11 := fy_10.below hb11
    have fu_11 := hpu.below hb11
    clear hs10 hb11 fp_10 fq_10 fr_10 fx_10 fy_10 hpu
    obtain ⟨Av, cv, rfl, hpv⟩ := own_pairsAt hov
    clear hov
    have ct12 := compose_impl Ap Av cp cv p (thenL q r) _ fp_11 hpv hlp2 hlen2
    rw [L4.out, F4.out] at ct12
    go_wp2_with fail
    refine ct12.mono ?_
    rintro e w12 ⟨vw, rfl, how, hb12⟩
    clear ct12
    have hs12 := hs11.trans (hb12.mono hs11.size)
    have fp_12 := fp_11.below hb12
    have fq_12 := fq_11.below hb12
    have fr_12 := fr_11.below hb12
    have fx_12 := fx_11.below hb12
    have fy_12 := fy_11.below hb12
    have fu_12 := fu_11.below hb12
    have fv_12 := hpv.below hb12
    clear hs11 hb12 fp_11 fq_11 fr_11 fx_11 fy_11 fu_11 hpv
    obtain ⟨Aw, cw, rfl, hpw⟩ := own_pairsAt how
    clear how
    have ct13 := compose_impl Ay Ap cy cp (invL p) p _ fy_12 fp_12 hlen3 hlp2
    rw [L5.out, F5.out] at ct13
    go_wp2_with fail
    refine ct13.mono ?_
    rintro e w13 ⟨vz, rfl, hoz, hb13⟩
    clear ct13
    have hs13 := hs12.trans (hb13.mono hs12.size)
    have fp_13 := fp_12.below hb13
    have fq_13 := fq_12.below hb13
    have fr_13 := fr_12.below hb13
    have fx_13 := fx_12.below hb13
    have fy_13 := fy_12.below hb13
    have fu_13 := fu_12.below hb13
    have fv_13 := fv_12.below hb13
    have fw_13 := hpw.below hb13
    clear hs12 hb13 fp_12 fq_12 fr_12 fx_12 fy_12 fu_12 fv_12 hpw
    obtain ⟨Az, cz, rfl, hpz⟩ := own_pairsAt hoz
    clear hoz
    rw [← Has.out] at fw_13 ⊢
    have ct14 := lawPairs_any Au Aw cu cw (thenL (thenL p q) r) (thenL (thenL p q) r) _ fu_13 fw_13 (by omega)
    rw [decide_eq_true (rfl : thenL (thenL p q) r = thenL (thenL p q) r)] at ct14
    go_wp2_with fail
    refine ct14.mono ?_
    rintro e w14 ⟨rfl, hb14⟩
    clear ct14
    have hs14 := hs13.trans (hb14.mono hs13.size)
    have fp_14 := fp_13.below hb14
    have fq_14 := fq_13.below hb14
    have fr_14 := fr_13.below hb14
    have fx_14 := fx_13.below hb14
    have fy_14 := fy_13.below hb14
    have fu_14 := fu_13.below hb14
    have fv_14 := fv_13.below hb14
    have fw_14 := fw_13.below hb14
    have fz_14 := hpz.below hb14
    clear hs13 hb14 fp_13 fq_13 fr_13 fx_13 fy_13 fu_13 fv_13 fw_13 hpz
    have ct15 := isPerm_impl Ax cx (thenL p q) _ fx_14 (by omega)
    rw [Hpx.out] at ct15
    go_wp2_with fail
    refine ct15.mono ?_
    rintro e w15 ⟨rfl, hb15⟩
    clear ct15
    have hs15 := hs14.trans (hb15.mono hs14.size)
    have fp_15 := fp_14.below hb15
    have fq_15 := fq_14.below hb15
    have fr_15 := fr_14.below hb15
    have fx_15 := fx_14.below hb15
    have fy_15 := fy_14.below hb15
    have fu_15 := fu_14.below hb15
    have fv_15 := fv_14.below hb15
    have fw_15 := fw_14.below hb15
    have fz_15 := fz_14.below hb15
    clear hs14 hb15 fp_14 fq_14 fr_14 fx_14 fy_14 fu_14 fv_14 fw_14 fz_14
    have ct16 := isPerm_impl Ay cy (invL p) _ fy_15 (by omega)
    rw [Hpy.out] at ct16
    go_wp2_with fail
    refine ct16.mono ?_
    rintro e w16 ⟨rfl, hb16⟩
    clear ct16
    have hs16 := hs15.trans (hb16.mono hs15.size)
    have fp_16 := fp_15.below hb16
    have fq_16 := fq_15.below hb16
    have fr_16 := fr_15.below hb16
    have fx_16 := fx_15.below hb16
    have fy_16 := fy_15.below hb16
    have fu_16 := fu_15.below hb16
    have fv_16 := fv_15.below hb16
    have fw_16 := fw_15.below hb16
    have fz_16 := fz_15.below hb16
    clear hs15 hb16 fp_15 fq_15 fr_15 fx_15 fy_15 fu_15 fv_15 fw_15 fz_15
    clear fp_16 fq_16 fr_16 fx_16 fy_16 fu_16 fv_16 fw_16 fz_16
    go_wp2_with fail
    go_ret
    exact ⟨rfl, hs16⟩
  · have hbig : 4096 < n0 := by omega
    clear hn hA0
    go_enter Try.func4, Try.ntmps4
    go_wp2_with (go_at_call 17; refine (big_yes _ _ _ _ hbig (by omega)).mono ?_; rintro e w' ⟨rfl, rfl⟩)
    go_ret
    exact ⟨rfl, Below.refl _ _⟩

set_option maxRecDepth 100000 in
theorem lifted (os : Os) (started : os.Started) (H : Type) (enc : TypeId × Value → H) :
    ReturnsInHanded {} Try.checked os 4 .any (Rows.fnComposedSpec.pre6 enc Try.prog Try.f4 Rows.fnComposedRow.domain false) (Rows.fnComposedSpec.post enc Try.prog Try.f4 false true false false) := by
  refine returnsInHanded_of_change (C := Try.checked) own started (by kernel_rfl) Try.func4
    (ChangeSpec.witness6 (enc := enc) (C := Try.checked) false ⟨#[], #[.slice none 0 0], []⟩ 8 (by kernel_rfl) (by kernel_rfl) (by kernel_rfl) (by kernel_rfl)) ?_
  intro W base args ds gs before hval0 hW hcnd _
  have hval : ∀ (j : Nat) t v, Try.f4.params[j]? = some t → args[j]? = some v → Value.okWide Try.prog W .any base t v := hval0
  have hW' := hW
  obtain ⟨p, q, hA0, hV, rfl, hfz, hnd⟩ := hW
  have hA : DataW.TrodAll enc Try.prog W 0 (fun _ => true) true Try.f4.params.toList args.toList ds p := hA0
  rw [Try.params4] at hA hval
  obtain ⟨v0, vs0, d0, ds0, p0, q0, hargs, rfl, rfl, h0, r0⟩ := trodAll_cons hA
  obtain ⟨rfl, rfl, rfl⟩ := trodAll_nil r0
  obtain rfl : args = #[v0] := by cases args; simp_all
  obtain ⟨rfl, rfl⟩ := trodVars_none hV
  have k0 := h0
  have lt0 : ∀ x ∈ p0, x.block < W.heap.size := by obtain ⟨m, hm⟩ := k0; exact DataW.trod_lt m _ _ _ hm
  obtain ⟨A0, n0, c0, rfl⟩ := okWide_slice Try.underlying31 (hval 0 31 v0 rfl rfl)
  obtain ⟨w0, m0⟩ := open_bytesL h0
  clear hA0 hval0
  refine (walk W A0 c0 n0 w0 m0).mono fun e W' ⟨he, bel⟩ => ?_
  subst he
  exact ⟨_, rfl, _, _, _, [], _, [], hW', trodAll_mk1 (shut_bool Try.underlying4 _), (trodAll_cons_mk (Below.trod laidOut (by kernel_rfl) (of_decide_eq_true (by kernel_rfl)) k0 bel lt0) trodAll_mk0), rfl, bel.frame _, fun h => by cases h⟩

theorem over : Rows.fnComposedRow.holds Try.pinned (OpenSpec.ofChange Rows.fnComposedSpec) :=
  OpenClaim.holds_of_wide 4 Try.f4 rfl rfl rfl rfl rfl rfl rfl ⟨rfl, rfl, rfl, rfl, rfl⟩ rfl rfl rfl rfl rfl (by kernel_rfl) Try.func4 (by kernel_rfl)
    (of_decide_eq_true (by kernel_rfl)) (by unfold Func.isWrapper; first | (rw [if_pos (by decide +kernel)]; kernel_rfl) | (rw [if_neg (by decide +kernel)]; exact ⟨rfl, rfl⟩))
    (fun os started H enc _ => lifted os started H enc)

theorem proved : Rows.FnComposedSaid := over
#print axioms proved
end Go.Proofs.Ytddmoempagcjeaa.fnComposed
