/-
  The law FnExactIncludesContext returns true for every two lists of elements: the program decides as the model whether a context includes another one, and leaves its arguments as they were. No condition.
-/
import Derived.Test.YtgcoakmajpgggaaArgs
import Derived.Test.YtgcoakmajpgggaaInclS
import Derived.Test.YtgcoakmajpgggaaOpenF
namespace Go.Proofs.Ytgcoakmajpgggaa.fnExactIncludesContext
open Go.ChangeShapes Go.WideShapes Go.ChangeAt Go.RowKit
set_option linter.unusedVariables false

set_option maxHeartbeats 4000000 in
theorem walk (w : World) (A0 : Option Addr) (c0 : Nat) (l0 : List (Int × Int)) (hA0 : PairsAt w A0 l0) (hm0 : l0.length ≤ maxLen) (A1 : Option Addr) (c1 : Nat) (l1 : List (Int × Int)) (hA1 : PairsAt w A1 l1) (hm1 : l1.length ≤ maxLen) :
    Calls Try.prog 14 #[.slice A0 l0.length c0, .slice A1 l1.length c1] w fun e w' => e = .returned (.bool true) ∧ Below w.heap.size w w' := by
  unfold maxLen at hm0 hm1
  by_cases hn0 : l0.length ≤ 1048576
  · by_cases hn1 : l0.length + l1.length ≤ 1048576
    · go_enter Try.func14, Try.ntmps14
      go_wp2_with fail
      refine (szF_yes _ _ _ _ _ (by omega) (by omega) (by omega)).mono ?_
      rintro e w' ⟨rfl, rfl⟩
      have hleft : ¬ 1048576 - (l0.length : Int) < 0 := by omega
      go_wp2_with fail
      refine (szF_yes _ _ _ _ _ (by omega) (by omega) (by omega)).mono ?_
      rintro e w' ⟨rfl, rfl⟩
      have hleft1 : ¬ 1048576 - (l0.length : Int) - (l1.length : Int) < 0 := by omega
      go_wp2_with fail
      refine (toFreshS_any A0 c0 l0 _ hA0 (by omega)).mono ?_
      rintro e w1 ⟨v1, rfl, ho1, hb1⟩
      obtain ⟨B1, d1, rfl, hp1⟩ := own_pairsAt ho1
      have hx1 := hA0.below hb1
      have hy1 := hA1.below hb1
      clear ho1 hA0 hA1
      go_wp2_with fail
      refine (toFreshS_any A1 c1 l1 _ hy1 (by omega)).mono ?_
      rintro e w2 ⟨v2, rfl, ho2, hb2⟩
      obtain ⟨B2, d2, rfl, hp2⟩ := own_pairsAt ho2
      have hs2 := hb1.trans (hb2.mono hb1.size)
      have hq1 := hp1.below hb2
      have hx2 := hx1.below hb2
      have hy2 := hy1.below hb2
      clear ho2 hp1 hx1 hy1 hb1 hb2
      go_wp2_with fail
      refine (includes_spec B1 B2 d1 d2 l0 l1 _ hq1 hp2 (by omega) (by omega)).mono ?_
      rintro e w3 ⟨rfl, hb3⟩
      have hs3 := hs2.trans (hb3.mono hs2.size)
      have hx3 := hx2.below hb3
      have hy3 := hy2.below hb3
      clear hq1 hp2 hx2 hy2 hs2 hb3
      go_wp2_with fail
      refine (toFreshS_any A0 c0 l0 _ hx3 (by omega)).mono ?_
      rintro e w4 ⟨v4, rfl, ho4, hb4⟩
      obtain ⟨B4, d4, rfl, hp4⟩ := own_pairsAt ho4
      have hs4 := hs3.trans (hb4.mono hs3.size)
      have hx4 := hx3.below hb4
      have hy4 := hy3.below hb4
      clear ho4 hx3 hy3 hs3 hb4
      go_wp2_with fail
      refine (toFreshS_any A1 c1 l1 _ hy4 (by omega)).mono ?_
      rintro e w5 ⟨v5, rfl, ho5, hb5⟩
      obtain ⟨B5, d5, rfl, hp5⟩ := own_pairsAt ho5
      have hs5 := hs4.trans (hb5.mono hs4.size)
      have hq5 := hp4.below hb5
      have hx5 := hx4.below hb5
      have hy5 := hy4.below hb5
      clear ho5 hp4 hx4 hy4 hs4 hb5
      go_wp2_with fail
      refine (includes_impl B4 B5 d4 d5 l0 l1 _ hq5 hp5 (by omega) (by omega)).mono ?_
      rintro e w6 ⟨rfl, hb6⟩
      have hs6 := hs5.trans (hb6.mono hs5.size)
      have hq6 := hq5.below hb6
      have hr6 := hp5.below hb6
      have hx6 := hx5.below hb6
      have hy6 := hy5.below hb6
      clear hq5 hp5 hx5 hy5 hs5 hb6
      generalize inclB l0 l1 = pb
      have hpb : (pb != pb) = false := by simp
      go_wp2_with fail
      refine (toFreshS_any A0 c0 l0 _ hx6 (by omega)).mono ?_
      rintro e w7 ⟨v7, rfl, ho7, hb7⟩
      obtain ⟨B7, d7, rfl, hp7⟩ := own_pairsAt ho7
      have hs7 := hs6.trans (hb7.mono hs6.size)
      have hq7 := hq6.below hb7
      have hr7 := hr6.below hb7
      have hy7 := hy6.below hb7
      clear ho7 hq6 hr6 hx6 hy6 hs6 hb7
      go_wp2_with fail
      refine (eqFreshS_any B4 B7 d4 d7 l0 l0 _ hq7 hp7 (by omega)).mono ?_
      rw [decide_eq_true (rfl : l0 = l0)]
      rintro e w8 ⟨rfl, hb8⟩
      have hs8 := hs7.trans (hb8.mono hs7.size)
      have hr8 := hr7.below hb8
      have hy8 := hy7.below hb8
      clear hq7 hr7 hy7 hp7 hs7 hb8
      go_wp2_with fail
      refine (toFreshS_any A1 c1 l1 _ hy8 (by omega)).mono ?_
      rintro e w9 ⟨v9, rfl, ho9, hb9⟩
      obtain ⟨B9, d9, rfl, hp9⟩ := own_pairsAt ho9
      have hs9 := hs8.trans (hb9.mono hs8.size)
      have hr9 := hr8.below hb9
      clear ho9 hr8 hy8 hs8 hb9
      go_wp2_with fail
      refine (eqFreshS_any B5 B9 d5 d9 l1 l1 _ hr9 hp9 (by omega)).mono ?_
      rw [decide_eq_true (rfl : l1 = l1)]
      rintro e w10 ⟨rfl, hb10⟩
      have hs10 := hs9.trans (hb10.mono hs9.size)
      clear hr9 hp9 hs9 hb10
      go_wp2_with fail
      go_ret
      exact ⟨rfl, hs10⟩
    · go_enter Try.func14, Try.ntmps14
      go_wp2_with fail
      refine (szF_yes _ _ _ _ _ (by omega) (by omega) (by omega)).mono ?_
      rintro e w' ⟨rfl, rfl⟩
      have hleft : ¬ 1048576 - (l0.length : Int) < 0 := by omega
      go_wp2_with fail
      refine (szF_no _ _ _ _ _ (by omega) (by omega) (by omega) (by omega)).mono ?_
      rintro e w' ⟨rfl, rfl⟩
      go_wp2
      go_ret
      exact ⟨rfl, Below.refl _ _⟩
  · go_enter Try.func14, Try.ntmps14
    go_wp2_with fail
    refine (szF_no _ _ _ _ _ (by omega) (by omega) (by omega) (by omega)).mono ?_
    rintro e w' ⟨rfl, rfl⟩
    go_wp2
    go_ret
    exact ⟨rfl, Below.refl _ _⟩

set_option maxRecDepth 100000 in
theorem lifted (os : Os) (started : os.Started) (H : Type) (enc : TypeId × Value → H) :
    ReturnsInHanded {} Try.checked os 14 .any (Rows.fnExactIncludesContextSpec.pre6 enc Try.prog Try.f14 Rows.fnExactIncludesContextRow.domain false) (Rows.fnExactIncludesContextSpec.post enc Try.prog Try.f14 false true false false) := by
  refine returnsInHanded_of_change (C := Try.checked) own started (by kernel_rfl) Try.func14
    (ChangeSpec.witness6 (enc := enc) (C := Try.checked) false ⟨#[], #[.slice none 0 0, .slice none 0 0], []⟩ 8 (by kernel_rfl) (by kernel_rfl) (by kernel_rfl) (by kernel_rfl)) ?_
  intro W base args ds gs before hval0 hW hcnd _
  have hval : ∀ (j : Nat) t v, Try.f14.params[j]? = some t → args[j]? = some v → Value.okWide Try.prog W .any base t v := hval0
  have hW' := hW
  obtain ⟨p, q, hA0, hV, rfl, hfz, hnd⟩ := hW
  have hA : DataW.TrodAll enc Try.prog W 0 (fun _ => true) true Try.f14.params.toList args.toList ds p := hA0
  rw [Try.params14] at hA hval
  obtain ⟨v0, vs0, d0, ds0, p0, q0, hargs, rfl, rfl, h0, r0⟩ := trodAll_cons hA
  obtain ⟨v1, vs1, d1, ds1, p1, q1, rfl, rfl, rfl, h1, r1⟩ := trodAll_cons r0
  obtain ⟨rfl, rfl, rfl⟩ := trodAll_nil r1
  obtain rfl : args = #[v0, v1] := by cases args; simp_all
  obtain ⟨rfl, rfl⟩ := trodVars_none hV
  have k0 := h0
  have lt0 : ∀ x ∈ p0, x.block < W.heap.size := by obtain ⟨m, hm⟩ := k0; exact DataW.trod_lt m _ _ _ hm
  have k1 := h1
  have lt1 : ∀ x ∈ p1, x.block < W.heap.size := by obtain ⟨m, hm⟩ := k1; exact DataW.trod_lt m _ _ _ hm
  obtain ⟨A0, n0, c0, rfl⟩ := okWide_slice Try.underlying22 (hval 0 22 v0 rfl rfl)
  obtain ⟨l0, rfl, w0, m0⟩ := open_freshs h0
  obtain ⟨A1, n1, c1, rfl⟩ := okWide_slice Try.underlying22 (hval 1 22 v1 rfl rfl)
  obtain ⟨l1, rfl, w1, m1⟩ := open_freshs h1
  clear hA0 hval0
  refine (walk W A0 c0 l0 w0 m0 A1 c1 l1 w1 m1).mono fun e W' ⟨he, bel⟩ => ?_
  subst he
  exact ⟨_, rfl, _, _, _, [], _, [], hW', trodAll_mk1 (shut_bool Try.underlying4 _), (trodAll_cons_mk (Below.trod laidOut (by kernel_rfl) (of_decide_eq_true (by kernel_rfl)) k0 bel lt0) (trodAll_cons_mk (Below.trod laidOut (by kernel_rfl) (of_decide_eq_true (by kernel_rfl)) k1 bel lt1) trodAll_mk0)), rfl, bel.frame _, fun h => by cases h⟩

theorem over : Rows.fnExactIncludesContextRow.holds Try.pinned (OpenSpec.ofChange Rows.fnExactIncludesContextSpec) :=
  OpenClaim.holds_of_wide 14 Try.f14 rfl rfl rfl rfl rfl rfl rfl ⟨rfl, rfl, rfl, rfl, rfl⟩ rfl rfl rfl rfl rfl (by kernel_rfl) Try.func14 (by kernel_rfl)
    (of_decide_eq_true (by kernel_rfl)) (by unfold Func.isWrapper; first | (rw [if_pos (by decide +kernel)]; kernel_rfl) | (rw [if_neg (by decide +kernel)]; exact ⟨rfl, rfl⟩))
    (fun os started H enc _ => lifted os started H enc)

theorem proved : Rows.FnExactIncludesContextSaid := over
#print axioms proved
end Go.Proofs.Ytgcoakmajpgggaa.fnExactIncludesContext
