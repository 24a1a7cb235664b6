/-
  The law FnExactIsContext returns true for every list of elements: the program decides as the model whether it is a context, and leaves its argument as it was. No condition.
-/
import Derived.Test.YtgcoakmajpgggaaArgs
import Derived.Test.YtgcoakmajpgggaaCtxS
import Derived.Test.YtgcoakmajpgggaaOpenF
namespace Go.Proofs.Ytgcoakmajpgggaa.fnExactIsContext
open Go.ChangeShapes Go.WideShapes Go.ChangeAt Go.RowKit
set_option linter.unusedVariables false

set_option maxHeartbeats 2000000 in
theorem walk (w : World) (A0 : Option Addr) (c0 : Nat) (l0 : List (Int × Int)) (hA0 : PairsAt w A0 l0) (hm0 : l0.length ≤ maxLen) :
    Calls Try.prog 3 #[.slice A0 l0.length c0] w fun e w' => e = .returned (.bool true) ∧ Below w.heap.size w w' := by
  unfold maxLen at hm0
  by_cases hn : l0.length ≤ 1048576
  · go_enter Try.func3, Try.ntmps3
    go_wp2_with fail
    refine (szF_yes _ _ _ _ _ (by omega) (by omega) (by omega)).mono ?_
    rintro e w' ⟨rfl, rfl⟩
    have hleft : ¬ 1048576 - (l0.length : Int) < 0 := by omega
    go_wp2_with fail
    refine (toFreshS_any _ _ _ _ hA0 (by omega)).mono ?_
    rintro e w1 ⟨v1, rfl, ho1, hb1⟩
    obtain ⟨A1, c1, rfl, hp1⟩ := own_pairsAt ho1
    have hx1 := hA0.below hb1
    clear ho1
    go_wp2_with fail
    refine (isContext_spec _ _ _ _ hp1 (by omega)).mono ?_
    rintro e w2 ⟨rfl, hb2⟩
    have hx2 := hx1.below hb2
    have hs2 := hb1.trans (hb2.mono hb1.size)
    clear hp1 hx1 hA0 hb1 hb2
    go_wp2_with fail
    refine (toFreshS_any _ _ _ _ hx2 (by omega)).mono ?_
    rintro e w3 ⟨v3, rfl, ho3, hb3⟩
    obtain ⟨A3, c3, rfl, hp3⟩ := own_pairsAt ho3
    have hx3 := hx2.below hb3
    have hs3 := hs2.trans (hb3.mono hs2.size)
    clear hx2 hs2 hb3
    go_wp2_with fail
    refine (isContext_impl _ _ _ _ hp3 (by omega)).mono ?_
    rintro e w4 ⟨rfl, hb4⟩
    have hx4 := hx3.below hb4
    have hp4 := hp3.below hb4
    have hs4 := hs3.trans (hb4.mono hs3.size)
    clear hx3 hp3 hs3 hb4 ho3
    generalize ctxB l0 = pb
    have hpb : (pb != pb) = false := by simp
    go_wp2_with fail
    refine (toFreshS_any _ _ _ _ hx4 (by omega)).mono ?_
    rintro e w5 ⟨v5, rfl, ho5, hb5⟩
    obtain ⟨A5, c5, rfl, hp5⟩ := own_pairsAt ho5
    have hp6 := hp4.below hb5
    have hs5 := hs4.trans (hb5.mono hs4.size)
    clear hx4 hp4 hs4 hb5 ho5
    go_wp2_with fail
    refine (eqFreshS_any _ _ _ _ l0 l0 _ hp6 hp5 (by omega)).mono ?_
    rw [decide_eq_true (rfl : l0 = l0)]
    rintro e w6 ⟨rfl, hb6⟩
    have hs6 := hs5.trans (hb6.mono hs5.size)
    clear hp6 hp5 hs5 hb6
    go_wp2_with fail
    go_ret
    exact ⟨rfl, hs6⟩
  · go_enter Try.func3, Try.ntmps3
    go_wp2_with fail
    refine (szF_no _ _ _ _ _ (by omega) (by omega) (by omega) (by omega)).mono ?_
    rintro e w' ⟨rfl, rfl⟩
    go_wp2
    go_ret
    exact ⟨rfl, Below.refl _ _⟩

set_option maxRecDepth 100000 in
theorem lifted (os : Os) (started : os.Started) (H : Type) (enc : TypeId × Value → H) :
    ReturnsInHanded {} Try.checked os 3 .any (Rows.fnExactIsContextSpec.pre6 enc Try.prog Try.f3 Rows.fnExactIsContextRow.domain false) (Rows.fnExactIsContextSpec.post enc Try.prog Try.f3 false true false false) := by
  refine returnsInHanded_of_change (C := Try.checked) own started (by kernel_rfl) Try.func3
    (ChangeSpec.witness6 (enc := enc) (C := Try.checked) false ⟨#[], #[.slice none 0 0], []⟩ 8 (by kernel_rfl) (by kernel_rfl) (by kernel_rfl) (by kernel_rfl)) ?_
  intro W base args ds gs before hval0 hW hcnd _
  have hval : ∀ (j : Nat) t v, Try.f3.params[j]? = some t → args[j]? = some v → Value.okWide Try.prog W .any base t v := hval0
  have hW' := hW
  obtain ⟨p, q, hA0, hV, rfl, hfz, hnd⟩ := hW
  have hA : DataW.TrodAll enc Try.prog W 0 (fun _ => true) true Try.f3.params.toList args.toList ds p := hA0
  rw [Try.params3] at hA hval
  obtain ⟨v0, vs0, d0, ds0, p0, q0, hargs, rfl, rfl, h0, r0⟩ := trodAll_cons hA
  obtain ⟨rfl, rfl, rfl⟩ := trodAll_nil r0
  obtain rfl : args = #[v0] := by cases args; simp_all
  obtain ⟨rfl, rfl⟩ := trodVars_none hV
  have k0 := h0
  have lt0 : ∀ x ∈ p0, x.block < W.heap.size := by obtain ⟨m, hm⟩ := k0; exact DataW.trod_lt m _ _ _ hm
  obtain ⟨A0, n0, c0, rfl⟩ := okWide_slice Try.underlying22 (hval 0 22 v0 rfl rfl)
  obtain ⟨l0, rfl, w0, m0⟩ := open_freshs h0
  clear hA0 hval0
  refine (walk W A0 c0 l0 w0 m0).mono fun e W' ⟨he, bel⟩ => ?_
  subst he
  exact ⟨_, rfl, _, _, _, [], _, [], hW', trodAll_mk1 (shut_bool Try.underlying4 _), (trodAll_cons_mk (Below.trod laidOut (by kernel_rfl) (of_decide_eq_true (by kernel_rfl)) k0 bel lt0) trodAll_mk0), rfl, bel.frame _, fun h => by cases h⟩

theorem over : Rows.fnExactIsContextRow.holds Try.pinned (OpenSpec.ofChange Rows.fnExactIsContextSpec) :=
  OpenClaim.holds_of_wide 3 Try.f3 rfl rfl rfl rfl rfl rfl rfl ⟨rfl, rfl, rfl, rfl, rfl⟩ rfl rfl rfl rfl rfl (by kernel_rfl) Try.func3 (by kernel_rfl)
    (of_decide_eq_true (by kernel_rfl)) (by unfold Func.isWrapper; first | (rw [if_pos (by decide +kernel)]; kernel_rfl) | (rw [if_neg (by decide +kernel)]; exact ⟨rfl, rfl⟩))
    (fun os started H enc _ => lifted os started H enc)

theorem proved : Rows.FnExactIsContextSaid := over
#print axioms proved
end Go.Proofs.Ytgcoakmajpgggaa.fnExactIsContext
