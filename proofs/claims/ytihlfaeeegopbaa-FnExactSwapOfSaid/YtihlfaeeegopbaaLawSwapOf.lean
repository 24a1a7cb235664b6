/-
  The law FnExactSwapOf returns true for every two integers: the program's SwapOf answers as the model's, its answer shares no memory with another call's. No condition.
-/
import Derived.Test.YtihlfaeeegopbaaBase
import Derived.Test.YtihlfaeeegopbaaMark
import Derived.Test.YtihlfaeeegopbaaSwap
import Derived.ProofKit
import Derived.OpenShut
import Derived.ChangeOld
namespace Go.Proofs.Ytihlfaeeegopbaa.fnExactSwapOf
open Go.ChangeShapes Go.WideShapes Go.ChangeAt Go.RowKit
set_option linter.unusedVariables false

theorem own : ownKnob Try.prog.godebug = none := by kernel_rfl
theorem laidOut : laidOutB Try.prog = true := by kernel_rfl

theorem swapL_len (a b : Int) : (swapL a b).length ≤ 2 := by
  unfold swapL
  split
  · simp
  · split <;> simp

set_option maxHeartbeats 1000000 in
theorem walk (a b : Int) (w : World) :
    Calls Try.prog 11 #[.int .i64 a, .int .i64 b] w fun e w' => e = .returned (.bool true) ∧ Below w.heap.size w w' := by
  have hlen := swapL_len a b
  generalize hL : swapL a b = L at hlen
  have HL := Lib.hid hL
  clear hL
  go_enter Try.func11, Try.ntmps11
  go_wp2_with fail
  refine (swapOf_spec _ _ _).mono ?_
  rw [HL.out]
  rintro e w1 ⟨v0, rfl, ho0, hb0⟩
  go_wp2_with fail
  refine (swapOf_impl _ _ _).mono ?_
  rw [HL.out]
  rintro e w2 ⟨v1, rfl, ho1, hb1⟩
  have ho0b := own_below ho0 hb1
  go_wp2_with fail
  refine (eqPairS_own _ _ _ _ L L _ ho1 ho0b (by omega)).mono ?_
  rw [decide_eq_true (rfl : L = L)]
  rintro e w3 ⟨rfl, hb2⟩
  have ho0c := own_below ho0b hb2
  have ho1c := own_below ho1 hb2
  go_wp2_with fail
  refine (markPairS_own _ L.length v1 _ 1 w3 ho1c (by omega) (by omega)).mono ?_
  rintro e w4 ⟨rfl, ho1m, hg⟩
  have ho0d := own_newer ho0c ho1c hg (fun k hk => (ho0.lt k hk).2)
  have hb4 : Below w.heap.size w w4 := below_own (((hb0.trans (hb1.mono hb0.size)).trans (hb2.mono (Nat.le_trans hb0.size hb1.size)))) ho1c hb0.size (Nat.le_trans hb0.size (Nat.le_trans hb1.size hb2.size)) hg
  clear ho0 ho0b ho0c ho1 ho1c hb0 hb1 hb2 hg
  have t1 : 0 ≤ 1 + (L.length : Int) * 2 := by omega
  have t2 : (1 + (L.length : Int) * 2 != 1 + (L.length : Int) * 2) = false := by simp
  go_wp2_with fail
  refine (heldPairS_own _ L.length v1 1 w4 ho1m (by omega) (by omega)).mono ?_
  rintro e w5 ⟨rfl, rfl⟩
  go_wp2_with fail
  refine (swapOf_impl _ _ _).mono ?_
  rw [HL.out]
  rintro e w6 ⟨v2, rfl, ho2, hb6⟩
  have ho0e := own_below ho0d hb6
  have ho1n := own_below ho1m hb6
  have hb7 := hb4.trans (hb6.mono hb4.size)
  clear ho0d ho1m
  go_wp2_with fail
  refine (eqPairS_own _ _ _ _ L L _ ho2 ho0e (by omega)).mono ?_
  rw [decide_eq_true (rfl : L = L)]
  rintro e w8 ⟨rfl, hb8⟩
  have ho1p := own_below ho1n hb8
  have hb9 := hb7.trans (hb8.mono hb7.size)
  clear ho0e ho1n ho2 hb8 hb7 hb6 hb4
  go_wp2_with fail
  refine (heldPairS_own _ L.length v1 1 w8 ho1p (by omega) (by omega)).mono ?_
  rintro e w5 ⟨rfl, rfl⟩
  clear ho1p
  go_wp2_with fail
  go_ret
  exact ⟨rfl, hb9⟩

set_option maxRecDepth 100000 in
theorem lifted (os : Os) (started : os.Started) (H : Type) (enc : TypeId × Value → H) :
    ReturnsInHanded {} Try.checked os 11 .any (Rows.fnExactSwapOfSpec.pre6 enc Try.prog Try.f11 Rows.fnExactSwapOfRow.domain false) (Rows.fnExactSwapOfSpec.post enc Try.prog Try.f11 false true false false) := by
  refine returnsInHanded_of_change (C := Try.checked) own started (by kernel_rfl) Try.func11
    (ChangeSpec.witness6 (enc := enc) (C := Try.checked) false ⟨#[], #[.int .i64 0, .int .i64 0], []⟩ 8 (by kernel_rfl) (by kernel_rfl) (by kernel_rfl) (by kernel_rfl)) ?_
  intro W base args ds gs before hval0 hW hcnd _
  have hval : ∀ (j : Nat) t v, Try.f11.params[j]? = some t → args[j]? = some v → Value.okWide Try.prog W .any base t v := hval0
  have hW' := hW
  obtain ⟨p, q, hA0, hV, rfl, hfz, hnd⟩ := hW
  have hA : DataW.TrodAll enc Try.prog W 0 (fun _ => true) true Try.f11.params.toList args.toList ds p := hA0
  rw [Try.params11] at hA hval
  obtain ⟨v0, vs0, d0, ds0, p0, q0, hargs, rfl, rfl, h0, r0⟩ := trodAll_cons hA
  obtain ⟨v1, vs1, d1, ds1, p1, q1, rfl, rfl, rfl, h1, r1⟩ := trodAll_cons r0
  obtain ⟨rfl, rfl, rfl⟩ := trodAll_nil r1
  obtain rfl : args = #[v0, v1] := by cases args; simp_all
  obtain ⟨rfl, rfl⟩ := trodVars_none hV
  have k0 := h0
  have lt0 : ∀ x ∈ p0, x.block < W.heap.size := by obtain ⟨m, hm⟩ := k0; exact DataW.trod_lt m _ _ _ hm
  have k1 := h1
  have lt1 : ∀ x ∈ p1, x.block < W.heap.size := by obtain ⟨m, hm⟩ := k1; exact DataW.trod_lt m _ _ _ hm
  obtain ⟨a0, rfl, _, _, w0⟩ := open_int Try.underlying3 (hval 0 3 v0 rfl rfl) h0
  obtain ⟨a1, rfl, _, _, w1⟩ := open_int Try.underlying3 (hval 1 3 v1 rfl rfl) h1
  clear hA0 hval0
  refine (walk a0 a1 W).mono fun e W' ⟨he, bel⟩ => ?_
  subst he
  exact ⟨_, rfl, _, _, _, [], _, [], hW', trodAll_mk1 (shut_bool Try.underlying4 _), (trodAll_cons_mk (Below.trod laidOut (by kernel_rfl) (of_decide_eq_true (by kernel_rfl)) k0 bel lt0) (trodAll_cons_mk (Below.trod laidOut (by kernel_rfl) (of_decide_eq_true (by kernel_rfl)) k1 bel lt1) trodAll_mk0)), rfl, bel.frame _, fun h => by cases h⟩

theorem over : Rows.fnExactSwapOfRow.holds Try.pinned (OpenSpec.ofChange Rows.fnExactSwapOfSpec) :=
  OpenClaim.holds_of_wide 11 Try.f11 rfl rfl rfl rfl rfl rfl rfl ⟨rfl, rfl, rfl, rfl, rfl⟩ rfl rfl rfl rfl rfl (by kernel_rfl) Try.func11 (by kernel_rfl)
    (of_decide_eq_true (by kernel_rfl)) (by unfold Func.isWrapper; first | (rw [if_pos (by decide +kernel)]; kernel_rfl) | (rw [if_neg (by decide +kernel)]; exact ⟨rfl, rfl⟩))
    (fun os started H enc _ => lifted os started H enc)

theorem proved : Rows.FnExactSwapOfSaid := over
#print axioms proved
end Go.Proofs.Ytihlfaeeegopbaa.fnExactSwapOf
