/-
  The law FnExactNewSession returns true: the program's new session is the model's, and owns its memory. No condition.
-/
import Derived.Test.YtipccjonkgjccaaKNewSession3
import Derived.Test.YtipccjonkgjccaaKNewSession4
namespace Go.Proofs.Ytipccjonkgjccaa.fnExactNewSession
open Go.ChangeShapes Go.WideShapes Go.ChangeAt Go.RowKit
set_option linter.unusedVariables false

set_option maxRecDepth 100000 in
set_option maxHeartbeats 4000000 in
theorem walk (w : World) : Calls Try.prog 3 #[] w fun e w' => e = .returned (.bool true) ∧ Below w.heap.size w w' := by
  have HBB := Lib.hid (Below.refl w.heap.size w)
  have hc := newSession_spec w
  go_enter Try.func3, Try.ntmps3
  go_wp2_with fail
  refine hc.mono ?_
  rintro e w1 ⟨rfl, hb⟩
  clear hc
  have hmv := hb
  replace HBB := Lib.hid (HBB.out.trans (hmv.mono HBB.out.size))
  clear hmv
  clear hb
  have hnb : Below w1.heap.size w1 (w1.alloc (.cells #[.int .i64 1, .int .i64 0, .slice none 0 0, .slice none 0 0, .int .i64 1, .int .i64 0, .slice none 0 0, .slice none 0 0, .slice none 0 0] 28)) := (Below.refl _ _).alloc (Nat.le_refl _) _
  have K1 : Hid ((w1.alloc (.cells #[.int .i64 1, .int .i64 0, .slice none 0 0, .slice none 0 0, .int .i64 1, .int .i64 0, .slice none 0 0, .slice none 0 0, .slice none 0 0] 28)).heap[w1.heap.size]? = some (.cells #[.int .i64 1, .int .i64 0, .slice none 0 0, .slice none 0 0, .int .i64 1, .int .i64 0, .slice none 0 0, .slice none 0 0, .slice none 0 0] 28 (0, 0))) := Lib.hid (heap_alloc_new w1 (.cells #[.int .i64 1, .int .i64 0, .slice none 0 0, .slice none 0 0, .int .i64 1, .int .i64 0, .slice none 0 0, .slice none 0 0, .slice none 0 0] 28))
  have hmv := hnb
  replace HBB := Lib.hid (HBB.out.trans (hmv.mono HBB.out.size))
  clear hmv
  clear hnb
  have hc := newSession_impl (w1.alloc (.cells #[.int .i64 1, .int .i64 0, .slice none 0 0, .slice none 0 0, .int .i64 1, .int .i64 0, .slice none 0 0, .slice none 0 0, .slice none 0 0] 28))
  go_wp2_with fail
  refine hc.mono ?_
  rintro e w2 ⟨rfl, hb⟩
  clear hc
  have hmv := hb
  replace K1 := Lib.hid ((hmv.block _ (Array.getElem?_eq_some_iff.1 K1.out).1).trans K1.out)
  replace HBB := Lib.hid (HBB.out.trans (hmv.mono HBB.out.size))
  clear hmv
  clear hb
  have hnb : Below w2.heap.size w2 (w2.alloc (.cells #[.int .i64 1, .int .i64 0, .slice none 0 0, .slice none 0 0, .int .i64 1, .int .i64 0, .slice none 0 0, .slice none 0 0, .slice none 0 0] 28)) := (Below.refl _ _).alloc (Nat.le_refl _) _
  have K2 : Hid ((w2.alloc (.cells #[.int .i64 1, .int .i64 0, .slice none 0 0, .slice none 0 0, .int .i64 1, .int .i64 0, .slice none 0 0, .slice none 0 0, .slice none 0 0] 28)).heap[w2.heap.size]? = some (.cells #[.int .i64 1, .int .i64 0, .slice none 0 0, .slice none 0 0, .int .i64 1, .int .i64 0, .slice none 0 0, .slice none 0 0, .slice none 0 0] 28 (0, 0))) := Lib.hid (heap_alloc_new w2 (.cells #[.int .i64 1, .int .i64 0, .slice none 0 0, .slice none 0 0, .int .i64 1, .int .i64 0, .slice none 0 0, .slice none 0 0, .slice none 0 0] 28))
  have hmv := hnb
  replace K1 := Lib.hid ((hmv.block _ (Array.getElem?_eq_some_iff.1 K1.out).1).trans K1.out)
  replace HBB := Lib.hid (HBB.out.trans (hmv.mono HBB.out.size))
  clear hmv
  clear hnb
  have hc := eqSession_new (w2.alloc (.cells #[.int .i64 1, .int .i64 0, .slice none 0 0, .slice none 0 0, .int .i64 1, .int .i64 0, .slice none 0 0, .slice none 0 0, .slice none 0 0] 28))
  obtain ⟨c1_0, c1_1, c1_2, c1_3, c1_4, c1_5, c1_6, c1_7, c1_8⟩ := ses_cells K1.out
  obtain ⟨c2_0, c2_1, c2_2, c2_3, c2_4, c2_5, c2_6, c2_7, c2_8⟩ := ses_cells K2.out
  have l1 := (Array.getElem?_eq_some_iff.1 K1.out).1
  have l2 := (Array.getElem?_eq_some_iff.1 K2.out).1
  go_wp2_with fail
  refine hc.mono ?_
  rintro e w3 ⟨rfl, hb⟩
  clear hc c1_0 c1_1 c1_2 c1_3 c1_4 c1_5 c1_6 c1_7 c1_8 c2_0 c2_1 c2_2 c2_3 c2_4 c2_5 c2_6 c2_7 c2_8 l1 l2
  have hmv := hb
  replace K1 := Lib.hid ((hmv.block _ (Array.getElem?_eq_some_iff.1 K1.out).1).trans K1.out)
  replace K2 := Lib.hid ((hmv.block _ (Array.getElem?_eq_some_iff.1 K2.out).1).trans K2.out)
  replace HBB := Lib.hid (HBB.out.trans (hmv.mono HBB.out.size))
  clear hmv
  clear hb
  have hc := markSession_new w3
  obtain ⟨c2_0, c2_1, c2_2, c2_3, c2_4, c2_5, c2_6, c2_7, c2_8⟩ := ses_cells K2.out
  have l2 := (Array.getElem?_eq_some_iff.1 K2.out).1
  go_wp2_with fail
  refine hc.mono ?_
  rintro e w4 ⟨rfl, hb⟩
  clear hc c2_0 c2_1 c2_2 c2_3 c2_4 c2_5 c2_6 c2_7 c2_8 l2
  have hmv := hb
  replace K1 := Lib.hid ((hmv.block _ (Array.getElem?_eq_some_iff.1 K1.out).1).trans K1.out)
  replace K2 := Lib.hid ((hmv.block _ (Array.getElem?_eq_some_iff.1 K2.out).1).trans K2.out)
  replace HBB := Lib.hid (HBB.out.trans (hmv.mono HBB.out.size))
  clear hmv
  clear hb
  have hc := heldSession_new w4
  obtain ⟨c2_0, c2_1, c2_2, c2_3, c2_4, c2_5, c2_6, c2_7, c2_8⟩ := ses_cells K2.out
  have l2 := (Array.getElem?_eq_some_iff.1 K2.out).1
  go_wp2_with fail
  refine hc.mono ?_
  rintro e w5 ⟨rfl, hb⟩
  clear hc c2_0 c2_1 c2_2 c2_3 c2_4 c2_5 c2_6 c2_7 c2_8 l2
  have hmv := hb
  replace K1 := Lib.hid ((hmv.block _ (Array.getElem?_eq_some_iff.1 K1.out).1).trans K1.out)
  replace K2 := Lib.hid ((hmv.block _ (Array.getElem?_eq_some_iff.1 K2.out).1).trans K2.out)
  replace HBB := Lib.hid (HBB.out.trans (hmv.mono HBB.out.size))
  clear hmv
  clear hb
  have hc := newSession_impl w5
  go_wp2_with fail
  refine hc.mono ?_
  rintro e w6 ⟨rfl, hb⟩
  clear hc  
  have hmv := hb
  replace K1 := Lib.hid ((hmv.block _ (Array.getElem?_eq_some_iff.1 K1.out).1).trans K1.out)
  replace K2 := Lib.hid ((hmv.block _ (Array.getElem?_eq_some_iff.1 K2.out).1).trans K2.out)
  replace HBB := Lib.hid (HBB.out.trans (hmv.mono HBB.out.size))
  clear hmv
  clear hb
  have hnb : Below w6.heap.size w6 (w6.alloc (.cells #[.int .i64 1, .int .i64 0, .slice none 0 0, .slice none 0 0, .int .i64 1, .int .i64 0, .slice none 0 0, .slice none 0 0, .slice none 0 0] 28)) := (Below.refl _ _).alloc (Nat.le_refl _) _
  have K3 : Hid ((w6.alloc (.cells #[.int .i64 1, .int .i64 0, .slice none 0 0, .slice none 0 0, .int .i64 1, .int .i64 0, .slice none 0 0, .slice none 0 0, .slice none 0 0] 28)).heap[w6.heap.size]? = some (.cells #[.int .i64 1, .int .i64 0, .slice none 0 0, .slice none 0 0, .int .i64 1, .int .i64 0, .slice none 0 0, .slice none 0 0, .slice none 0 0] 28 (0, 0))) := Lib.hid (heap_alloc_new w6 (.cells #[.int .i64 1, .int .i64 0, .slice none 0 0, .slice none 0 0, .int .i64 1, .int .i64 0, .slice none 0 0, .slice none 0 0, .slice none 0 0] 28))
  have hmv := hnb
  replace K1 := Lib.hid ((hmv.block _ (Array.getElem?_eq_some_iff.1 K1.out).1).trans K1.out)
  replace K2 := Lib.hid ((hmv.block _ (Array.getElem?_eq_some_iff.1 K2.out).1).trans K2.out)
  replace HBB := Lib.hid (HBB.out.trans (hmv.mono HBB.out.size))
  clear hmv
  clear hnb
  have hc := eqSession_new (w6.alloc (.cells #[.int .i64 1, .int .i64 0, .slice none 0 0, .slice none 0 0, .int .i64 1, .int .i64 0, .slice none 0 0, .slice none 0 0, .slice none 0 0] 28))
  obtain ⟨c1_0, c1_1, c1_2, c1_3, c1_4, c1_5, c1_6, c1_7, c1_8⟩ := ses_cells K1.out
  obtain ⟨c3_0, c3_1, c3_2, c3_3, c3_4, c3_5, c3_6, c3_7, c3_8⟩ := ses_cells K3.out
  have l1 := (Array.getElem?_eq_some_iff.1 K1.out).1
  have l3 := (Array.getElem?_eq_some_iff.1 K3.out).1
  go_wp2_with fail
  refine hc.mono ?_
  rintro e w7 ⟨rfl, hb⟩
  clear hc c1_0 c1_1 c1_2 c1_3 c1_4 c1_5 c1_6 c1_7 c1_8 c3_0 c3_1 c3_2 c3_3 c3_4 c3_5 c3_6 c3_7 c3_8 l1 l3
  have hmv := hb
  replace K1 := Lib.hid ((hmv.block _ (Array.getElem?_eq_some_iff.1 K1.out).1).trans K1.out)
  replace K2 := Lib.hid ((hmv.block _ (Array.getElem?_eq_some_iff.1 K2.out).1).trans K2.out)
  replace K3 := Lib.hid ((hmv.block _ (Array.getElem?_eq_some_iff.1 K3.out).1).trans K3.out)
  replace HBB := Lib.hid (HBB.out.trans (hmv.mono HBB.out.size))
  clear hmv
  clear hb
  have hc := heldSession_new w7
  obtain ⟨c2_0, c2_1, c2_2, c2_3, c2_4, c2_5, c2_6, c2_7, c2_8⟩ := ses_cells K2.out
  have l2 := (Array.getElem?_eq_some_iff.1 K2.out).1
  go_wp2_with fail
  refine hc.mono ?_
  rintro e w8 ⟨rfl, hb⟩
  clear hc c2_0 c2_1 c2_2 c2_3 c2_4 c2_5 c2_6 c2_7 c2_8 l2
  have hmv := hb
  replace K1 := Lib.hid ((hmv.block _ (Array.getElem?_eq_some_iff.1 K1.out).1).trans K1.out)
  replace K2 := Lib.hid ((hmv.block _ (Array.getElem?_eq_some_iff.1 K2.out).1).trans K2.out)
  replace K3 := Lib.hid ((hmv.block _ (Array.getElem?_eq_some_iff.1 K3.out).1).trans K3.out)
  replace HBB := Lib.hid (HBB.out.trans (hmv.mono HBB.out.size))
  clear hmv
  clear hb
  have hbz := HBB.out
  go_wp2
  go_ret
  exact ⟨rfl, hbz⟩

set_option maxRecDepth 100000 in
theorem lifted (os : Os) (started : os.Started) (H : Type) (enc : TypeId × Value → H) :
    ReturnsInHanded {} Try.checked os 3 .any (Rows.fnExactNewSessionSpec.pre6 enc Try.prog Try.f3 Rows.fnExactNewSessionRow.domain false) (Rows.fnExactNewSessionSpec.post enc Try.prog Try.f3 false true false false) := by
  refine returnsInHanded_of_change (C := Try.checked) own started (by kernel_rfl) Try.func3
    (ChangeSpec.witness6 (enc := enc) (C := Try.checked) false ⟨#[], #[], []⟩ 8 (by kernel_rfl) (by kernel_rfl) (by kernel_rfl) (by kernel_rfl)) ?_
  intro W base args ds gs before hval0 hW hcnd _
  have hval : ∀ (j : Nat) t v, Try.f3.params[j]? = some t → args[j]? = some v → Value.okWide Try.prog W .any base t v := hval0
  have hW' := hW
  obtain ⟨p, q, hA0, hV, rfl, hfz, hnd⟩ := hW
  have hA : DataW.TrodAll enc Try.prog W 0 (fun _ => true) true Try.f3.params.toList args.toList ds p := hA0
  rw [Try.params3] at hA hval
  obtain ⟨hargs, rfl, rfl⟩ := trodAll_nil hA
  obtain rfl : args = #[] := by cases args; simp_all
  obtain ⟨rfl, rfl⟩ := trodVars_none hV
  clear hA0 hval0
  refine (walk W).mono fun e W' ⟨he, bel⟩ => ?_
  subst he
  exact ⟨_, rfl, _, _, _, [], _, [], hW', trodAll_mk1 (shut_bool Try.underlying4 _), trodAll_mk0, rfl, bel.frame _, fun h => by cases h⟩

theorem over : Rows.fnExactNewSessionRow.holds Try.pinned (OpenSpec.ofChange Rows.fnExactNewSessionSpec) :=
  OpenClaim.holds_of_wide 3 Try.f3 rfl rfl rfl rfl rfl rfl rfl ⟨rfl, rfl, rfl, rfl, rfl⟩ rfl rfl rfl rfl rfl (by kernel_rfl) Try.func3 (by kernel_rfl)
    (of_decide_eq_true (by kernel_rfl)) (by unfold Func.isWrapper; first | (rw [if_pos (by decide +kernel)]; kernel_rfl) | (rw [if_neg (by decide +kernel)]; exact ⟨rfl, rfl⟩))
    (fun os started H enc _ => lifted os started H enc)

theorem proved : Rows.FnExactNewSessionSaid := over
#print axioms proved
end Go.Proofs.Ytipccjonkgjccaa.fnExactNewSession
