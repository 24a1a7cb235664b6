/-
  MergeContexts in the model, as a contract.
-/
import Derived.Test.YtddmoempagcjeaaMergeP
import Derived.Test.YtddmoempagcjeaaSetT
namespace Go.Proofs.Ytddmoempagcjeaa
open Go.RowKit Go.Sort
set_option linter.unusedVariables false

theorem ctxB_join {l m : List (Int × Int)} (h1 : ctxB l = true) (h2 : ctxB m = true) : ctxB (joinF l m) = decide ((joinF l m).length ≤ 40) := by
  have p1 := rightB_parts (right_of_ctx h1)
  have p2 := rightB_parts (right_of_ctx h2)
  have hr : rightB (joinF l m) = true := rightB_of (fun x hx => ((mem_joinF m).1 hx).elim (p1.1 x) (p2.1 x)) (joinF_asc p1.2 m)
  unfold ctxB
  rw [hr, Bool.and_true]

set_option maxRecDepth 100000 in
set_option maxHeartbeats 2000000 in
theorem merge_spec (A B : Option Addr) (c d : Nat) (l m : List (Int × Int)) (w : World) (hA : PairsAt w A l) (hB : PairsAt w B m) (hl : l.length ≤ 1048576) (hm : m.length ≤ 1048576) :
    Calls Try.prog 41 #[.slice A l.length c, .slice B m.length d] w (NewFreshsB (mergeL l m) (mergeB l m) w) := by
  have h1 := fun W hW => isContext_spec A c l W hW (by omega)
  have h2 := fun W hW => isContext_spec B d m W hW (by omega)
  have hb0 : Below w.heap.size w (w.alloc (.cells #[] 118)) := (Below.refl _ w).alloc (Nat.le_refl _) _
  by_cases k1 : ctxB l = true
  · rw [k1] at h1
    by_cases k2 : ctxB m = true
    · rw [k2] at h2
      have hj := fun W hP hQ => l3Join_any A B c d l m W hP hQ (by have := len_of_ctx k1; omega) (by have := len_of_ctx k2; omega)
      have hcj := ctxB_join k1 k2
      have hjl := joinF_len_le l m
      have hlen1 := len_of_ctx k1
      have hlen2 := len_of_ctx k2
      have hmb : mergeB l m = decide ((joinF l m).length ≤ 40) := by unfold mergeB; rw [k1, k2]; simp
      have hml : Hid (mergeL l m = if mergeB l m then joinF l m else []) := rfl
      generalize hfl : mergeB l m = fl at hmb hml
      rw [← hmb] at hcj
      have HCJ := Lib.hid hcj
      clear k1 k2 hmb hcj hfl
      generalize joinF l m = J at hj hjl HCJ hml
      generalize mergeL l m = R at hml ⊢
      go_enter Try.func41, Try.ntmps41
      go_wp2_with fail
      refine (h1 _ (hA.below hb0)).mono ?_
      rintro e w1 ⟨rfl, hb1⟩
      have hs1 := hb0.trans (hb1.mono hb0.size)
      clear hb1 hb0
      go_wp2_with fail
      refine (h2 _ (hB.below hs1)).mono ?_
      rintro e w2 ⟨rfl, hb2⟩
      have hs2 := hs1.trans (hb2.mono hs1.size)
      clear hb2 hs1
      go_wp2_with fail
      refine (hj _ (hA.below hs2) (hB.below hs2)).mono ?_
      rintro e w3 ⟨v, rfl, ho3, hb3⟩
      have hs3 := hs2.trans (hb3.mono hs2.size)
      have ho3' := own_le ho3 hs2.size
      clear hb3 ho3 hs2 hj
      go_wp2_with fail
      refine (h1 _ (hA.below hs3)).mono ?_
      rintro e w4 ⟨rfl, hb4⟩
      have hs4 := hs3.trans (hb4.mono hs3.size)
      have ho4 := own_below ho3' hb4
      clear hb4 ho3' hs3
      go_wp2_with fail
      refine (h2 _ (hB.below hs4)).mono ?_
      rintro e w5 ⟨rfl, hb5⟩
      have hs5 := hs4.trans (hb5.mono hs4.size)
      have ho5 := own_below ho4 hb5
      clear hb5 ho4 hs4 h1 h2 hA hB
      obtain ⟨G, cap, rfl, hP⟩ := own_pairsAt ho5
      have hc3 := isContext_spec G cap J w5 hP (by omega)
      rw [HCJ.out] at hc3
      clear hP HCJ
      cases fl with
      | true =>
        have HR : Hid (R = J) := by show R = J; rw [hml.out]; simp
        go_wp2_with fail
        refine hc3.mono ?_
        rintro e w6 ⟨rfl, hb6⟩
        have hpost : NewFreshsB R true w (.returned (.tuple #[.slice G J.length cap, .bool true])) w6 := ⟨_, rfl, by rw [HR.out]; exact own_below ho5 hb6, hs5.trans (hb6.mono hs5.size)⟩
        clear hc3 ho5 hb6 hs5 HR hml
        go_wp2
        go_ret2
        exact hpost
      | false =>
        have HR : R = [] := by rw [hml.out]; simp
        subst HR
        go_wp2_with fail
        refine hc3.mono ?_
        rintro e w6 ⟨rfl, hb6⟩
        have hs6 := hs5.trans (hb6.mono hs5.size)
        have hpost := newFreshsB_empty (b := false) hs6
        clear hc3 ho5 hb6 hs5 hs6 hml
        go_wp2
        go_ret2
        exact hpost
    · have k2' : ctxB m = false := by simpa using k2
      have hr : mergeB l m = false := by unfold mergeB; rw [k2']; simp
      rw [mergeL_no hr, hr]
      rw [k2'] at h2
      clear k1 k2 k2' hr
      go_enter Try.func41, Try.ntmps41
      go_wp2_with fail
      refine (h1 _ (hA.below hb0)).mono ?_
      rintro e w1 ⟨rfl, hb1⟩
      have hs1 := hb0.trans (hb1.mono hb0.size)
      clear hb1 hb0
      go_wp2_with fail
      refine (h2 _ (hB.below hs1)).mono ?_
      rintro e w2 ⟨rfl, hb2⟩
      have hs2 := hs1.trans (hb2.mono hs1.size)
      clear hb2 hs1
      go_wp2_with fail
      refine (h1 _ (hA.below hs2)).mono ?_
      rintro e w4 ⟨rfl, hb4⟩
      have hs4 := hs2.trans (hb4.mono hs2.size)
      clear hb4 hs2
      go_wp2_with fail
      refine (h2 _ (hB.below hs4)).mono ?_
      rintro e w5 ⟨rfl, hb5⟩
      have hs5 := hs4.trans (hb5.mono hs4.size)
      have hpost := newFreshsB_empty (b := false) hs5
      clear hb5 hs4 hs5 h1 h2 hA hB
      go_wp2
      go_ret2
      exact hpost
  · have k1' : ctxB l = false := by simpa using k1
    have hr : mergeB l m = false := by unfold mergeB; rw [k1']; simp
    rw [mergeL_no hr, hr]
    rw [k1'] at h1
    clear k1 k1' h2 hr
    go_enter Try.func41, Try.ntmps41
    go_wp2_with fail
    refine (h1 _ (hA.below hb0)).mono ?_
    rintro e w1 ⟨rfl, hb1⟩
    have hs1 := hb0.trans (hb1.mono hb0.size)
    clear hb1 hb0
    go_wp2_with fail
    refine (h1 _ (hA.below hs1)).mono ?_
    rintro e w2 ⟨rfl, hb2⟩
    have hs2 := hs1.trans (hb2.mono hs1.size)
    have hpost := newFreshsB_empty (b := false) hs2
    clear hb2 hs1 hs2 h1 hA hB
    go_wp2
    go_ret2
    exact hpost

theorem merge_spec_own (b1 b2 : Nat) (v1 v2 : Value) (l m : List (Int × Int)) (w : World) (h1 : w.ownsRow b1 118 2 v1 l.length (cellsOf l)) (h2 : w.ownsRow b2 118 2 v2 m.length (cellsOf m)) (hl : l.length ≤ 1048576) (hm : m.length ≤ 1048576) :
    Calls Try.prog 41 #[v1, v2] w (NewFreshsB (mergeL l m) (mergeB l m) w) := by
  obtain ⟨A, c, rfl, hA⟩ := own_pairsAt h1
  obtain ⟨B, d, rfl, hB⟩ := own_pairsAt h2
  exact merge_spec A B c d l m w hA hB hl hm

end Go.Proofs.Ytddmoempagcjeaa
