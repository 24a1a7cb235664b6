/-
  MergeContexts in the program, as a contract.
-/
import Derived.Test.YtddmoempagcjeaaCtxQ
import Derived.Test.YtddmoempagcjeaaNeedA
import Derived.Carry
namespace Go.Proofs.Ytddmoempagcjeaa
open Go.RowKit Go.Sort Go.ChangeShapes Go.WideShapes Go.WideMaps Go.Maps
set_option linter.unusedVariables false

def mergeB (l m : List (Int × Int)) : Bool := ctxB l && (ctxB m && decide ((joinF l m).length ≤ 40))
def mergeL (l m : List (Int × Int)) : List (Int × Int) := if mergeB l m then joinF l m else []

theorem mergeL_yes {l m : List (Int × Int)} (h : mergeB l m = true) : mergeL l m = joinF l m := by simp [mergeL, h]
theorem mergeL_no {l m : List (Int × Int)} (h : mergeB l m = false) : mergeL l m = [] := by simp [mergeL, h]
theorem mergeL_len (l m : List (Int × Int)) : (mergeL l m).length ≤ l.length + m.length := by
  unfold mergeL
  split
  · exact joinF_len_le l m
  · simp

theorem okF_mem {l : List (Int × Int)} (h : ctxB l = true) : ∀ x ∈ l, okF x := fun x hx => by
  have h1 := (rightB_parts (right_of_ctx h)).1 x hx
  exact okF_of_ctx h1.1 h1.2

theorem okF_pr {l : List (Int × Int)} (h : ∀ x ∈ l, okF x) (i : Nat) (hi : i < l.length) : okF (prAt l i) := by
  have e : prAt l i = l[i] := by simp [prAt, hi]
  rw [e]
  exact h _ (List.getElem_mem hi)

theorem ctxOf_merge {l m : List (Int × Int)} (h1 : ctxB l = true) (h2 : ctxB m = true) : ctxOf (l ++ m) = mergeL l m ∧ fewB (l ++ m) = mergeB l m := by
  have e : sortF (l ++ m) = joinF l m := (joinF_sortF (rightB_parts (right_of_ctx h1)).2 m).symm
  have e2 : fewB (l ++ m) = mergeB l m := by unfold fewB mergeB; rw [e, h1, h2]; simp
  refine ⟨?_, e2⟩
  unfold ctxOf mergeL
  rw [e2, e]

set_option maxRecDepth 100000 in
set_option maxHeartbeats 1000000 in
theorem merge_impl (A B : Option Addr) (c d : Nat) (l m : List (Int × Int)) (w : World) (hA : PairsAt w A l) (hB : PairsAt w B m) (hl : l.length ≤ 1048576) (hm : m.length ≤ 1048576) :
    Calls Try.prog 43 #[.slice A l.length c, .slice B m.length d] w (NewFreshsB (mergeL l m) (mergeB l m) w) := by
  have h1 := isContext_impl A c l w hA (by omega)
  have h2 := fun W hW => isContext_impl B d m W hW (by omega)
  by_cases k1 : ctxB l = true
  · rw [k1] at h1
    by_cases k2 : ctxB m = true
    · rw [k2] at h2
      have hr := ctxOf_merge k1 k2
      rw [← hr.1, ← hr.2]
      have ho1 := Lib.hid (okF_mem k1)
      have ho2 := Lib.hid (okF_mem k2)
      have hll := len_of_ctx k1
      have hlm := len_of_ctx k2
      clear k1 k2 hr
      generalize hL : ctxOf (l ++ m) = L
      generalize hF : fewB (l ++ m) = fl
      have HL := Lib.hid hL
      have HF := Lib.hid hF
      clear hL hF
      have hmm := @run_makeMap Try.prog
      go_enter Try.func43, Try.ntmps43
      go_wp2_with fail
      refine h1.mono ?_
      rintro e w1 ⟨rfl, hb1⟩
      have h2' := h2 w1 (hB.below hb1)
      clear h1 h2
      go_wp2_with fail
      refine h2'.mono ?_
      rintro e w2 ⟨rfl, hb2⟩
      have hs2 := hb1.trans (hb2.mono hb1.size)
      clear h2' hb1 hb2
      go_wp2_with fail
      have hbM : Below w.heap.size w (w2.alloc (.map #[] 0)) := hs2.alloc hs2.size _
      have hsM : SetAt (w2.alloc (.map #[] 0)) w2.heap.size 0 [] := setAt_made w2
      have hAM := hA.below hbM
      generalize (w2.alloc (.map #[] 0)) = w3 at hbM hsM hAM ⊢
      refine (addAll_any A c w2.heap.size 0 l [] w3 hAM hsM (okF_pr ho1.out) (by omega)).mono ?_
      rintro e w4 ⟨rfl, hs4, hg4⟩
      have hb4 : Below w.heap.size w w4 := hbM.grown hg4 hbM.size (fun j hj => by injection hj with hj; have := hs2.size; omega)
      have ha2 := addAll_any B d w2.heap.size (0 + l.length) m ([] ++ l) w4 (hB.below hb4) hs4 (okF_pr ho2.out) (by omega)
      clear hsM hAM hs4 hg4 hA hB hbM
      go_wp2_with fail
      refine ha2.mono ?_
      rintro e w5 ⟨rfl, hs5, hg5⟩
      have hb5 : Below w.heap.size w w5 := hb4.grown hg5 hb4.size (fun j hj => by injection hj with hj; have := hs2.size; omega)
      rw [List.nil_append] at hs5
      have hc := context_any w2.heap.size _ (l ++ m) w5 hs5 (fun x hx => (List.mem_append.1 hx).elim (ho1.out x) (ho2.out x)) (by rw [List.length_append]; omega)
      clear ha2 hs5 hg5 hb4 ho1 ho2 hmm
      rw [HL.out, HF.out] at hc
      clear HL HF
      go_wp2_with fail
      refine hc.mono ?_
      rintro e w6 ⟨v, rfl, ho6, hb6⟩
      have hpost : NewFreshsB L fl w (.returned (.tuple #[v, .bool fl])) w6 := newFreshsB_later ho6 hb6 hb5
      clear hc ho6 hb6 hb5
      go_wp2
      go_ret2
      exact hpost
    · have k2' : ctxB m = false := by simpa using k2
      have hr : mergeB l m = false := by unfold mergeB; rw [k2']; simp
      rw [mergeL_no hr, hr]
      rw [k2'] at h2
      clear k1 k2 k2' hr
      go_enter Try.func43, Try.ntmps43
      go_wp2_with fail
      refine h1.mono ?_
      rintro e w1 ⟨rfl, hb1⟩
      have h2' := h2 w1 (hB.below hb1)
      clear h1 h2
      go_wp2_with fail
      refine h2'.mono ?_
      rintro e w2 ⟨rfl, hb2⟩
      have hs2 := hb1.trans (hb2.mono hb1.size)
      have hpost := newFreshsB_empty (b := false) hs2
      clear h2' hb1 hb2 hs2
      go_wp2
      go_ret2
      exact hpost
  · have k1' : ctxB l = false := by simpa using k1
    have hr : mergeB l m = false := by unfold mergeB; rw [k1']; simp
    rw [mergeL_no hr, hr]
    rw [k1'] at h1
    clear k1 k1' h2 hr
    go_enter Try.func43, Try.ntmps43
    go_wp2_with fail
    refine h1.mono ?_
    rintro e w1 ⟨rfl, hb1⟩
    have hpost := newFreshsB_empty (b := false) hb1
    clear h1 hb1
    go_wp2
    go_ret2
    exact hpost

theorem merge_impl_own (b1 b2 : Nat) (v1 v2 : Value) (l m : List (Int × Int)) (w : World) (h1 : w.ownsRow b1 118 2 v1 l.length (cellsOf l)) (h2 : w.ownsRow b2 118 2 v2 m.length (cellsOf m)) (hl : l.length ≤ 1048576) (hm : m.length ≤ 1048576) :
    Calls Try.prog 43 #[v1, v2] w (NewFreshsB (mergeL l m) (mergeB l m) w) := by
  obtain ⟨A, c, rfl, hA⟩ := own_pairsAt h1
  obtain ⟨B, d, rfl, hB⟩ := own_pairsAt h2
  exact merge_impl A B c d l m w hA hB hl hm

end Go.Proofs.Ytddmoempagcjeaa
