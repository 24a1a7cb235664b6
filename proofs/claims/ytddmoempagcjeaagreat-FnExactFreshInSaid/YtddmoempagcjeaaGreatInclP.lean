/-
  IncludesContext in the program, as a contract.
-/
import Derived.Test.YtddmoempagcjeaaGreatInclI
namespace Go.Proofs.YtddmoempagcjeaaGreat
open Go.RowKit Go.Sort Go.ChangeShapes Go.WideShapes Go.WideMaps Go.Maps
set_option linter.unusedVariables false

set_option maxRecDepth 100000 in
set_option maxHeartbeats 1000000 in
theorem includes_impl (A B : Option Addr) (c d : Nat) (l m : List (Int × Int)) (w : World) (hA : PairsAt w A l) (hB : PairsAt w B m) (hl : l.length ≤ 1048576) (hm : m.length ≤ 1048576) :
    Calls Tryz.prog 37 #[.slice A l.length c, .slice B m.length d] w fun e w' => e = .returned (.bool (inclB l m)) ∧ Below w.heap.size w w' := by
  have h1 := isContext_impl A c l w hA (by omega)
  have h2 := fun W hW => isContext_impl B d m W hW (by omega)
  by_cases k1 : ctxB l = true
  · rw [k1] at h1
    by_cases k2 : ctxB m = true
    · rw [k2] at h2
      have hr : Hid (inclB l m = allIn l m) := by show inclB l m = allIn l m; unfold inclB; rw [k1, k2]; simp
      rw [hr.out]
      have ho1 := Lib.hid (okF_at k1)
      have ho2 := Lib.hid (okF_at k2)
      clear k1 k2 hr
      have hmm := @run_makeMap Tryz.prog
      go_enter Tryz.func37, Tryz.ntmps37
      go_wp2_with fail
      refine h1.mono ?_
      rintro e w1 ⟨rfl, hb1⟩
      have h2' := h2 w1 (hB.below hb1)
      clear h1 h2
      go_wp2_with fail
      refine h2'.mono ?_
      rintro e w2 ⟨rfl, hb2⟩
      have hs2 := hb1.trans (hb2.mono hb1.size)
      clear h2' hb1 hb2
      go_wp2_with fail
      have hbM : Below w.heap.size w ((w2.alloc (.map #[] 0)).alloc (.cells #[.map (some w2.heap.size)] 65)) := (hs2.alloc hs2.size _).alloc (by have := hs2.size; simp; omega) _
      have hsM : SetAt ((w2.alloc (.map #[] 0)).alloc (.cells #[.map (some w2.heap.size)] 65)) w2.heap.size 0 [] := (setAt_made w2).alloc _
      have hVM : (((w2.alloc (.map #[] 0)).alloc (.cells #[.map (some w2.heap.size)] 65)) : World).cell? ⟨w2.heap.size + 1, 0, none⟩ = some (.map (some w2.heap.size)) := by simp
      have hAM := hA.below (hbM.mono (Nat.le_refl _))
      generalize ((w2.alloc (.map #[] 0)).alloc (.cells #[.map (some w2.heap.size)] 65)) = w3 at hbM hsM hVM hAM ⊢
      refine (addAll_any A c w2.heap.size 0 l [] w3 hAM hsM ho1.out (by omega)).mono ?_
      rintro e w4 ⟨rfl, hs4, hg4⟩
      have hb4 : Below w.heap.size w w4 := hbM.grown hg4 hbM.size (fun j hj => by injection hj with hj; have := hs2.size; omega)
      have hV4 := hg4.cell hVM (fun e => by injection e with e; simp at e)
      have hc := containsMissing_any B d (w2.heap.size + 1) w2.heap.size _ _ m w4 (hB.below hb4) hV4 hs4 ho2.out (by omega)
      rw [List.nil_append] at hc
      generalize hR : allIn l m = r at hc
      have HR := Lib.hid hR
      clear hR
      clear hbM hsM hVM hAM hs4 hg4 ho1 ho2 hmm hA hB
      go_wp2_with fail
      refine hc.mono ?_
      rintro e w5 ⟨rfl, hb5⟩
      have hfin := hb4.trans (hb5.mono hb4.size)
      clear hc hb4 hV4
      go_wp2
      go_ret
      exact ⟨bool_end HR.out.symm, hfin⟩
    · have k2' : ctxB m = false := by simpa using k2
      have hr : Hid (inclB l m = false) := by show inclB l m = false; unfold inclB; rw [k2']; simp
      rw [k2'] at h2
      clear k1 k2 k2'
      go_enter Tryz.func37, Tryz.ntmps37
      go_wp2_with fail
      refine h1.mono ?_
      rintro e w1 ⟨rfl, hb1⟩
      have h2' := h2 w1 (hB.below hb1)
      clear h1 h2
      go_wp2_with fail
      refine h2'.mono ?_
      rintro e w2 ⟨rfl, hb2⟩
      have hs2 := hb1.trans (hb2.mono hb1.size)
      clear h2' hb1 hb2
      go_wp2
      go_ret
      exact ⟨bool_end hr.out.symm, hs2⟩
  · have k1' : ctxB l = false := by simpa using k1
    have hr : Hid (inclB l m = false) := by show inclB l m = false; unfold inclB; rw [k1']; simp
    rw [k1'] at h1
    clear k1 k1' h2
    go_enter Tryz.func37, Tryz.ntmps37
    go_wp2_with fail
    refine h1.mono ?_
    rintro e w1 ⟨rfl, hb1⟩
    clear h1
    go_wp2
    go_ret
    exact ⟨bool_end hr.out.symm, hb1⟩

end Go.Proofs.YtddmoempagcjeaaGreat
