/-
  What a permutation gives to an atom, in the program and in the model, as contracts.
-/
import Derived.Test.YtddmoempagcjeaaImgIn
namespace Go.Proofs.Ytddmoempagcjeaa
open Go.RowKit Go.Sort

theorem imageOf_impl (A : Option Addr) (c : Nat) (l : List (Int × Int)) (a : Int) (w : World) (hA : PairsAt w A l) (hl : l.length ≤ 1099511627776) :
    Calls Try.prog 21 #[.slice A l.length c, .int .i64 a] w fun e w' => e = .returned (.int .i64 (imageF l a)) ∧ Below w.heap.size w w' := by
  have hp := isPerm_impl A c l w hA hl
  by_cases h1 : permB l = true
  · have hasc := Lib.hid (asc_of_order (permB_parts h1).2.1)
    rw [h1] at hp
    by_cases h2 : atomB a = true
    · have hres : Hid (imageF l a = imgL l a) := imageF_yes h1 h2
      have him := fun W hW => imageIn_any A c l a W hW hl hasc.out
      clear h1
      go_enter Try.func21, Try.ntmps21
      go_wp2_with fail
      refine hp.mono ?_
      rintro e w1 ⟨rfl, hb1⟩
      have hA1 := hA.below hb1
      clear hp hA
      go_wp2_with (go_at_call 62; refine (isAtom_any _ _).mono ?_; rintro e w' ⟨rfl, rfl⟩)
      refine (him _ hA1).mono ?_
      rintro e w2 ⟨rfl, hb2⟩
      have hb3 := hb1.trans (hb2.mono hb1.size)
      clear him hA1 hb1 hb2
      go_wp2
      go_ret
      exact ⟨int_end hres.out.symm, hb3⟩
    · have h2' : atomB a = false := by simpa using h2
      have hres : Hid (imageF l a = -1) := imageF_no2 h2'
      clear h1 h2 hA
      go_enter Try.func21, Try.ntmps21
      go_wp2_with fail
      refine hp.mono ?_
      rintro e w1 ⟨rfl, hb1⟩
      clear hp
      go_wp2_with (go_at_call 62; refine (isAtom_any _ _).mono ?_; rintro e w' ⟨rfl, rfl⟩)
      go_ret
      exact ⟨int_end hres.out.symm, hb1⟩
  · have h1' : permB l = false := by simpa using h1
    have hres : Hid (imageF l a = -1) := imageF_no1 h1'
    rw [h1'] at hp
    clear h1 h1' hA
    go_enter Try.func21, Try.ntmps21
    go_wp2_with fail
    refine hp.mono ?_
    rintro e w1 ⟨rfl, hb1⟩
    clear hp
    go_wp2
    go_ret
    exact ⟨int_end hres.out.symm, hb1⟩

end Go.Proofs.Ytddmoempagcjeaa
