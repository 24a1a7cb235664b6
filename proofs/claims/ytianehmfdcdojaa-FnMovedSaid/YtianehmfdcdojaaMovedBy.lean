/-
  The atoms that a permutation moves, in the program, as a contract.
-/
import Derived.Test.YtianehmfdcdojaaAtoms
namespace Go.Proofs.Ytianehmfdcdojaa
open Go.RowKit Go.Sort

def movedL (l : List (Int × Int)) : List Int := if permB l then froms l else []

theorem movedL_yes {l : List (Int × Int)} (h : permB l = true) : movedL l = froms l := by simp [movedL, h]
theorem movedL_no {l : List (Int × Int)} (h : permB l = false) : movedL l = [] := by simp [movedL, h]
theorem movedL_len (l : List (Int × Int)) : (movedL l).length ≤ l.length := by
  unfold movedL
  split
  · rw [froms_len]; exact Nat.le_refl _
  · simp

theorem movedBy_impl (A : Option Addr) (c : Nat) (l : List (Int × Int)) (w : World) (hA : PairsAt w A l) (hl : l.length ≤ 1099511627776) :
    Calls Try.prog 6 #[.slice A l.length c] w (NewInts (movedL l) w) := by
  have hp := isPerm_impl A c l w hA hl
  by_cases h1 : permB l = true
  · rw [h1] at hp
    rw [movedL_yes h1]
    clear h1
    go_enter Try.func6, Try.ntmps6
    go_wp2_with fail
    refine hp.mono ?_
    rintro e w1 ⟨rfl, hb1⟩
    have hm := movedIn_any A c l w1 (hA.below hb1) hl
    clear hp hA
    go_wp2_with fail
    refine hm.mono ?_
    rintro e w2 hn
    obtain ⟨v, rfl, ho, hb2⟩ := newInts_later hn hb1
    clear hm hb1 hn
    go_wp2
    go_ret
    exact ⟨v, rfl, ho, hb2⟩
  · have h1' : permB l = false := by simpa using h1
    rw [h1'] at hp
    rw [movedL_no h1']
    clear h1 h1' hA
    go_enter Try.func6, Try.ntmps6
    go_wp2_with fail
    refine hp.mono ?_
    rintro e w1 ⟨rfl, hb1⟩
    have hpost : NewInts [] w (.returned (.slice (some ⟨w1.heap.size, 0, none⟩) 0 0)) (w1.alloc (.cells #[] 3)) :=
      newInts_later ⟨_, rfl, World.ownsRow_lit w1 #[] 0 (Nat.le_refl _) (by decide) rfl, (Below.refl _ _).alloc (Nat.le_refl _) _⟩ hb1
    clear hp hb1
    go_wp2
    go_ret
    exact hpost

theorem movedBy_impl_own (base : Nat) (v : Value) (l : List (Int × Int)) (w : World) (h : w.ownsRow base 46 2 v l.length (cellsOf l)) (hl : l.length ≤ 1048576) :
    Calls Try.prog 6 #[v] w (NewInts (movedL l) w) := by
  obtain ⟨A, c, rfl, hA⟩ := own_pairsAt h
  exact movedBy_impl A c l w hA (by omega)

end Go.Proofs.Ytianehmfdcdojaa
