/-
  DifferenceOf, in the program and in the model, as contracts.
-/
import Derived.Test.YtianehmfdcdojaaDifferI
namespace Go.Proofs.Ytianehmfdcdojaa
open Go.RowKit Go.Sort

def difL (p q : List (Int × Int)) : List Int := if permB p && permB q then differL p q else []

theorem difL_yes {p q : List (Int × Int)} (h1 : permB p = true) (h2 : permB q = true) : difL p q = differL p q := by simp [difL, h1, h2]
theorem difL_no1 {p q : List (Int × Int)} (h1 : permB p = false) : difL p q = [] := by simp [difL, h1]
theorem difL_no2 {p q : List (Int × Int)} (h2 : permB q = false) : difL p q = [] := by simp [difL, h2]
theorem difL_len (p q : List (Int × Int)) : (difL p q).length ≤ p.length + q.length := by
  unfold difL
  split
  · exact Nat.le_trans (List.length_filter_le _ _) (atomsL_len p q)
  · simp

theorem newInts_box (w : World) : NewInts [] w (.returned (.slice (some ⟨w.heap.size, 0, none⟩) 0 0)) (w.alloc (.cells #[] 3)) :=
  ⟨_, rfl, World.ownsRow_lit w #[] 0 (Nat.le_refl _) (by decide) rfl, (Below.refl _ _).alloc (Nat.le_refl _) _⟩

set_option maxRecDepth 100000 in
theorem difference_impl (A1 A2 : Option Addr) (d1 d2 : Nat) (p q : List (Int × Int)) (w : World) (hp : PairsAt w A1 p) (hq : PairsAt w A2 q) (hlp : p.length ≤ 1048576) (hlq : q.length ≤ 1048576) :
    Calls Try.prog 7 #[.slice A1 p.length d1, .slice A2 q.length d2] w (NewInts (difL p q) w) := by
  have hpp := isPerm_impl A1 d1 p w hp (by omega)
  by_cases h1 : permB p = true
  · have hpq := fun W hQ => isPerm_impl A2 d2 q W hQ (by omega)
    rw [h1] at hpp
    by_cases h2 : permB q = true
    · rw [difL_yes h1 h2]
      rw [h2] at hpq
      have hd := fun W hP hQ => differenceIn_any A1 A2 d1 d2 p q W hP hQ hlp hlq h1 h2
      clear h1 h2
      go_enter Try.func7, Try.ntmps7
      go_wp2_with fail
      refine hpp.mono ?_
      rintro e w1 ⟨rfl, hb1⟩
      have hpq' := hpq w1 (hq.below hb1)
      clear hpp hpq
      go_wp2_with fail
      refine hpq'.mono ?_
      rintro e w2 ⟨rfl, hb2⟩
      have hs2 := hb1.trans (hb2.mono hb1.size)
      have hd' := hd w2 (hp.below hs2) (hq.below hs2)
      clear hpq' hb1 hb2 hp hq hd
      go_wp2_with fail
      refine hd'.mono ?_
      rintro e w3 hn
      obtain ⟨v, rfl, ho, hb3⟩ := newInts_later hn hs2
      clear hd' hn hs2
      go_wp2
      go_ret
      exact ⟨v, rfl, ho, hb3⟩
    · have h2' : permB q = false := by simpa using h2
      rw [difL_no2 h2']
      rw [h2'] at hpq
      clear h1 h2 h2'
      go_enter Try.func7, Try.ntmps7
      go_wp2_with fail
      refine hpp.mono ?_
      rintro e w1 ⟨rfl, hb1⟩
      have hpq' := hpq w1 (hq.below hb1)
      clear hpp hpq
      go_wp2_with fail
      refine hpq'.mono ?_
      rintro e w2 ⟨rfl, hb2⟩
      have hpost := newInts_later (newInts_box w2) (hb1.trans (hb2.mono hb1.size))
      clear hpq' hb1 hb2 hp hq
      go_wp2
      go_ret
      exact hpost
  · have h1' : permB p = false := by simpa using h1
    rw [difL_no1 h1']
    rw [h1'] at hpp
    clear h1 h1'
    go_enter Try.func7, Try.ntmps7
    go_wp2_with fail
    refine hpp.mono ?_
    rintro e w1 ⟨rfl, hb1⟩
    have hpost := newInts_later (newInts_box w1) hb1
    clear hpp hb1 hp hq
    go_wp2
    go_ret
    exact hpost

theorem difference_impl_own (b1 b2 : Nat) (v1 v2 : Value) (p q : List (Int × Int)) (w : World) (h1 : w.ownsRow b1 46 2 v1 p.length (cellsOf p)) (h2 : w.ownsRow b2 46 2 v2 q.length (cellsOf q)) (hlp : p.length ≤ 1048576) (hlq : q.length ≤ 1048576) :
    Calls Try.prog 7 #[v1, v2] w (NewInts (difL p q) w) := by
  obtain ⟨A, c, rfl, hA⟩ := own_pairsAt h1
  obtain ⟨B, d, rfl, hB⟩ := own_pairsAt h2
  exact difference_impl A B c d p q w hA hB hlp hlq

end Go.Proofs.Ytianehmfdcdojaa
