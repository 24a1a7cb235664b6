/-
  Copies of equations, in memory of their own, as the laws make them.
-/
import Derived.Test.YtnomidnjglbedaaKIsProblem12
import Derived.Test.YtnomidnjglbedaaKIsProblem7
namespace Go.Proofs.Ytnomidnjglbedaa
open Go.RowKit Go.ChangeShapes Go.WideShapes
set_option linter.unusedVariables false

/-- The cells of a record. -/
def encREquation (r : REquation) : List Mem := encT r.f0 ++ encT r.f1
def encREquations : List REquation → List Mem
  | [] => []
  | r :: rs => encREquation r ++ encREquations rs
theorem encREquation_len (r : REquation) : (encREquation r).length = 8 := by simp [encREquation, encT_len]
theorem encREquations_len : ∀ rs : List REquation, (encREquations rs).length = rs.length * 8
  | [] => rfl
  | r :: rs => by rw [encREquations, List.length_append, encREquation_len, encREquations_len rs, List.length_cons]; omega
theorem encREquations_append : ∀ a b : List REquation, encREquations (a ++ b) = encREquations a ++ encREquations b
  | [], b => rfl
  | r :: a, b => by rw [List.cons_append, encREquations, encREquations, encREquations_append a b, List.append_assoc]
def memREquations (rs : List REquation) : Mem := .row 115 8 (encREquations rs)
/-- A record of the call's own. -/
def REquationOut (r : REquation) (w : World) (e : Ending) (w' : World) : Prop :=
  ∃ P0 q0 K0 s0 P1 q1 K1 s1 S, e = .returned (.agg #[.int .i64 r.f0.op, .int .i64 r.f0.num, .slice P0 r.f0.perm.length q0, .slice K0 r.f0.kids.length s0, .int .i64 r.f1.op, .int .i64 r.f1.num, .slice P1 r.f1.perm.length q1, .slice K1 r.f1.kids.length s1]) ∧ OwnL w' S [.int .i64 r.f0.op, .int .i64 r.f0.num, .slice P0 r.f0.perm.length q0, .slice K0 r.f0.kids.length s0, .int .i64 r.f1.op, .int .i64 r.f1.num, .slice P1 r.f1.perm.length q1, .slice K1 r.f1.kids.length s1] (encREquation r) ∧ (∀ b ∈ S, w.heap.size ≤ b) ∧ Below w.heap.size w w'
def REquationsOut (rs : List REquation) (w : World) (e : Ending) (w' : World) : Prop :=
  ∃ v S, e = .returned v ∧ Own w' S v (memREquations rs) ∧ (∀ b ∈ S, w.heap.size ≤ b) ∧ Below w.heap.size w w'

set_option maxRecDepth 100000 in
set_option maxHeartbeats 4000000 in
theorem toEquation_any (r : REquation) (hf : Fit r.f0 ∧ Fit r.f1) (w : World) (v : Value) (hv : REquationIn w v r) : Calls Try.prog 85 #[v] w (REquationOut r w) := by
  obtain ⟨A0, c0, B0, d0, A1, c1, B1, d1, rfl, hv0, hv1⟩ := hv
  have hb0 : Below w.heap.size w (((w.alloc (.cells #[.int .i64 r.f0.op, .int .i64 r.f0.num, .slice A0 r.f0.perm.length c0, .slice B0 r.f0.kids.length d0, .int .i64 r.f1.op, .int .i64 r.f1.num, .slice A1 r.f1.perm.length c1, .slice B1 r.f1.kids.length d1] 113)).alloc (.cells #[.int .i64 0, .int .i64 0, .slice none 0 0, .slice none 0 0, .int .i64 0, .int .i64 0, .slice none 0 0, .slice none 0 0] 115)).alloc (.cells #[.int .i64 0, .int .i64 0, .slice none 0 0, .slice none 0 0, .int .i64 0, .int .i64 0, .slice none 0 0, .slice none 0 0] 115)) := (((Below.refl _ _).alloc (Nat.le_refl _) _).alloc (by simp) _).alloc (by simp; omega) _
  have hto := toTerm_any r.f0 hf.1 _ _ (hv0.below hb0)
  have hsz0 : (((w.alloc (.cells #[.int .i64 r.f0.op, .int .i64 r.f0.num, .slice A0 r.f0.perm.length c0, .slice B0 r.f0.kids.length d0, .int .i64 r.f1.op, .int .i64 r.f1.num, .slice A1 r.f1.perm.length c1, .slice B1 r.f1.kids.length d1] 113)).alloc (.cells #[.int .i64 0, .int .i64 0, .slice none 0 0, .slice none 0 0, .int .i64 0, .int .i64 0, .slice none 0 0, .slice none 0 0] 115)).alloc (.cells #[.int .i64 0, .int .i64 0, .slice none 0 0, .slice none 0 0, .int .i64 0, .int .i64 0, .slice none 0 0, .slice none 0 0] 115)).heap.size = w.heap.size + 3 := by simp
  have hbox : (((w.alloc (.cells #[.int .i64 r.f0.op, .int .i64 r.f0.num, .slice A0 r.f0.perm.length c0, .slice B0 r.f0.kids.length d0, .int .i64 r.f1.op, .int .i64 r.f1.num, .slice A1 r.f1.perm.length c1, .slice B1 r.f1.kids.length d1] 113)).alloc (.cells #[.int .i64 0, .int .i64 0, .slice none 0 0, .slice none 0 0, .int .i64 0, .int .i64 0, .slice none 0 0, .slice none 0 0] 115)).alloc (.cells #[.int .i64 0, .int .i64 0, .slice none 0 0, .slice none 0 0, .int .i64 0, .int .i64 0, .slice none 0 0, .slice none 0 0] 115)).heap[w.heap.size]? = some (.cells #[.int .i64 r.f0.op, .int .i64 r.f0.num, .slice A0 r.f0.perm.length c0, .slice B0 r.f0.kids.length d0, .int .i64 r.f1.op, .int .i64 r.f1.num, .slice A1 r.f1.perm.length c1, .slice B1 r.f1.kids.length d1] 113 (0, 0)) := (Below.heap_alloc _ _ _ (by simp; omega)).trans ((Below.heap_alloc _ _ _ (by simp)).trans (heap_alloc_new w _))
  have hres : (((w.alloc (.cells #[.int .i64 r.f0.op, .int .i64 r.f0.num, .slice A0 r.f0.perm.length c0, .slice B0 r.f0.kids.length d0, .int .i64 r.f1.op, .int .i64 r.f1.num, .slice A1 r.f1.perm.length c1, .slice B1 r.f1.kids.length d1] 113)).alloc (.cells #[.int .i64 0, .int .i64 0, .slice none 0 0, .slice none 0 0, .int .i64 0, .int .i64 0, .slice none 0 0, .slice none 0 0] 115)).alloc (.cells #[.int .i64 0, .int .i64 0, .slice none 0 0, .slice none 0 0, .int .i64 0, .int .i64 0, .slice none 0 0, .slice none 0 0] 115)).heap[w.heap.size + 1]? = some (.cells #[.int .i64 0, .int .i64 0, .slice none 0 0, .slice none 0 0, .int .i64 0, .int .i64 0, .slice none 0 0, .slice none 0 0] 115 (0, 0)) := by
    have h9 := heap_alloc_new (w.alloc (.cells #[.int .i64 r.f0.op, .int .i64 r.f0.num, .slice A0 r.f0.perm.length c0, .slice B0 r.f0.kids.length d0, .int .i64 r.f1.op, .int .i64 r.f1.num, .slice A1 r.f1.perm.length c1, .slice B1 r.f1.kids.length d1] 113)) (.cells #[.int .i64 0, .int .i64 0, .slice none 0 0, .slice none 0 0, .int .i64 0, .int .i64 0, .slice none 0 0, .slice none 0 0] 115)
    rw [World.size_alloc] at h9
    exact (Below.heap_alloc _ _ _ (by simp)).trans h9
  have hout : (((w.alloc (.cells #[.int .i64 r.f0.op, .int .i64 r.f0.num, .slice A0 r.f0.perm.length c0, .slice B0 r.f0.kids.length d0, .int .i64 r.f1.op, .int .i64 r.f1.num, .slice A1 r.f1.perm.length c1, .slice B1 r.f1.kids.length d1] 113)).alloc (.cells #[.int .i64 0, .int .i64 0, .slice none 0 0, .slice none 0 0, .int .i64 0, .int .i64 0, .slice none 0 0, .slice none 0 0] 115)).alloc (.cells #[.int .i64 0, .int .i64 0, .slice none 0 0, .slice none 0 0, .int .i64 0, .int .i64 0, .slice none 0 0, .slice none 0 0] 115)).heap[w.heap.size + 1 + 1]? = some (.cells #[.int .i64 0, .int .i64 0, .slice none 0 0, .slice none 0 0, .int .i64 0, .int .i64 0, .slice none 0 0, .slice none 0 0] 115 (0, 0)) := by
    have h9 := heap_alloc_new ((w.alloc (.cells #[.int .i64 r.f0.op, .int .i64 r.f0.num, .slice A0 r.f0.perm.length c0, .slice B0 r.f0.kids.length d0, .int .i64 r.f1.op, .int .i64 r.f1.num, .slice A1 r.f1.perm.length c1, .slice B1 r.f1.kids.length d1] 113)).alloc (.cells #[.int .i64 0, .int .i64 0, .slice none 0 0, .slice none 0 0, .int .i64 0, .int .i64 0, .slice none 0 0, .slice none 0 0] 115)) (.cells #[.int .i64 0, .int .i64 0, .slice none 0 0, .slice none 0 0, .int .i64 0, .int .i64 0, .slice none 0 0, .slice none 0 0] 115)
    rw [World.size_alloc, World.size_alloc] at h9
    exact h9
  have l0 : (((w.alloc (.cells #[.int .i64 r.f0.op, .int .i64 r.f0.num, .slice A0 r.f0.perm.length c0, .slice B0 r.f0.kids.length d0, .int .i64 r.f1.op, .int .i64 r.f1.num, .slice A1 r.f1.perm.length c1, .slice B1 r.f1.kids.length d1] 113)).alloc (.cells #[.int .i64 0, .int .i64 0, .slice none 0 0, .slice none 0 0, .int .i64 0, .int .i64 0, .slice none 0 0, .slice none 0 0] 115)).alloc (.cells #[.int .i64 0, .int .i64 0, .slice none 0 0, .slice none 0 0, .int .i64 0, .int .i64 0, .slice none 0 0, .slice none 0 0] 115)).cell? ⟨w.heap.size, 0, none⟩ = some (.int .i64 r.f0.op) := by rw [cell_of_row _ _ 0 _ _ _ hbox]; rfl
  have l1 : (((w.alloc (.cells #[.int .i64 r.f0.op, .int .i64 r.f0.num, .slice A0 r.f0.perm.length c0, .slice B0 r.f0.kids.length d0, .int .i64 r.f1.op, .int .i64 r.f1.num, .slice A1 r.f1.perm.length c1, .slice B1 r.f1.kids.length d1] 113)).alloc (.cells #[.int .i64 0, .int .i64 0, .slice none 0 0, .slice none 0 0, .int .i64 0, .int .i64 0, .slice none 0 0, .slice none 0 0] 115)).alloc (.cells #[.int .i64 0, .int .i64 0, .slice none 0 0, .slice none 0 0, .int .i64 0, .int .i64 0, .slice none 0 0, .slice none 0 0] 115)).cell? ⟨w.heap.size, 1, none⟩ = some (.int .i64 r.f0.num) := by rw [cell_of_row _ _ 1 _ _ _ hbox]; rfl
  have l2 : (((w.alloc (.cells #[.int .i64 r.f0.op, .int .i64 r.f0.num, .slice A0 r.f0.perm.length c0, .slice B0 r.f0.kids.length d0, .int .i64 r.f1.op, .int .i64 r.f1.num, .slice A1 r.f1.perm.length c1, .slice B1 r.f1.kids.length d1] 113)).alloc (.cells #[.int .i64 0, .int .i64 0, .slice none 0 0, .slice none 0 0, .int .i64 0, .int .i64 0, .slice none 0 0, .slice none 0 0] 115)).alloc (.cells #[.int .i64 0, .int .i64 0, .slice none 0 0, .slice none 0 0, .int .i64 0, .int .i64 0, .slice none 0 0, .slice none 0 0] 115)).cell? ⟨w.heap.size, 2, none⟩ = some (.slice A0 r.f0.perm.length c0) := by rw [cell_of_row _ _ 2 _ _ _ hbox]; rfl
  have l3 : (((w.alloc (.cells #[.int .i64 r.f0.op, .int .i64 r.f0.num, .slice A0 r.f0.perm.length c0, .slice B0 r.f0.kids.length d0, .int .i64 r.f1.op, .int .i64 r.f1.num, .slice A1 r.f1.perm.length c1, .slice B1 r.f1.kids.length d1] 113)).alloc (.cells #[.int .i64 0, .int .i64 0, .slice none 0 0, .slice none 0 0, .int .i64 0, .int .i64 0, .slice none 0 0, .slice none 0 0] 115)).alloc (.cells #[.int .i64 0, .int .i64 0, .slice none 0 0, .slice none 0 0, .int .i64 0, .int .i64 0, .slice none 0 0, .slice none 0 0] 115)).cell? ⟨w.heap.size, 3, none⟩ = some (.slice B0 r.f0.kids.length d0) := by rw [cell_of_row _ _ 3 _ _ _ hbox]; rfl
  have l4 : (((w.alloc (.cells #[.int .i64 r.f0.op, .int .i64 r.f0.num, .slice A0 r.f0.perm.length c0, .slice B0 r.f0.kids.length d0, .int .i64 r.f1.op, .int .i64 r.f1.num, .slice A1 r.f1.perm.length c1, .slice B1 r.f1.kids.length d1] 113)).alloc (.cells #[.int .i64 0, .int .i64 0, .slice none 0 0, .slice none 0 0, .int .i64 0, .int .i64 0, .slice none 0 0, .slice none 0 0] 115)).alloc (.cells #[.int .i64 0, .int .i64 0, .slice none 0 0, .slice none 0 0, .int .i64 0, .int .i64 0, .slice none 0 0, .slice none 0 0] 115)).cell? ⟨w.heap.size, 4, none⟩ = some (.int .i64 r.f1.op) := by rw [cell_of_row _ _ 4 _ _ _ hbox]; rfl
  have l5 : (((w.alloc (.cells #[.int .i64 r.f0.op, .int .i64 r.f0.num, .slice A0 r.f0.perm.length c0, .slice B0 r.f0.kids.length d0, .int .i64 r.f1.op, .int .i64 r.f1.num, .slice A1 r.f1.perm.length c1, .slice B1 r.f1.kids.length d1] 113)).alloc (.cells #[.int .i64 0, .int .i64 0, .slice none 0 0, .slice none 0 0, .int .i64 0, .int .i64 0, .slice none 0 0, .slice none 0 0] 115)).alloc (.cells #[.int .i64 0, .int .i64 0, .slice none 0 0, .slice none 0 0, .int .i64 0, .int .i64 0, .slice none 0 0, .slice none 0 0] 115)).cell? ⟨w.heap.size, 5, none⟩ = some (.int .i64 r.f1.num) := by rw [cell_of_row _ _ 5 _ _ _ hbox]; rfl
  have l6 : (((w.alloc (.cells #[.int .i64 r.f0.op, .int .i64 r.f0.num, .slice A0 r.f0.perm.length c0, .slice B0 r.f0.kids.length d0, .int .i64 r.f1.op, .int .i64 r.f1.num, .slice A1 r.f1.perm.length c1, .slice B1 r.f1.kids.length d1] 113)).alloc (.cells #[.int .i64 0, .int .i64 0, .slice none 0 0, .slice none 0 0, .int .i64 0, .int .i64 0, .slice none 0 0, .slice none 0 0] 115)).alloc (.cells #[.int .i64 0, .int .i64 0, .slice none 0 0, .slice none 0 0, .int .i64 0, .int .i64 0, .slice none 0 0, .slice none 0 0] 115)).cell? ⟨w.heap.size, 6, none⟩ = some (.slice A1 r.f1.perm.length c1) := by rw [cell_of_row _ _ 6 _ _ _ hbox]; rfl
  have l7 : (((w.alloc (.cells #[.int .i64 r.f0.op, .int .i64 r.f0.num, .slice A0 r.f0.perm.length c0, .slice B0 r.f0.kids.length d0, .int .i64 r.f1.op, .int .i64 r.f1.num, .slice A1 r.f1.perm.length c1, .slice B1 r.f1.kids.length d1] 113)).alloc (.cells #[.int .i64 0, .int .i64 0, .slice none 0 0, .slice none 0 0, .int .i64 0, .int .i64 0, .slice none 0 0, .slice none 0 0] 115)).alloc (.cells #[.int .i64 0, .int .i64 0, .slice none 0 0, .slice none 0 0, .int .i64 0, .int .i64 0, .slice none 0 0, .slice none 0 0] 115)).cell? ⟨w.heap.size, 7, none⟩ = some (.slice B1 r.f1.kids.length d1) := by rw [cell_of_row _ _ 7 _ _ _ hbox]; rfl
  have HS0 := Lib.hid hsz0
  have HO := Lib.hid hout
  have HR := Lib.hid hres
  clear hsz0 hbox hout hres hv0
  go_enter Try.func85, Try.ntmps85
  go_wp2_with fail
  refine hto.mono ?_
  rintro e w1 ⟨P0, q0, K0, s0, S0, rfl, hL0, hS0, hb1⟩
  have hrx := (hb1.block (w.heap.size + 1) (by rw [HS0.out]; omega)).trans HR.out
  have hox := (hb1.block (w.heap.size + 1 + 1) (by rw [HS0.out]; omega)).trans HO.out
  have k4 : w1.cell? ⟨w.heap.size, 4, none⟩ = some (.int .i64 r.f1.op) := (hb1.cell (p := ⟨w.heap.size, 4, none⟩) (by rw [HS0.out]; show w.heap.size < _; omega)).trans l4
  have k5 : w1.cell? ⟨w.heap.size, 5, none⟩ = some (.int .i64 r.f1.num) := (hb1.cell (p := ⟨w.heap.size, 5, none⟩) (by rw [HS0.out]; show w.heap.size < _; omega)).trans l5
  have k6 : w1.cell? ⟨w.heap.size, 6, none⟩ = some (.slice A1 r.f1.perm.length c1) := (hb1.cell (p := ⟨w.heap.size, 6, none⟩) (by rw [HS0.out]; show w.heap.size < _; omega)).trans l6
  have k7 : w1.cell? ⟨w.heap.size, 7, none⟩ = some (.slice B1 r.f1.kids.length d1) := (hb1.cell (p := ⟨w.heap.size, 7, none⟩) (by rw [HS0.out]; show w.heap.size < _; omega)).trans l7
  have x0 : w1.cell? ⟨w.heap.size + 1 + 1, 0, none⟩ = some (.int .i64 0) := by rw [cell_of_row w1 (w.heap.size + 1 + 1) 0 _ _ _ hox]; rfl
  have y0 : w1.frozen? ⟨w.heap.size + 1 + 1, 0, none⟩ = false := frozen_of_row w1 (w.heap.size + 1 + 1) 0 _ _ hox
  have x1 : w1.cell? ⟨w.heap.size + 1 + 1, 1, none⟩ = some (.int .i64 0) := by rw [cell_of_row w1 (w.heap.size + 1 + 1) 1 _ _ _ hox]; rfl
  have y1 : w1.frozen? ⟨w.heap.size + 1 + 1, 1, none⟩ = false := frozen_of_row w1 (w.heap.size + 1 + 1) 1 _ _ hox
  have x2 : w1.cell? ⟨w.heap.size + 1 + 1, 2, none⟩ = some (.slice none 0 0) := by rw [cell_of_row w1 (w.heap.size + 1 + 1) 2 _ _ _ hox]; rfl
  have y2 : w1.frozen? ⟨w.heap.size + 1 + 1, 2, none⟩ = false := frozen_of_row w1 (w.heap.size + 1 + 1) 2 _ _ hox
  have x3 : w1.cell? ⟨w.heap.size + 1 + 1, 3, none⟩ = some (.slice none 0 0) := by rw [cell_of_row w1 (w.heap.size + 1 + 1) 3 _ _ _ hox]; rfl
  have y3 : w1.frozen? ⟨w.heap.size + 1 + 1, 3, none⟩ = false := frozen_of_row w1 (w.heap.size + 1 + 1) 3 _ _ hox
  have hsw := hb1.size
  rw [HS0.out] at hS0 hsw
  have hbz := hb0.trans (hb1.mono hb0.size)
  have hbA : Below w.heap.size w ((((w1.setCell ⟨w.heap.size + 1 + 1, 0, none⟩ (.int .i64 r.f0.op)).setCell ⟨w.heap.size + 1 + 1, 1, none⟩ (.int .i64 r.f0.num)).setCell ⟨w.heap.size + 1 + 1, 2, none⟩ (.slice P0 r.f0.perm.length q0)).setCell ⟨w.heap.size + 1 + 1, 3, none⟩ (.slice K0 r.f0.kids.length s0)) := ((((hbz.setCell (p := ⟨w.heap.size + 1 + 1, 0, none⟩) (show w.heap.size ≤ w.heap.size + 1 + 1 by omega) (.int .i64 r.f0.op)).setCell (p := ⟨w.heap.size + 1 + 1, 1, none⟩) (show w.heap.size ≤ w.heap.size + 1 + 1 by omega) (.int .i64 r.f0.num)).setCell (p := ⟨w.heap.size + 1 + 1, 2, none⟩) (show w.heap.size ≤ w.heap.size + 1 + 1 by omega) (.slice P0 r.f0.perm.length q0)).setCell (p := ⟨w.heap.size + 1 + 1, 3, none⟩) (show w.heap.size ≤ w.heap.size + 1 + 1 by omega) (.slice K0 r.f0.kids.length s0))
  have hto2 := toTerm_any r.f1 hf.2 ((((w1.setCell ⟨w.heap.size + 1 + 1, 0, none⟩ (.int .i64 r.f0.op)).setCell ⟨w.heap.size + 1 + 1, 1, none⟩ (.int .i64 r.f0.num)).setCell ⟨w.heap.size + 1 + 1, 2, none⟩ (.slice P0 r.f0.perm.length q0)).setCell ⟨w.heap.size + 1 + 1, 3, none⟩ (.slice K0 r.f0.kids.length s0)) _ (hv1.below hbA)
  have neX : ∀ b ∈ S0, b ≠ w.heap.size + 1 + 1 := fun b hb => by have := hS0 b hb; omega
  have neR : ∀ b ∈ S0, b ≠ w.heap.size + 1 := fun b hb => by have := hS0 b hb; omega
  have hLA := ((((hL0.setOther ⟨w.heap.size + 1 + 1, 0, none⟩ (.int .i64 r.f0.op) neX).setOther ⟨w.heap.size + 1 + 1, 1, none⟩ (.int .i64 r.f0.num) neX).setOther ⟨w.heap.size + 1 + 1, 2, none⟩ (.slice P0 r.f0.perm.length q0) neX).setOther ⟨w.heap.size + 1 + 1, 3, none⟩ (.slice K0 r.f0.kids.length s0) neX)
  have hs0 := heap_setCell_same w1 (w.heap.size + 1 + 1) 0 _ _ (.int .i64 r.f0.op) hox
  have hs1 := heap_setCell_same (w1.setCell ⟨w.heap.size + 1 + 1, 0, none⟩ (.int .i64 r.f0.op)) (w.heap.size + 1 + 1) 1 _ _ (.int .i64 r.f0.num) hs0
  have hs2 := heap_setCell_same ((w1.setCell ⟨w.heap.size + 1 + 1, 0, none⟩ (.int .i64 r.f0.op)).setCell ⟨w.heap.size + 1 + 1, 1, none⟩ (.int .i64 r.f0.num)) (w.heap.size + 1 + 1) 2 _ _ (.slice P0 r.f0.perm.length q0) hs1
  have hs3 := heap_setCell_same (((w1.setCell ⟨w.heap.size + 1 + 1, 0, none⟩ (.int .i64 r.f0.op)).setCell ⟨w.heap.size + 1 + 1, 1, none⟩ (.int .i64 r.f0.num)).setCell ⟨w.heap.size + 1 + 1, 2, none⟩ (.slice P0 r.f0.perm.length q0)) (w.heap.size + 1 + 1) 3 _ _ (.slice K0 r.f0.kids.length s0) hs2
  have ht0 := (Below.heap_setCell w1 ⟨w.heap.size + 1 + 1, 0, none⟩ (.int .i64 r.f0.op) (w.heap.size + 1) (show w.heap.size + 1 ≠ w.heap.size + 1 + 1 by omega)).trans hrx
  have ht1 := (Below.heap_setCell (w1.setCell ⟨w.heap.size + 1 + 1, 0, none⟩ (.int .i64 r.f0.op)) ⟨w.heap.size + 1 + 1, 1, none⟩ (.int .i64 r.f0.num) (w.heap.size + 1) (show w.heap.size + 1 ≠ w.heap.size + 1 + 1 by omega)).trans ht0
  have ht2 := (Below.heap_setCell ((w1.setCell ⟨w.heap.size + 1 + 1, 0, none⟩ (.int .i64 r.f0.op)).setCell ⟨w.heap.size + 1 + 1, 1, none⟩ (.int .i64 r.f0.num)) ⟨w.heap.size + 1 + 1, 2, none⟩ (.slice P0 r.f0.perm.length q0) (w.heap.size + 1) (show w.heap.size + 1 ≠ w.heap.size + 1 + 1 by omega)).trans ht1
  have ht3 := (Below.heap_setCell (((w1.setCell ⟨w.heap.size + 1 + 1, 0, none⟩ (.int .i64 r.f0.op)).setCell ⟨w.heap.size + 1 + 1, 1, none⟩ (.int .i64 r.f0.num)).setCell ⟨w.heap.size + 1 + 1, 2, none⟩ (.slice P0 r.f0.perm.length q0)) ⟨w.heap.size + 1 + 1, 3, none⟩ (.slice K0 r.f0.kids.length s0) (w.heap.size + 1) (show w.heap.size + 1 ≠ w.heap.size + 1 + 1 by omega)).trans ht2
  have hszA : ((((w1.setCell ⟨w.heap.size + 1 + 1, 0, none⟩ (.int .i64 r.f0.op)).setCell ⟨w.heap.size + 1 + 1, 1, none⟩ (.int .i64 r.f0.num)).setCell ⟨w.heap.size + 1 + 1, 2, none⟩ (.slice P0 r.f0.perm.length q0)).setCell ⟨w.heap.size + 1 + 1, 3, none⟩ (.slice K0 r.f0.kids.length s0)).heap.size = w1.heap.size := by simp
  have HSA := Lib.hid hszA
  have HX := Lib.hid hs3
  have HRR := Lib.hid ht3
  clear hto hb0 hb1 hL0 hbz hrx hox HS0 HO HR hv1 hs0 hs1 hs2 hs3 ht0 ht1 ht2 ht3 hszA l0 l1 l2 l3 l4 l5 l6 l7
  go_wp2_with fail
  refine hto2.mono ?_
  rintro e w2 ⟨P1, q1, K1, s1, S1, rfl, hL1, hS1, hb2⟩
  have hox := (hb2.block (w.heap.size + 1 + 1) (by rw [HSA.out]; omega)).trans HX.out
  have hrx := (hb2.block (w.heap.size + 1) (by rw [HSA.out]; omega)).trans HRR.out
  have hlt0 : ∀ b ∈ S0, b < w1.heap.size := fun b hb => by have := hLA.lt b hb; rw [HSA.out] at this; exact this
  have hLB := hLA.alike (w' := w2) (fun b hb => hb2.block b (hLA.lt b hb))
  rw [HSA.out] at hS1
  have hbz := hbA.trans (hb2.mono hbA.size)
  have hL2 := hLB.append hL1 (fun b h1 h2 => by have h3 := hlt0 b h1; have h4 := hS1 b h2; omega)
  have neX2 : ∀ b ∈ S0 ++ S1, b ≠ w.heap.size + 1 + 1 := fun b hb => by
    rcases List.mem_append.1 hb with h | h
    · exact neX b h
    · have := hS1 b h; omega
  have neR2 : ∀ b ∈ S0 ++ S1, b ≠ w.heap.size + 1 := fun b hb => by
    rcases List.mem_append.1 hb with h | h
    · exact neR b h
    · have := hS1 b h; omega
  have hge : ∀ b ∈ S0 ++ S1, w.heap.size ≤ b := fun b hb => by
    rcases List.mem_append.1 hb with h | h
    · have := hS0 b h; omega
    · have := hS1 b h; omega
  have hpost : REquationOut r w (.returned (.agg #[.int .i64 r.f0.op, .int .i64 r.f0.num, .slice P0 r.f0.perm.length q0, .slice K0 r.f0.kids.length s0, .int .i64 r.f1.op, .int .i64 r.f1.num, .slice P1 r.f1.perm.length q1, .slice K1 r.f1.kids.length s1])) ((((((((((((w2.setCell ⟨w.heap.size + 1 + 1, 4, none⟩ (.int .i64 r.f1.op)).setCell ⟨w.heap.size + 1 + 1, 5, none⟩ (.int .i64 r.f1.num)).setCell ⟨w.heap.size + 1 + 1, 6, none⟩ (.slice P1 r.f1.perm.length q1)).setCell ⟨w.heap.size + 1 + 1, 7, none⟩ (.slice K1 r.f1.kids.length s1)).setCell ⟨w.heap.size + 1, 0, none⟩ (.int .i64 r.f0.op)).setCell ⟨w.heap.size + 1, 1, none⟩ (.int .i64 r.f0.num)).setCell ⟨w.heap.size + 1, 2, none⟩ (.slice P0 r.f0.perm.length q0)).setCell ⟨w.heap.size + 1, 3, none⟩ (.slice K0 r.f0.kids.length s0)).setCell ⟨w.heap.size + 1, 4, none⟩ (.int .i64 r.f1.op)).setCell ⟨w.heap.size + 1, 5, none⟩ (.int .i64 r.f1.num)).setCell ⟨w.heap.size + 1, 6, none⟩ (.slice P1 r.f1.perm.length q1)).setCell ⟨w.heap.size + 1, 7, none⟩ (.slice K1 r.f1.kids.length s1)) :=
    ⟨P0, q0, K0, s0, P1, q1, K1, s1, S0 ++ S1, rfl, ((((((((((((hL2.setOther ⟨w.heap.size + 1 + 1, 4, none⟩ (.int .i64 r.f1.op) neX2).setOther ⟨w.heap.size + 1 + 1, 5, none⟩ (.int .i64 r.f1.num) neX2).setOther ⟨w.heap.size + 1 + 1, 6, none⟩ (.slice P1 r.f1.perm.length q1) neX2).setOther ⟨w.heap.size + 1 + 1, 7, none⟩ (.slice K1 r.f1.kids.length s1) neX2).setOther ⟨w.heap.size + 1, 0, none⟩ (.int .i64 r.f0.op) neR2).setOther ⟨w.heap.size + 1, 1, none⟩ (.int .i64 r.f0.num) neR2).setOther ⟨w.heap.size + 1, 2, none⟩ (.slice P0 r.f0.perm.length q0) neR2).setOther ⟨w.heap.size + 1, 3, none⟩ (.slice K0 r.f0.kids.length s0) neR2).setOther ⟨w.heap.size + 1, 4, none⟩ (.int .i64 r.f1.op) neR2).setOther ⟨w.heap.size + 1, 5, none⟩ (.int .i64 r.f1.num) neR2).setOther ⟨w.heap.size + 1, 6, none⟩ (.slice P1 r.f1.perm.length q1) neR2).setOther ⟨w.heap.size + 1, 7, none⟩ (.slice K1 r.f1.kids.length s1) neR2), hge, ((((((((((((hbz.setCell (p := ⟨w.heap.size + 1 + 1, 4, none⟩) (show w.heap.size ≤ w.heap.size + 1 + 1 by omega) (.int .i64 r.f1.op)).setCell (p := ⟨w.heap.size + 1 + 1, 5, none⟩) (show w.heap.size ≤ w.heap.size + 1 + 1 by omega) (.int .i64 r.f1.num)).setCell (p := ⟨w.heap.size + 1 + 1, 6, none⟩) (show w.heap.size ≤ w.heap.size + 1 + 1 by omega) (.slice P1 r.f1.perm.length q1)).setCell (p := ⟨w.heap.size + 1 + 1, 7, none⟩) (show w.heap.size ≤ w.heap.size + 1 + 1 by omega) (.slice K1 r.f1.kids.length s1)).setCell (p := ⟨w.heap.size + 1, 0, none⟩) (show w.heap.size ≤ w.heap.size + 1 by omega) (.int .i64 r.f0.op)).setCell (p := ⟨w.heap.size + 1, 1, none⟩) (show w.heap.size ≤ w.heap.size + 1 by omega) (.int .i64 r.f0.num)).setCell (p := ⟨w.heap.size + 1, 2, none⟩) (show w.heap.size ≤ w.heap.size + 1 by omega) (.slice P0 r.f0.perm.length q0)).setCell (p := ⟨w.heap.size + 1, 3, none⟩) (show w.heap.size ≤ w.heap.size + 1 by omega) (.slice K0 r.f0.kids.length s0)).setCell (p := ⟨w.heap.size + 1, 4, none⟩) (show w.heap.size ≤ w.heap.size + 1 by omega) (.int .i64 r.f1.op)).setCell (p := ⟨w.heap.size + 1, 5, none⟩) (show w.heap.size ≤ w.heap.size + 1 by omega) (.int .i64 r.f1.num)).setCell (p := ⟨w.heap.size + 1, 6, none⟩) (show w.heap.size ≤ w.heap.size + 1 by omega) (.slice P1 r.f1.perm.length q1)).setCell (p := ⟨w.heap.size + 1, 7, none⟩) (show w.heap.size ≤ w.heap.size + 1 by omega) (.slice K1 r.f1.kids.length s1))⟩
  have xx0 : w2.cell? ⟨w.heap.size + 1 + 1, 0, none⟩ = some (.int .i64 r.f0.op) := by rw [cell_of_row w2 (w.heap.size + 1 + 1) 0 _ _ _ hox]; rfl
  have yy0 : w2.frozen? ⟨w.heap.size + 1 + 1, 0, none⟩ = false := frozen_of_row w2 (w.heap.size + 1 + 1) 0 _ _ hox
  have xx1 : w2.cell? ⟨w.heap.size + 1 + 1, 1, none⟩ = some (.int .i64 r.f0.num) := by rw [cell_of_row w2 (w.heap.size + 1 + 1) 1 _ _ _ hox]; rfl
  have yy1 : w2.frozen? ⟨w.heap.size + 1 + 1, 1, none⟩ = false := frozen_of_row w2 (w.heap.size + 1 + 1) 1 _ _ hox
  have xx2 : w2.cell? ⟨w.heap.size + 1 + 1, 2, none⟩ = some (.slice P0 r.f0.perm.length q0) := by rw [cell_of_row w2 (w.heap.size + 1 + 1) 2 _ _ _ hox]; rfl
  have yy2 : w2.frozen? ⟨w.heap.size + 1 + 1, 2, none⟩ = false := frozen_of_row w2 (w.heap.size + 1 + 1) 2 _ _ hox
  have xx3 : w2.cell? ⟨w.heap.size + 1 + 1, 3, none⟩ = some (.slice K0 r.f0.kids.length s0) := by rw [cell_of_row w2 (w.heap.size + 1 + 1) 3 _ _ _ hox]; rfl
  have yy3 : w2.frozen? ⟨w.heap.size + 1 + 1, 3, none⟩ = false := frozen_of_row w2 (w.heap.size + 1 + 1) 3 _ _ hox
  have xx4 : w2.cell? ⟨w.heap.size + 1 + 1, 4, none⟩ = some (.int .i64 0) := by rw [cell_of_row w2 (w.heap.size + 1 + 1) 4 _ _ _ hox]; rfl
  have yy4 : w2.frozen? ⟨w.heap.size + 1 + 1, 4, none⟩ = false := frozen_of_row w2 (w.heap.size + 1 + 1) 4 _ _ hox
  have xx5 : w2.cell? ⟨w.heap.size + 1 + 1, 5, none⟩ = some (.int .i64 0) := by rw [cell_of_row w2 (w.heap.size + 1 + 1) 5 _ _ _ hox]; rfl
  have yy5 : w2.frozen? ⟨w.heap.size + 1 + 1, 5, none⟩ = false := frozen_of_row w2 (w.heap.size + 1 + 1) 5 _ _ hox
  have xx6 : w2.cell? ⟨w.heap.size + 1 + 1, 6, none⟩ = some (.slice none 0 0) := by rw [cell_of_row w2 (w.heap.size + 1 + 1) 6 _ _ _ hox]; rfl
  have yy6 : w2.frozen? ⟨w.heap.size + 1 + 1, 6, none⟩ = false := frozen_of_row w2 (w.heap.size + 1 + 1) 6 _ _ hox
  have xx7 : w2.cell? ⟨w.heap.size + 1 + 1, 7, none⟩ = some (.slice none 0 0) := by rw [cell_of_row w2 (w.heap.size + 1 + 1) 7 _ _ _ hox]; rfl
  have yy7 : w2.frozen? ⟨w.heap.size + 1 + 1, 7, none⟩ = false := frozen_of_row w2 (w.heap.size + 1 + 1) 7 _ _ hox
  have rr0 : w2.cell? ⟨w.heap.size + 1, 0, none⟩ = some (.int .i64 0) := by rw [cell_of_row w2 (w.heap.size + 1) 0 _ _ _ hrx]; rfl
  have zz0 : w2.frozen? ⟨w.heap.size + 1, 0, none⟩ = false := frozen_of_row w2 (w.heap.size + 1) 0 _ _ hrx
  have rr1 : w2.cell? ⟨w.heap.size + 1, 1, none⟩ = some (.int .i64 0) := by rw [cell_of_row w2 (w.heap.size + 1) 1 _ _ _ hrx]; rfl
  have zz1 : w2.frozen? ⟨w.heap.size + 1, 1, none⟩ = false := frozen_of_row w2 (w.heap.size + 1) 1 _ _ hrx
  have rr2 : w2.cell? ⟨w.heap.size + 1, 2, none⟩ = some (.slice none 0 0) := by rw [cell_of_row w2 (w.heap.size + 1) 2 _ _ _ hrx]; rfl
  have zz2 : w2.frozen? ⟨w.heap.size + 1, 2, none⟩ = false := frozen_of_row w2 (w.heap.size + 1) 2 _ _ hrx
  have rr3 : w2.cell? ⟨w.heap.size + 1, 3, none⟩ = some (.slice none 0 0) := by rw [cell_of_row w2 (w.heap.size + 1) 3 _ _ _ hrx]; rfl
  have zz3 : w2.frozen? ⟨w.heap.size + 1, 3, none⟩ = false := frozen_of_row w2 (w.heap.size + 1) 3 _ _ hrx
  have rr4 : w2.cell? ⟨w.heap.size + 1, 4, none⟩ = some (.int .i64 0) := by rw [cell_of_row w2 (w.heap.size + 1) 4 _ _ _ hrx]; rfl
  have zz4 : w2.frozen? ⟨w.heap.size + 1, 4, none⟩ = false := frozen_of_row w2 (w.heap.size + 1) 4 _ _ hrx
  have rr5 : w2.cell? ⟨w.heap.size + 1, 5, none⟩ = some (.int .i64 0) := by rw [cell_of_row w2 (w.heap.size + 1) 5 _ _ _ hrx]; rfl
  have zz5 : w2.frozen? ⟨w.heap.size + 1, 5, none⟩ = false := frozen_of_row w2 (w.heap.size + 1) 5 _ _ hrx
  have rr6 : w2.cell? ⟨w.heap.size + 1, 6, none⟩ = some (.slice none 0 0) := by rw [cell_of_row w2 (w.heap.size + 1) 6 _ _ _ hrx]; rfl
  have zz6 : w2.frozen? ⟨w.heap.size + 1, 6, none⟩ = false := frozen_of_row w2 (w.heap.size + 1) 6 _ _ hrx
  have rr7 : w2.cell? ⟨w.heap.size + 1, 7, none⟩ = some (.slice none 0 0) := by rw [cell_of_row w2 (w.heap.size + 1) 7 _ _ _ hrx]; rfl
  have zz7 : w2.frozen? ⟨w.heap.size + 1, 7, none⟩ = false := frozen_of_row w2 (w.heap.size + 1) 7 _ _ hrx
  clear hto2 hb2 hLA hLB hL1 hL2 hS0 hS1 hbz hbA neX neR neX2 neR2 hge hrx hox HSA HX HRR hlt0 hsw k4 k5 k6 k7 x0 y0 x1 y1 x2 y2 x3 y3
  go_wp2
  exact bodyPost_ret (v := .agg #[.int .i64 r.f0.op, .int .i64 r.f0.num, .slice P0 r.f0.perm.length q0, .slice K0 r.f0.kids.length s0, .int .i64 r.f1.op, .int .i64 r.f1.num, .slice P1 r.f1.perm.length q1, .slice K1 r.f1.kids.length s1]) (by simp [results, Try.results85, go_sem, rr0, rr1, rr2, rr3, rr4, rr5, rr6, rr7]) rfl hpost
end Go.Proofs.Ytnomidnjglbedaa
