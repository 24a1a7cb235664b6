/-
  Copies of equations, in memory of their own, as the laws make them. Copies of slices of equations, in memory of their own, as the laws make them. A copy of equations reads as the equations.
-/
import Derived.Test.YtddmoempagcjeaaKIsProblem13
import Derived.Test.YtddmoempagcjeaaKIsProblem7
section
namespace Go.Proofs.Ytddmoempagcjeaa
open Go.RowKit Go.ChangeShapes Go.WideShapes
set_option linter.unusedVariables false

/-- The cells of a record. -/
def encREquation (r : REquation) : List Mem := encT r.f0 ++ encT r.f1
def encREquations : List REquation → List Mem
  | [] => []
  | r :: rs => encREquation r ++ encREquations rs
theorem encREquation_len (r : REquation) : (encREquation r).length = 8 := by simp [encREquation, encT_len]
theorem encREquations_len : ∀ rs : List REquation, (encREquations rs).length = rs.length * 8
  | [] => rfl
  | r :: rs => by rw [encREquations, List.length_append, encREquation_len, encREquations_len rs, List.length_cons]; omega
theorem encREquations_append : ∀ a b : List REquation, encREquations (a ++ b) = encREquations a ++ encREquations b
  | [], b => rfl
  | r :: a, b => by rw [List.cons_append, encREquations, encREquations, encREquations_append a b, List.append_assoc]
def memREquations (rs : List REquation) : Mem := .row 98 8 (encREquations rs)
/-- A record of the call's own. -/
def REquationOut (r : REquation) (w : World) (e : Ending) (w' : World) : Prop :=
  ∃ P0 q0 K0 s0 P1 q1 K1 s1 S, e = .returned (.agg #[.int .i64 r.f0.op, .int .i64 r.f0.num, .slice P0 r.f0.perm.length q0, .slice K0 r.f0.kids.length s0, .int .i64 r.f1.op, .int .i64 r.f1.num, .slice P1 r.f1.perm.length q1, .slice K1 r.f1.kids.length s1]) ∧ OwnL w' S [.int .i64 r.f0.op, .int .i64 r.f0.num, .slice P0 r.f0.perm.length q0, .slice K0 r.f0.kids.length s0, .int .i64 r.f1.op, .int .i64 r.f1.num, .slice P1 r.f1.perm.length q1, .slice K1 r.f1.kids.length s1] (encREquation r) ∧ (∀ b ∈ S, w.heap.size ≤ b) ∧ Below w.heap.size w w'
def REquationsOut (rs : List REquation) (w : World) (e : Ending) (w' : World) : Prop :=
  ∃ v S, e = .returned v ∧ Own w' S v (memREquations rs) ∧ (∀ b ∈ S, w.heap.size ≤ b) ∧ Below w.heap.size w w'

set_option maxRecDepth 100000 in
set_option maxHeartbeats 4000000 in
theorem toEquation_any (r : REquation) (hf : Fit r.f0 ∧ Fit r.f1) (w : World) (v : Value) (hv : REquationIn w v r) : Calls Try.prog 68 #[v] w (REquationOut r w) := by
  obtain ⟨A0, c0, B0, d0, A1, c1, B1, d1, rfl, hv0, hv1⟩ := hv
  have hb0 : Below w.heap.size w (((w.alloc (.cells #[.int .i64 r.f0.op, .int .i64 r.f0.num, .slice A0 r.f0.perm.length c0, .slice B0 r.f0.kids.length d0, .int .i64 r.f1.op, .int .i64 r.f1.num, .slice A1 r.f1.perm.length c1, .slice B1 r.f1.kids.length d1] 96)).alloc (.cells #[.int .i64 0, .int .i64 0, .slice none 0 0, .slice none 0 0, .int .i64 0, .int .i64 0, .slice none 0 0, .slice none 0 0] 98)).alloc (.cells #[.int .i64 0, .int .i64 0, .slice none 0 0, .slice none 0 0, .int .i64 0, .int .i64 0, .slice none 0 0, .slice none 0 0] 98)) := (((Below.refl _ _).alloc (Nat.le_refl _) _).alloc (by simp) _).alloc (by simp; omega) _
  have hto := toTerm_any r.f0 hf.1 _ _ (hv0.below hb0)
  have hsz0 : (((w.alloc (.cells #[.int .i64 r.f0.op, .int .i64 r.f0.num, .slice A0 r.f0.perm.length c0, .slice B0 r.f0.kids.length d0, .int .i64 r.f1.op, .int .i64 r.f1.num, .slice A1 r.f1.perm.length c1, .slice B1 r.f1.kids.length d1] 96)).alloc (.cells #[.int .i64 0, .int .i64 0, .slice none 0 0, .slice none 0 0, .int .i64 0, .int .i64 0, .slice none 0 0, .slice none 0 0] 98)).alloc (.cells #[.int .i64 0, .int .i64 0, .slice none 0 0, .slice none 0 0, .int .i64 0, .int .i64 0, .slice none 0 0, .slice none 0 0] 98)).heap.size = w.heap.size + 3 := by simp
  have hbox : (((w.alloc (.cells #[.int .i64 r.f0.op, .int .i64 r.f0.num, .slice A0 r.f0.perm.length c0, .slice B0 r.f0.kids.length d0, .int .i64 r.f1.op, .int .i64 r.f1.num, .slice A1 r.f1.perm.length c1, .slice B1 r.f1.kids.length d1] 96)).alloc (.cells #[.int .i64 0, .int .i64 0, .slice none 0 0, .slice none 0 0, .int .i64 0, .int .i64 0, .slice none 0 0, .slice none 0 0] 98)).alloc (.cells #[.int .i64 0, .int .i64 0, .slice none 0 0, .slice none 0 0, .int .i64 0, .int .i64 0, .slice none 0 0, .slice none 0 0] 98)).heap[w.heap.size]? = some (.cells #[.int .i64 r.f0.op, .int .i64 r.f0.num, .slice A0 r.f0.perm.length c0, .slice B0 r.f0.kids.length d0, .int .i64 r.f1.op, .int .i64 r.f1.num, .slice A1 r.f1.perm.length c1, .slice B1 r.f1.kids.length d1] 96 (0, 0)) := (Below.heap_alloc _ _ _ (by simp; omega)).trans ((Below.heap_alloc _ _ _ (by simp)).trans (heap_alloc_new w _))
  have hres : (((w.alloc (.cells #[.int .i64 r.f0.op, .int .i64 r.f0.num, .slice A0 r.f0.perm.length c0, .slice B0 r.f0.kids.length d0, .int .i64 r.f1.op, .int .i64 r.f1.num, .slice A1 r.f1.perm.length c1, .slice B1 r.f1.kids.length d1] 96)).alloc (.cells #[.int .i64 0, .int .i64 0, .slice none 0 0, .slice none 0 0, .int .i64 0, .int .i64 0, .slice none 0 0, .slice none 0 0] 98)).alloc (.cells #[.int .i64 0, .int .i64 0, .slice none 0 0, .slice none 0 0, .int .i64 0, .int .i64 0, .slice none 0 0, .slice none 0 0] 98)).heap[w.heap.size + 1]? = some (.cells #[.int .i64 0, .int .i64 0, .slice none 0 0, .slice none 0 0, .int .i64 0, .int .i64 0, .slice none 0 0, .slice none 0 0] 98 (0, 0)) := by
    have h9 := heap_alloc_new (w.alloc (.cells #[.int .i64 r.f0.op, .int .i64 r.f0.num, .slice A0 r.f0.perm.length c0, .slice B0 r.f0.kids.length d0, .int .i64 r.f1.op, .int .i64 r.f1.num, .slice A1 r.f1.perm.length c1, .slice B1 r.f1.kids.length d1] 96)) (.cells #[.int .i64 0, .int .i64 0, .slice none 0 0, .slice none 0 0, .int .i64 0, .int .i64 0, .slice none 0 0, .slice none 0 0] 98)
    rw [World.size_alloc] at h9
    exact (Below.heap_alloc _ _ _ (by simp)).trans h9
  have hout : (((w.alloc (.cells #[.int .i64 r.f0.op, .int .i64 r.f0.num, .slice A0 r.f0.perm.length c0, .slice B0 r.f0.kids.length d0, .int .i64 r.f1.op, .int .i64 r.f1.num, .slice A1 r.f1.perm.length c1, .slice B1 r.f1.kids.length d1] 96)).alloc (.cells #[.int .i64 0, .int .i64 0, .slice none 0 0, .slice none 0 0, .int .i64 0, .int .i64 0, .slice none 0 0, .slice none 0 0] 98)).alloc (.cells #[.int .i64 0, .int .i64 0, .slice none 0 0, .slice none 0 0, .int .i64 0, .int .i64 0, .slice none 0 0, .slice none 0 0] 98)).heap[w.heap.size + 1 + 1]? = some (.cells #[.int .i64 0, .int .i64 0, .slice none 0 0, .slice none 0 0, .int .i64 0, .int .i64 0, .slice none 0 0, .slice none 0 0] 98 (0, 0)) := by
    have h9 := heap_alloc_new ((w.alloc (.cells #[.int .i64 r.f0.op, .int .i64 r.f0.num, .slice A0 r.f0.perm.length c0, .slice B0 r.f0.kids.length d0, .int .i64 r.f1.op, .int .i64 r.f1.num, .slice A1 r.f1.perm.length c1, .slice B1 r.f1.kids.length d1] 96)).alloc (.cells #[.int .i64 0, .int .i64 0, .slice none 0 0, .slice none 0 0, .int .i64 0, .int .i64 0, .slice none 0 0, .slice none 0 0] 98)) (.cells #[.int .i64 0, .int .i64 0, .slice none 0 0, .slice none 0 0, .int .i64 0, .int .i64 0, .slice none 0 0, .slice none 0 0] 98)
    rw [World.size_alloc, World.size_alloc] at h9
    exact h9
  have l0 : (((w.alloc (.cells #[.int .i64 r.f0.op, .int .i64 r.f0.num, .slice A0 r.f0.perm.length c0, .slice B0 r.f0.kids.length d0, .int .i64 r.f1.op, .int .i64 r.f1.num, .slice A1 r.f1.perm.length c1, .slice B1 r.f1.kids.length d1] 96)).alloc (.cells #[.int .i64 0, .int .i64 0, .slice none 0 0, .slice none 0 0, .int .i64 0, .int .i64 0, .slice none 0 0, .slice none 0 0] 98)).alloc (.cells #[.int .i64 0, .int .i64 0, .slice none 0 0, .slice none 0 0, .int .i64 0, .int .i64 0, .slice none 0 0, .slice none 0 0] 98)).cell? ⟨w.heap.size, 0, none⟩ = some (.int .i64 r.f0.op) := by rw [cell_of_row _ _ 0 _ _ _ hbox]; rfl
  have l1 : (((w.alloc (.cells #[.int .i64 r.f0.op, .int .i64 r.f0.num, .slice A0 r.f0.perm.length c0, .slice B0 r.f0.kids.length d0, .int .i64 r.f1.op, .int .i64 r.f1.num, .slice A1 r.f1.perm.length c1, .slice B1 r.f1.kids.length d1] 96)).alloc (.cells #[.int .i64 0, .int .i64 0, .slice none 0 0, .slice none 0 0, .int .i64 0, .int .i64 0, .slice none 0 0, .slice none 0 0] 98)).alloc (.cells #[.int .i64 0, .int .i64 0, .slice none 0 0, .slice none 0 0, .int .i64 0, .int .i64 0, .slice none 0 0, .slice none 0 0] 98)).cell? ⟨w.heap.size, 1, none⟩ = some (.int .i64 r.f0.num) := by rw [cell_of_row _ _ 1 _ _ _ hbox]; rfl
  have l2 : (((w.alloc (.cells #[.int .i64 r.f0.op, .int .i64 r.f0.num, .slice A0 r.f0.perm.length c0, .slice B0 r.f0.kids.length d0, .int .i64 r.f1.op, .int .i64 r.f1.num, .slice A1 r.f1.perm.length c1, .slice B1 r.f1.kids.length d1] 96)).alloc (.cells #[.int .i64 0, .int .i64 0, .slice none 0 0, .slice none 0 0, .int .i64 0, .int .i64 0, .slice none 0 0, .slice none 0 0] 98)).alloc (.cells #[.int .i64 0, .int .i64 0, .slice none 0 0, .slice none 0 0, .int .i64 0, .int .i64 0, .slice none 0 0, .slice none 0 0] 98)).cell? ⟨w.heap.size, 2, none⟩ = some (.slice A0 r.f0.perm.length c0) := by rw [cell_of_row _ _ 2 _ _ _ hbox]; rfl
  have l3 : (((w.alloc (.cells #[.int .i64 r.f0.op, .int .i64 r.f0.num, .slice A0 r.f0.perm.length c0, .slice B0 r.f0.kids.length d0, .int .i64 r.f1.op, .int .i64 r.f1.num, .slice A1 r.f1.perm.length c1, .slice B1 r.f1.kids.length d1] 96)).alloc (.cells #[.int .i64 0, .int .i64 0, .slice none 0 0, .slice none 0 0, .int .i64 0, .int .i64 0, .slice none 0 0, .slice none 0 0] 98)).alloc (.cells #[.int .i64 0, .int .i64 0, .slice none 0 0, .slice none 0 0, .int .i64 0, .int .i64 0, .slice none 0 0, .slice none 0 0] 98)).cell? ⟨w.heap.size, 3, none⟩ = some (.slice B0 r.f0.kids.length d0) := by rw [cell_of_row _ _ 3 _ _ _ hbox]; rfl
  have l4 : (((w.alloc (.cells #[.int .i64 r.f0.op, .int .i64 r.f0.num, .slice A0 r.f0.perm.length c0, .slice B0 r.f0.kids.length d0, .int .i64 r.f1.op, .int .i64 r.f1.num, .slice A1 r.f1.perm.length c1, .slice B1 r.f1.kids.length d1] 96)).alloc (.cells #[.int .i64 0, .int .i64 0, .slice none 0 0, .slice none 0 0, .int .i64 0, .int .i64 0, .slice none 0 0, .slice none 0 0] 98)).alloc (.cells #[.int .i64 0, .int .i64 0, .slice none 0 0, .slice none 0 0, .int .i64 0, .int .i64 0, .slice none 0 0, .slice none 0 0] 98)).cell? ⟨w.heap.size, 4, none⟩ = some (.int .i64 r.f1.op) := by rw [cell_of_row _ _ 4 _ _ _ hbox]; rfl
  have l5 : (((w.alloc (.cells #[.int .i64 r.f0.op, .int .i64 r.f0.num, .slice A0 r.f0.perm.length c0, .slice B0 r.f0.kids.length d0, .int .i64 r.f1.op, .int .i64 r.f1.num, .slice A1 r.f1.perm.length c1, .slice B1 r.f1.kids.length d1] 96)).alloc (.cells #[.int .i64 0, .int .i64 0, .slice none 0 0, .slice none 0 0, .int .i64 0, .int .i64 0, .slice none 0 0, .slice none 0 0] 98)).alloc (.cells #[.int .i64 0, .int .i64 0, .slice none 0 0, .slice none 0 0, .int .i64 0, .int .i64 0, .slice none 0 0, .slice none 0 0] 98)).cell? ⟨w.heap.size, 5, none⟩ = some (.int .i64 r.f1.num) := by rw [cell_of_row _ _ 5 _ _ _ hbox]; rfl
  have l6 : (((w.alloc (.cells #[.int .i64 r.f0.op, .int .i64 r.f0.num, .slice A0 r.f0.perm.length c0, .slice B0 r.f0.kids.length d0, .int .i64 r.f1.op, .int .i64 r.f1.num, .slice A1 r.f1.perm.length c1, .slice B1 r.f1.kids.length d1] 96)).alloc (.cells #[.int .i64 0, .int .i64 0, .slice none 0 0, .slice none 0 0, .int .i64 0, .int .i64 0, .slice none 0 0, .slice none 0 0] 98)).alloc (.cells #[.int .i64 0, .int .i64 0, .slice none 0 0, .slice none 0 0, .int .i64 0, .int .i64 0, .slice none 0 0, .slice none 0 0] 98)).cell? ⟨w.heap.size, 6, none⟩ = some (.slice A1 r.f1.perm.length c1) := by rw [cell_of_row _ _ 6 _ _ _ hbox]; rfl
  have l7 : (((w.alloc (.cells #[.int .i64 r.f0.op, .int .i64 r.f0.num, .slice A0 r.f0.perm.length c0, .slice B0 r.f0.kids.length d0, .int .i64 r.f1.op, .int .i64 r.f1.num, .slice A1 r.f1.perm.length c1, .slice B1 r.f1.kids.length d1] 96)).alloc (.cells #[.int .i64 0, .int .i64 0, .slice none 0 0, .slice none 0 0, .int .i64 0, .int .i64 0, .slice none 0 0, .slice none 0 0] 98)).alloc (.cells #[.int .i64 0, .int .i64 0, .slice none 0 0, .slice none 0 0, .int .i64 0, .int .i64 0, .slice none 0 0, .slice none 0 0] 98)).cell? ⟨w.heap.size, 7, none⟩ = some (.slice B1 r.f1.kids.length d1) := by rw [cell_of_row _ _ 7 _ _ _ hbox]; rfl
  have HS0 := Lib.hid hsz0
  have HO := Lib.hid hout
  have HR := Lib.hid hres
  clear hsz0 hbox hout hres hv0
  go_enter Try.func68, Try.ntmps68
  go_wp2_with fail
  refine hto.mono ?_
  rintro e w1 ⟨P0, q0, K0, s0, S0, rfl, hL0, hS0, hb1⟩
  have hrx := (hb1.block (w.heap.size + 1) (by rw [HS0.out]; omega)).trans HR.out
  have hox := (hb1.block (w.heap.size + 1 + 1) (by rw [HS0.out]; omega)).trans HO.out
  have k4 : w1.cell? ⟨w.heap.size, 4, none⟩ = some (.int .i64 r.f1.op) := (hb1.cell (p := ⟨w.heap.size, 4, none⟩) (by rw [HS0.out]; show w.heap.size < _; omega)).trans l4
  have k5 : w1.cell? ⟨w.heap.size, 5, none⟩ = some (.int .i64 r.f1.num) := (hb1.cell (p := ⟨w.heap.size, 5, none⟩) (by rw [HS0.out]; show w.heap.size < _; omega)).trans l5
  have k6 : w1.cell? ⟨w.heap.size, 6, none⟩ = some (.slice A1 r.f1.perm.length c1) := (hb1.cell (p := ⟨w.heap.size, 6, none⟩) (by rw [HS0.out]; show w.heap.size < _; omega)).trans l6
  have k7 : w1.cell? ⟨w.heap.size, 7, none⟩ = some (.slice B1 r.f1.kids.length d1) := (hb1.cell (p := ⟨w.heap.size, 7, none⟩) (by rw [HS0.out]; show w.heap.size < _; omega)).trans l7
  have x0 : w1.cell? ⟨w.heap.size + 1 + 1, 0, none⟩ = some (.int .i64 0) := by rw [cell_of_row w1 (w.heap.size + 1 + 1) 0 _ _ _ hox]; rfl
  have y0 : w1.frozen? ⟨w.heap.size + 1 + 1, 0, none⟩ = false := frozen_of_row w1 (w.heap.size + 1 + 1) 0 _ _ hox
  have x1 : w1.cell? ⟨w.heap.size + 1 + 1, 1, none⟩ = some (.int .i64 0) := by rw [cell_of_row w1 (w.heap.size + 1 + 1) 1 _ _ _ hox]; rfl
  have y1 : w1.frozen? ⟨w.heap.size + 1 + 1, 1, none⟩ = false := frozen_of_row w1 (w.heap.size + 1 + 1) 1 _ _ hox
  have x2 : w1.cell? ⟨w.heap.size + 1 + 1, 2, none⟩ = some (.slice none 0 0) := by rw [cell_of_row w1 (w.heap.size + 1 + 1) 2 _ _ _ hox]; rfl
  have y2 : w1.frozen? ⟨w.heap.size + 1 + 1, 2, none⟩ = false := frozen_of_row w1 (w.heap.size + 1 + 1) 2 _ _ hox
  have x3 : w1.cell? ⟨w.heap.size + 1 + 1, 3, none⟩ = some (.slice none 0 0) := by rw [cell_of_row w1 (w.heap.size + 1 + 1) 3 _ _ _ hox]; rfl
  have y3 : w1.frozen? ⟨w.heap.size + 1 + 1, 3, none⟩ = false := frozen_of_row w1 (w.heap.size + 1 + 1) 3 _ _ hox
  have hsw := hb1.size
  rw [HS0.out] at hS0 hsw
  have hbz := hb0.trans (hb1.mono hb0.size)
  have hbA : Below w.heap.size w ((((w1.setCell ⟨w.heap.size + 1 + 1, 0, none⟩ (.int .i64 r.f0.op)).setCell ⟨w.heap.size + 1 + 1, 1, none⟩ (.int .i64 r.f0.num)).setCell ⟨w.heap.size + 1 + 1, 2, none⟩ (.slice P0 r.f0.perm.length q0)).setCell ⟨w.heap.size + 1 + 1, 3, none⟩ (.slice K0 r.f0.kids.length s0)) := ((((hbz.setCell (p := ⟨w.heap.size + 1 + 1, 0, none⟩) (show w.heap.size ≤ w.heap.size + 1 + 1 by omega) (.int .i64 r.f0.op)).setCell (p := ⟨w.heap.size + 1 + 1, 1, none⟩) (show w.heap.size ≤ w.heap.size + 1 + 1 by omega) (.int .i64 r.f0.num)).setCell (p := ⟨w.heap.size + 1 + 1, 2, none⟩) (show w.heap.size ≤ w.heap.size + 1 + 1 by omega) (.slice P0 r.f0.perm.length q0)).setCell (p := ⟨w.heap.size + 1 + 1, 3, none⟩) (show w.heap.size ≤ w.heap.size + 1 + 1 by omega) (.slice K0 r.f0.kids.length s0))
  have hto2 := toTerm_any r.f1 hf.2 ((((w1.setCell ⟨w.heap.size + 1 + 1, 0, none⟩ (.int .i64 r.f0.op)).setCell ⟨w.heap.size + 1 + 1, 1, none⟩ (.int .i64 r.f0.num)).setCell ⟨w.heap.size + 1 + 1, 2, none⟩ (.slice P0 r.f0.perm.length q0)).setCell ⟨w.heap.size + 1 + 1, 3, none⟩ (.slice K0 r.f0.kids.length s0)) _ (hv1.below hbA)
  have neX : ∀ b ∈ S0, b ≠ w.heap.size + 1 + 1 := fun b hb => by have := hS0 b hb; omega
  have neR : ∀ b ∈ S0, b ≠ w.heap.size + 1 := fun b hb => by have := hS0 b hb; omega
  have hLA := ((((hL0.setOther ⟨w.heap.size + 1 + 1, 0, none⟩ (.int .i64 r.f0.op) neX).setOther ⟨w.heap.size + 1 + 1, 1, none⟩ (.int .i64 r.f0.num) neX).setOther ⟨w.heap.size + 1 + 1, 2, none⟩ (.slice P0 r.f0.perm.length q0) neX).setOther ⟨w.heap.size + 1 + 1, 3, none⟩ (.slice K0 r.f0.kids.length s0) neX)
  have hs0 := heap_setCell_same w1 (w.heap.size + 1 + 1) 0 _ _ (.int .i64 r.f0.op) hox
  have hs1 := heap_setCell_same (w1.setCell ⟨w.heap.size + 1 + 1, 0, none⟩ (.int .i64 r.f0.op)) (w.heap.size + 1 + 1) 1 _ _ (.int .i64 r.f0.num) hs0
  have hs2 := heap_setCell_same ((w1.setCell ⟨w.heap.size + 1 + 1, 0, none⟩ (.int .i64 r.f0.op)).setCell ⟨w.heap.size + 1 + 1, 1, none⟩ (.int .i64 r.f0.num)) (w.heap.size + 1 + 1) 2 _ _ (.slice P0 r.f0.perm.length q0) hs1
  have hs3 := heap_setCell_same (((w1.setCell ⟨w.heap.size + 1 + 1, 0, none⟩ (.int .i64 r.f0.op)).setCell ⟨w.heap.size + 1 + 1, 1, none⟩ (.int .i64 r.f0.num)).setCell ⟨w.heap.size + 1 + 1, 2, none⟩ (.slice P0 r.f0.perm.length q0)) (w.heap.size + 1 + 1) 3 _ _ (.slice K0 r.f0.kids.length s0) hs2
  have ht0 := (Below.heap_setCell w1 ⟨w.heap.size + 1 + 1, 0, none⟩ (.int .i64 r.f0.op) (w.heap.size + 1) (show w.heap.size + 1 ≠ w.heap.size + 1 + 1 by omega)).trans hrx
  have ht1 := (Below.heap_setCell (w1.setCell ⟨w.heap.size + 1 + 1, 0, none⟩ (.int .i64 r.f0.op)) ⟨w.heap.size + 1 + 1, 1, none⟩ (.int .i64 r.f0.num) (w.heap.size + 1) (show w.heap.size + 1 ≠ w.heap.size + 1 + 1 by omega)).trans ht0
  have ht2 := (Below.heap_setCell ((w1.setCell ⟨w.heap.size + 1 + 1, 0, none⟩ (.int .i64 r.f0.op)).setCell ⟨w.heap.size + 1 + 1, 1, none⟩ (.int .i64 r.f0.num)) ⟨w.heap.size + 1 + 1, 2, none⟩ (.slice P0 r.f0.perm.length q0) (w.heap.size + 1) (show w.heap.size + 1 ≠ w.heap.size + 1 + 1 by omega)).trans ht1
  have ht3 := (Below.heap_setCell (((w1.setCell ⟨w.heap.size + 1 + 1, 0, none⟩ (.int .i64 r.f0.op)).setCell ⟨w.heap.size + 1 + 1, 1, none⟩ (.int .i64 r.f0.num)).setCell ⟨w.heap.size + 1 + 1, 2, none⟩ (.slice P0 r.f0.perm.length q0)) ⟨w.heap.size + 1 + 1, 3, none⟩ (.slice K0 r.f0.kids.length s0) (w.heap.size + 1) (show w.heap.size + 1 ≠ w.heap.size + 1 + 1 by omega)).trans ht2
  have hszA : ((((w1.setCell ⟨w.heap.size + 1 + 1, 0, none⟩ (.int .i64 r.f0.op)).setCell ⟨w.heap.size + 1 + 1, 1, none⟩ (.int .i64 r.f0.num)).setCell ⟨w.heap.size + 1 + 1, 2, none⟩ (.slice P0 r.f0.perm.length q0)).setCell ⟨w.heap.size + 1 + 1, 3, none⟩ (.slice K0 r.f0.kids.length s0)).heap.size = w1.heap.size := by simp
  have HSA := Lib.hid hszA
  have HX := Lib.hid hs3
  have HRR := Lib.hid ht3
  clear hto hb0 hb1 hL0 hbz hrx hox HS0 HO HR hv1 hs0 hs1 hs2 hs3 ht0 ht1 ht2 ht3 hszA l0 l1 l2 l3 l4 l5 l6 l7
  go_wp2_with fail
  refine hto2.mono ?_
  rintro e w2 ⟨P1, q1, K1, s1, S1, rfl, hL1, hS1, hb2⟩
  have hox := (hb2.block (w.heap.size + 1 + 1) (by rw [HSA.out]; omega)).trans HX.out
  have hrx := (hb2.block (w.heap.size + 1) (by rw [HSA.out]; omega)).trans HRR.out
  have hlt0 : ∀ b ∈ S0, b < w1.heap.size := fun b hb => by have := hLA.lt b hb; rw [HSA.out] at this; exact this
  have hLB := hLA.alike (w' := w2) (fun b hb => hb2.block b (hLA.lt b hb))
  rw [HSA.out] at hS1
  have hbz := hbA.trans (hb2.mono hbA.size)
  have hL2 := hLB.append hL1 (fun b h1 h2 => by have h3 := hlt0 b h1; have h4 := hS1 b h2; omega)
  have neX2 : ∀ b ∈ S0 ++ S1, b ≠ w.heap.size + 1 + 1 := fun b hb => by
    rcases List.mem_append.1 hb with h | h
    · exact neX b h
    · have := hS1 b h; omega
  have neR2 : ∀ b ∈ S0 ++ S1, b ≠ w.heap.size + 1 := fun b hb => by
    rcases List.mem_append.1 hb with h | h
    · exact neR b h
    · have := hS1 b h; omega
  have hge : ∀ b ∈ S0 ++ S1, w.heap.size ≤ b := fun b hb => by
    rcases List.mem_append.1 hb with h | h
    · have := hS0 b h; omega
    · have := hS1 b h; omega
  have hpost : REquationOut r w (.returned (.agg #[.int .i64 r.f0.op, .int .i64 r.f0.num, .slice P0 r.f0.perm.length q0, .slice K0 r.f0.kids.length s0, .int .i64 r.f1.op, .int .i64 r.f1.num, .slice P1 r.f1.perm.length q1, .slice K1 r.f1.kids.length s1])) ((((((((((((w2.setCell ⟨w.heap.size + 1 + 1, 4, none⟩ (.int .i64 r.f1.op)).setCell ⟨w.heap.size + 1 + 1, 5, none⟩ (.int .i64 r.f1.num)).setCell ⟨w.heap.size + 1 + 1, 6, none⟩ (.slice P1 r.f1.perm.length q1)).setCell ⟨w.heap.size + 1 + 1, 7, none⟩ (.slice K1 r.f1.kids.length s1)).setCell ⟨w.heap.size + 1, 0, none⟩ (.int .i64 r.f0.op)).setCell ⟨w.heap.size + 1, 1, none⟩ (.int .i64 r.f0.num)).setCell ⟨w.heap.size + 1, 2, none⟩ (.slice P0 r.f0.perm.length q0)).setCell ⟨w.heap.size + 1, 3, none⟩ (.slice K0 r.f0.kids.length s0)).setCell ⟨w.heap.size + 1, 4, none⟩ (.int .i64 r.f1.op)).setCell ⟨w.heap.size + 1, 5, none⟩ (.int .i64 r.f1.num)).setCell ⟨w.heap.size + 1, 6, none⟩ (.slice P1 r.f1.perm.length q1)).setCell ⟨w.heap.size + 1, 7, none⟩ (.slice K1 r.f1.kids.length s1)) :=
    ⟨P0, q0, K0, s0, P1, q1, K1, s1, S0 ++ S1, rfl, ((((((((((((hL2.setOther ⟨w.heap.size + 1 + 1, 4, none⟩ (.int .i64 r.f1.op) neX2).setOther ⟨w.heap.size + 1 + 1, 5, none⟩ (.int .i64 r.f1.num) neX2).setOther ⟨w.heap.size + 1 + 1, 6, none⟩ (.slice P1 r.f1.perm.length q1) neX2).setOther ⟨w.heap.size + 1 + 1, 7, none⟩ (.slice K1 r.f1.kids.length s1) neX2).setOther ⟨w.heap.size + 1, 0, none⟩ (.int .i64 r.f0.op) neR2).setOther ⟨w.heap.size + 1, 1, none⟩ (.int .i64 r.f0.num) neR2).setOther ⟨w.heap.size + 1, 2, none⟩ (.slice P0 r.f0.perm.length q0) neR2).setOther ⟨w.heap.size + 1, 3, none⟩ (.slice K0 r.f0.kids.length s0) neR2).setOther ⟨w.heap.size + 1, 4, none⟩ (.int .i64 r.f1.op) neR2).setOther ⟨w.heap.size + 1, 5, none⟩ (.int .i64 r.f1.num) neR2).setOther ⟨w.heap.size + 1, 6, none⟩ (.slice P1 r.f1.perm.length q1) neR2).setOther ⟨w.heap.size + 1, 7, none⟩ (.slice K1 r.f1.kids.length s1) neR2), hge, ((((((((((((hbz.setCell (p := ⟨w.heap.size + 1 + 1, 4, none⟩) (show w.heap.size ≤ w.heap.size + 1 + 1 by omega) (.int .i64 r.f1.op)).setCell (p := ⟨w.heap.size + 1 + 1, 5, none⟩) (show w.heap.size ≤ w.heap.size + 1 + 1 by omega) (.int .i64 r.f1.num)).setCell (p := ⟨w.heap.size + 1 + 1, 6, none⟩) (show w.heap.size ≤ w.heap.size + 1 + 1 by omega) (.slice P1 r.f1.perm.length q1)).setCell (p := ⟨w.heap.size + 1 + 1, 7, none⟩) (show w.heap.size ≤ w.heap.size + 1 + 1 by omega) (.slice K1 r.f1.kids.length s1)).setCell (p := ⟨w.heap.size + 1, 0, none⟩) (show w.heap.size ≤ w.heap.size + 1 by omega) (.int .i64 r.f0.op)).setCell (p := ⟨w.heap.size + 1, 1, none⟩) (show w.heap.size ≤ w.heap.size + 1 by omega) (.int .i64 r.f0.num)).setCell (p := ⟨w.heap.size + 1, 2, none⟩) (show w.heap.size ≤ w.heap.size + 1 by omega) (.slice P0 r.f0.perm.length q0)).setCell (p := ⟨w.heap.size + 1, 3, none⟩) (show w.heap.size ≤ w.heap.size + 1 by omega) (.slice K0 r.f0.kids.length s0)).setCell (p := ⟨w.heap.size + 1, 4, none⟩) (show w.heap.size ≤ w.heap.size + 1 by omega) (.int .i64 r.f1.op)).setCell (p := ⟨w.heap.size + 1, 5, none⟩) (show w.heap.size ≤ w.heap.size + 1 by omega) (.int .i64 r.f1.num)).setCell (p := ⟨w.heap.size + 1, 6, none⟩) (show w.heap.size ≤ w.heap.size + 1 by omega) (.slice P1 r.f1.perm.length q1)).setCell (p := ⟨w.heap.size + 1, 7, none⟩) (show w.heap.size ≤ w.heap.size + 1 by omega) (.slice K1 r.f1.kids.length s1))⟩
  have xx0 : w2.cell? ⟨w.heap.size + 1 + 1, 0, none⟩ = some (.int .i64 r.f0.op) := by rw [cell_of_row w2 (w.heap.size + 1 + 1) 0 _ _ _ hox]; rfl
  have yy0 : w2.frozen? ⟨w.heap.size + 1 + 1, 0, none⟩ = false := frozen_of_row w2 (w.heap.size + 1 + 1) 0 _ _ hox
  have xx1 : w2.cell? ⟨w.heap.size + 1 + 1, 1, none⟩ = some (.int .i64 r.f0.num) := by rw [cell_of_row w2 (w.heap.size + 1 + 1) 1 _ _ _ hox]; rfl
  have yy1 : w2.frozen? ⟨w.heap.size + 1 + 1, 1, none⟩ = false := frozen_of_row w2 (w.heap.size + 1 + 1) 1 _ _ hox
  have xx2 : w2.cell? ⟨w.heap.size + 1 + 1, 2, none⟩ = some (.slice P0 r.f0.perm.length q0) := by rw [cell_of_row w2 (w.heap.size + 1 + 1) 2 _ _ _ hox]; rfl
  have yy2 : w2.frozen? ⟨w.heap.size + 1 + 1, 2, none⟩ = false := frozen_of_row w2 (w.heap.size + 1 + 1) 2 _ _ hox
  have xx3 : w2.cell? ⟨w.heap.size + 1 + 1, 3, none⟩ = some (.slice K0 r.f0.kids.length s0) := by rw [cell_of_row w2 (w.heap.size + 1 + 1) 3 _ _ _ hox]; rfl
  have yy3 : w2.frozen? ⟨w.heap.size + 1 + 1, 3, none⟩ = false := frozen_of_row w2 (w.heap.size + 1 + 1) 3 _ _ hox
  have xx4 : w2.cell? ⟨w.heap.size + 1 + 1, 4, none⟩ = some (.int .i64 0) := by rw [cell_of_row w2 (w.heap.size + 1 + 1) 4 _ _ _ hox]; rfl
  have yy4 : w2.frozen? ⟨w.heap.size + 1 + 1, 4, none⟩ = false := frozen_of_row w2 (w.heap.size + 1 + 1) 4 _ _ hox
  have xx5 : w2.cell? ⟨w.heap.size + 1 + 1, 5, none⟩ = some (.int .i64 0) := by rw [cell_of_row w2 (w.heap.size + 1 + 1) 5 _ _ _ hox]; rfl
  have yy5 : w2.frozen? ⟨w.heap.size + 1 + 1, 5, none⟩ = false := frozen_of_row w2 (w.heap.size + 1 + 1) 5 _ _ hox
  have xx6 : w2.cell? ⟨w.heap.size + 1 + 1, 6, none⟩ = some (.slice none 0 0) := by rw [cell_of_row w2 (w.heap.size + 1 + 1) 6 _ _ _ hox]; rfl
  have yy6 : w2.frozen? ⟨w.heap.size + 1 + 1, 6, none⟩ = false := frozen_of_row w2 (w.heap.size + 1 + 1) 6 _ _ hox
  have xx7 : w2.cell? ⟨w.heap.size + 1 + 1, 7, none⟩ = some (.slice none 0 0) := by rw [cell_of_row w2 (w.heap.size + 1 + 1) 7 _ _ _ hox]; rfl
  have yy7 : w2.frozen? ⟨w.heap.size + 1 + 1, 7, none⟩ = false := frozen_of_row w2 (w.heap.size + 1 + 1) 7 _ _ hox
  have rr0 : w2.cell? ⟨w.heap.size + 1, 0, none⟩ = some (.int .i64 0) := by rw [cell_of_row w2 (w.heap.size + 1) 0 _ _ _ hrx]; rfl
  have zz0 : w2.frozen? ⟨w.heap.size + 1, 0, none⟩ = false := frozen_of_row w2 (w.heap.size + 1) 0 _ _ hrx
  have rr1 : w2.cell? ⟨w.heap.size + 1, 1, none⟩ = some (.int .i64 0) := by rw [cell_of_row w2 (w.heap.size + 1) 1 _ _ _ hrx]; rfl
  have zz1 : w2.frozen? ⟨w.heap.size + 1, 1, none⟩ = false := frozen_of_row w2 (w.heap.size + 1) 1 _ _ hrx
  have rr2 : w2.cell? ⟨w.heap.size + 1, 2, none⟩ = some (.slice none 0 0) := by rw [cell_of_row w2 (w.heap.size + 1) 2 _ _ _ hrx]; rfl
  have zz2 : w2.frozen? ⟨w.heap.size + 1, 2, none⟩ = false := frozen_of_row w2 (w.heap.size + 1) 2 _ _ hrx
  have rr3 : w2.cell? ⟨w.heap.size + 1, 3, none⟩ = some (.slice none 0 0) := by rw [cell_of_row w2 (w.heap.size + 1) 3 _ _ _ hrx]; rfl
  have zz3 : w2.frozen? ⟨w.heap.size + 1, 3, none⟩ = false := frozen_of_row w2 (w.heap.size + 1) 3 _ _ hrx
  have rr4 : w2.cell? ⟨w.heap.size + 1, 4, none⟩ = some (.int .i64 0) := by rw [cell_of_row w2 (w.heap.size + 1) 4 _ _ _ hrx]; rfl
  have zz4 : w2.frozen? ⟨w.heap.size + 1, 4, none⟩ = false := frozen_of_row w2 (w.heap.size + 1) 4 _ _ hrx
  have rr5 : w2.cell? ⟨w.heap.size + 1, 5, none⟩ = some (.int .i64 0) := by rw [cell_of_row w2 (w.heap.size + 1) 5 _ _ _ hrx]; rfl
  have zz5 : w2.frozen? ⟨w.heap.size + 1, 5, none⟩ = false := frozen_of_row w2 (w.heap.size + 1) 5 _ _ hrx
  have rr6 : w2.cell? ⟨w.heap.size + 1, 6, none⟩ = some (.slice none 0 0) := by rw [cell_of_row w2 (w.heap.size + 1) 6 _ _ _ hrx]; rfl
  have zz6 : w2.frozen? ⟨w.heap.size + 1, 6, none⟩ = false := frozen_of_row w2 (w.heap.size + 1) 6 _ _ hrx
  have rr7 : w2.cell? ⟨w.heap.size + 1, 7, none⟩ = some (.slice none 0 0) := by rw [cell_of_row w2 (w.heap.size + 1) 7 _ _ _ hrx]; rfl
  have zz7 : w2.frozen? ⟨w.heap.size + 1, 7, none⟩ = false := frozen_of_row w2 (w.heap.size + 1) 7 _ _ hrx
  clear hto2 hb2 hLA hLB hL1 hL2 hS0 hS1 hbz hbA neX neR neX2 neR2 hge hrx hox HSA HX HRR hlt0 hsw k4 k5 k6 k7 x0 y0 x1 y1 x2 y2 x3 y3
  go_wp2
  exact bodyPost_ret (v := .agg #[.int .i64 r.f0.op, .int .i64 r.f0.num, .slice P0 r.f0.perm.length q0, .slice K0 r.f0.kids.length s0, .int .i64 r.f1.op, .int .i64 r.f1.num, .slice P1 r.f1.perm.length q1, .slice K1 r.f1.kids.length s1]) (by simp [results, Try.results68, go_sem, rr0, rr1, rr2, rr3, rr4, rr5, rr6, rr7]) rfl hpost
end Go.Proofs.Ytddmoempagcjeaa
end

section
namespace Go.Proofs.Ytddmoempagcjeaa
open Go.RowKit Go.ChangeShapes Go.WideShapes
set_option linter.unusedVariables false

theorem take_set8' {xs : List Value} {j : Nat} {a0 a1 a2 a3 a4 a5 a6 a7 : Value} (h : j + 8 ≤ xs.length) : ((((((((xs.set (j) a0).set (j + 1) a1).set (j + 2) a2).set (j + 3) a3).set (j + 4) a4).set (j + 5) a5).set (j + 6) a6).set (j + 7) a7).take (j + 8) = xs.take j ++ [a0, a1, a2, a3, a4, a5, a6, a7] := by
  apply List.ext_getElem?
  intro i
  rw [List.getElem?_take]
  by_cases hi : i < j + 8
  · rw [if_pos hi]
    by_cases h1 : i < j
    · rw [List.getElem?_append_left (by rw [List.length_take]; omega), List.getElem?_take, if_pos h1]
      simp [show ¬ j = i by omega, show ¬ j + 1 = i by omega, show ¬ j + 2 = i by omega, show ¬ j + 3 = i by omega, show ¬ j + 4 = i by omega, show ¬ j + 5 = i by omega, show ¬ j + 6 = i by omega, show ¬ j + 7 = i by omega]
    · rw [List.getElem?_append_right (by rw [List.length_take]; omega), List.length_take, show min j xs.length = j by omega]
      have hc : i = j ∨ i = j + 1 ∨ i = j + 2 ∨ i = j + 3 ∨ i = j + 4 ∨ i = j + 5 ∨ i = j + 6 ∨ i = j + 7 := by omega
      rcases hc with rfl | rfl | rfl | rfl | rfl | rfl | rfl | rfl
      · simp [show i < xs.length by omega]
      · simp [show j + 1 < xs.length by omega, show j + 1 - j = 1 by omega]
      · simp [show j + 2 < xs.length by omega, show j + 2 - j = 2 by omega]
      · simp [show j + 3 < xs.length by omega, show j + 3 - j = 3 by omega]
      · simp [show j + 4 < xs.length by omega, show j + 4 - j = 4 by omega]
      · simp [show j + 5 < xs.length by omega, show j + 5 - j = 5 by omega]
      · simp [show j + 6 < xs.length by omega, show j + 6 - j = 6 by omega]
      · simp [show j + 7 < xs.length by omega, show j + 7 - j = 7 by omega]
  · rw [if_neg hi, List.getElem?_eq_none (by rw [List.length_append, List.length_take]; simp; omega)]

theorem infoREquation : (Try.prog.info? 98).map (fun i => (i.zero, i.size, i.bytes)) = some (some (.agg #[.int .i64 0, .int .i64 0, .slice none 0 0, .slice none 0 0, .int .i64 0, .int .i64 0, .slice none 0 0, .slice none 0 0]), 8, 128) := by kernel_rfl

/-- Every term of a list of records fits. -/
def FitREquations (rs : List REquation) : Prop := ∀ k, k < rs.length → Fit (atREquation rs k).f0 ∧ Fit (atREquation rs k).f1

set_option maxRecDepth 100000 in
set_option maxHeartbeats 4000000 in
theorem toEquationS_any (rs : List REquation) (hf : FitREquations rs) (hlen : rs.length ≤ 1048576) (w : World) (x : Value) (hx : REquationsIn w x rs) : Calls Try.prog 26 #[x] w (REquationsOut rs w) := by
  obtain ⟨A, c, rfl, hg⟩ := hx
  obtain ⟨i0, hi0, hz0, hz1, hz2⟩ := info_parts infoREquation
  have HS := Lib.hid hz2
  clear hz2
  go_enter Try.func26, Try.ntmps26
  go_wp2_with (at_make; refine wpList_make_full _ rfl (.tmp 6) (.tmp 6) 42 rfl w.heap.size 98 i0 _ 8 Try.underlying42 hi0 hz0 hz1 .i64 .i64 _ _ rs.length rfl rfl rfl rfl ?c1 ?c2 (Nat.le_refl _) ?_)
  case c1 => rw [HS.out]; omega
  case c2 => unfold maxLen; omega
  intro w1 ho hgw
  have hb0 := (Below.refl w.heap.size w).grown hgw (Nat.le_refl _) (fun k hk => by cases hk)
  clear hgw
  generalize hz : (madeCells #[Value.int .i64 0, Value.int .i64 0, Value.slice none 0 0, Value.slice none 0 0, Value.int .i64 0, Value.int .i64 0, Value.slice none 0 0, Value.slice none 0 0] (rs.length * 8)).toList = zs at ho
  clear hz
  have hlt0 : w.heap.size < w1.heap.size := (ho.lt w.heap.size rfl).2
  go_wp2
  go_loopw [4] (fun i wr => ∃ (k : Nat) (S : List Nat) (xs : List Value), k ≤ rs.length ∧ i = .int .i64 k ∧ wr.ownsRow w.heap.size 98 8 (.slice (some ⟨w.heap.size, 0, none⟩) rs.length rs.length) rs.length xs ∧ OwnL wr S (xs.take (k * 8)) (encREquations (rs.take k)) ∧ (∀ b ∈ S, w.heap.size < b) ∧ Below w.heap.size w wr) (fun i _ => rs.length - (intOf i).toNat)
  case atStart => exact ⟨0, [], zs, Nat.zero_le _, rfl, ho, by simp [encREquations]; exact .nil, fun b hb => by simp at hb, hb0⟩
  case round =>
    clear ho hb0
    obtain ⟨k, S, xs, hk, rfl, ho, hL, hSb, hb⟩ := hrel
    have hwr : w.heap.size < wr.heap.size := (ho.lt w.heap.size rfl).2
    by_cases hlt : k < rs.length
    · obtain ⟨b, off, rfl, hbl, hget⟩ := hg (by omega)
      obtain ⟨A0, c0, B0, d0, A1, c1, B1, d1, e0, e1, e2, e3, e4, e5, e6, e7, h0, h1⟩ := (hget k hlt).below hbl hb
      have hct := toEquation_any (atREquation rs k) (hf k hlt) wr _ ⟨A0, c0, B0, d0, A1, c1, B1, d1, rfl, h0, h1⟩
      have hnx := Lib.hid (congrArg encREquations (takeREquation_next hlt))
      generalize atREquation rs k = r at *
      clear hget h0 h1 hg hf hbl
      go_wp2_with fail
      refine hct.mono ?_
      rintro e w2 ⟨P0, q0, K0, s0, P1, q1, K1, s1, Q, rfl, hQ, hQb, hb2⟩
      have ho2 := own_below ho hb2
      have hL2 := hL.alike (w' := w2) fun b hb' => hb2.block b (hL.lt b hb')
      have hb3 := hb.trans (hb2.mono hb.size)
      have hxl := ho2.1
      obtain ⟨v0, u0⟩ := some_of_lt xs (k * 8) (by omega)
      obtain ⟨v1, u1⟩ := some_of_lt xs (k * 8 + 1) (by omega)
      obtain ⟨v2, u2⟩ := some_of_lt xs (k * 8 + 2) (by omega)
      obtain ⟨v3, u3⟩ := some_of_lt xs (k * 8 + 3) (by omega)
      obtain ⟨v4, u4⟩ := some_of_lt xs (k * 8 + 4) (by omega)
      obtain ⟨v5, u5⟩ := some_of_lt xs (k * 8 + 5) (by omega)
      obtain ⟨v6, u6⟩ := some_of_lt xs (k * 8 + 6) (by omega)
      obtain ⟨v7, u7⟩ := some_of_lt xs (k * 8 + 7) (by omega)
      have g0 := (ho2.cellAt (k * 8) (by omega)).trans u0
      have g1 := (ho2.cellAt (k * 8 + 1) (by omega)).trans u1
      have g2 := (ho2.cellAt (k * 8 + 2) (by omega)).trans u2
      have g3 := (ho2.cellAt (k * 8 + 3) (by omega)).trans u3
      have g4 := (ho2.cellAt (k * 8 + 4) (by omega)).trans u4
      have g5 := (ho2.cellAt (k * 8 + 5) (by omega)).trans u5
      have g6 := (ho2.cellAt (k * 8 + 6) (by omega)).trans u6
      have g7 := (ho2.cellAt (k * 8 + 7) (by omega)).trans u7
      have f0 := ho2.frozenAt (k * 8)
      have f1 := ho2.frozenAt (k * 8 + 1)
      have f2 := ho2.frozenAt (k * 8 + 2)
      have f3 := ho2.frozenAt (k * 8 + 3)
      have f4 := ho2.frozenAt (k * 8 + 4)
      have f5 := ho2.frozenAt (k * 8 + 5)
      have f6 := ho2.frozenAt (k * 8 + 6)
      have f7 := ho2.frozenAt (k * 8 + 7)
      obtain ⟨o0, q0g⟩ := ho2.stored (k * 8) (.int .i64 r.f0.op)
      obtain ⟨o1, q1g⟩ := o0.stored (k * 8 + 1) (.int .i64 r.f0.num)
      obtain ⟨o2, q2g⟩ := o1.stored (k * 8 + 2) (.slice P0 r.f0.perm.length q0)
      obtain ⟨o3, q3g⟩ := o2.stored (k * 8 + 3) (.slice K0 r.f0.kids.length s0)
      obtain ⟨o4, q4g⟩ := o3.stored (k * 8 + 4) (.int .i64 r.f1.op)
      obtain ⟨o5, q5g⟩ := o4.stored (k * 8 + 5) (.int .i64 r.f1.num)
      obtain ⟨o6, q6g⟩ := o5.stored (k * 8 + 6) (.slice P1 r.f1.perm.length q1)
      obtain ⟨o7, q7g⟩ := o6.stored (k * 8 + 7) (.slice K1 r.f1.kids.length s1)
      have hq := (grownBy_trans q0g (grownBy_trans q1g (grownBy_trans q2g (grownBy_trans q3g (grownBy_trans q4g (grownBy_trans q5g (grownBy_trans q6g q7g)))))))
      have hL3 := hL2.kept hq (fun b hb' => by have := hSb b hb'; intro e; injection e with e; omega)
      have hR3 := hQ.kept hq (fun b hb' => by have := hQb b hb'; intro e; injection e with e; omega)
      have hdis : ∀ b ∈ S, b ∉ Q := fun b h1 h2 => by have h3 := hL.lt b h1; have h4 := hQb b h2; omega
      have hL4 := hL3.append hR3 hdis
      have hb5 := hb3.grown hq hb3.size (fun j hj => by injection hj with hj; omega)
      have htk : Hid (((((((((xs.set (k * 8) (.int .i64 r.f0.op)).set (k * 8 + 1) (.int .i64 r.f0.num)).set (k * 8 + 2) (.slice P0 r.f0.perm.length q0)).set (k * 8 + 3) (.slice K0 r.f0.kids.length s0)).set (k * 8 + 4) (.int .i64 r.f1.op)).set (k * 8 + 5) (.int .i64 r.f1.num)).set (k * 8 + 6) (.slice P1 r.f1.perm.length q1)).set (k * 8 + 7) (.slice K1 r.f1.kids.length s1)).take ((k + 1) * 8) = xs.take (k * 8) ++ [.int .i64 r.f0.op, .int .i64 r.f0.num, .slice P0 r.f0.perm.length q0, .slice K0 r.f0.kids.length s0, .int .i64 r.f1.op, .int .i64 r.f1.num, .slice P1 r.f1.perm.length q1, .slice K1 r.f1.kids.length s1]) := by
        show ((((((((xs.set (k * 8) (.int .i64 r.f0.op)).set (k * 8 + 1) (.int .i64 r.f0.num)).set (k * 8 + 2) (.slice P0 r.f0.perm.length q0)).set (k * 8 + 3) (.slice K0 r.f0.kids.length s0)).set (k * 8 + 4) (.int .i64 r.f1.op)).set (k * 8 + 5) (.int .i64 r.f1.num)).set (k * 8 + 6) (.slice P1 r.f1.perm.length q1)).set (k * 8 + 7) (.slice K1 r.f1.kids.length s1)).take ((k + 1) * 8) = xs.take (k * 8) ++ [.int .i64 r.f0.op, .int .i64 r.f0.num, .slice P0 r.f0.perm.length q0, .slice K0 r.f0.kids.length s0, .int .i64 r.f1.op, .int .i64 r.f1.num, .slice P1 r.f1.perm.length q1, .slice K1 r.f1.kids.length s1]
        rw [show (k + 1) * 8 = k * 8 + 8 by omega]
        exact take_set8' (by omega)
      have hL5 := hL4
      rw [← htk.out, ← (show encREquations [r] = encREquation r by simp [encREquations]), ← encREquations_append, ← hnx.out] at hL5
      have hSR : ∀ b ∈ S ++ Q, w.heap.size < b := fun b hb' => by
        rcases List.mem_append.1 hb' with h | h
        · exact hSb b h
        · have := hQb b h; omega
      clear ho ho2 hL hL2 hL3 hL4 hQ hR3 hb hb2 hb3 q0g q1g q2g q3g q4g q5g q6g q7g hq o0 o1 o2 o3 o4 o5 o6 u0 u1 u2 u3 u4 u5 u6 u7 hxl hct hnx htk hdis hSb hQb e0 e1 e2 e3 e4 e5 e6 e7
      go_wp2
      refine ⟨⟨k + 1, S ++ Q, _, by omega, by go_num, o7, hL5, hSR, hb5⟩, ?_⟩
      simp only [intOf]
      omega
    · have e : k = rs.length := by omega
      subst e
      have hl := ho.1
      rw [List.take_of_length_le (by omega), List.take_of_length_le (Nat.le_refl _)] at hL
      have hpost : REquationsOut rs w (.returned (.slice (some ⟨w.heap.size, 0, none⟩) rs.length rs.length)) wr :=
        ⟨_, w.heap.size :: S, rfl, .row (encREquations_len rs) (own_le ho (Nat.zero_le _)) hL (fun h => by have := hSb _ h; omega), fun b hb' => by
          rcases List.mem_cons.1 hb' with h | h
          · omega
          · have := hSb b h; omega, hb⟩
      clear ho hL hSb hb hg hl
      go_wp2
      go_ret
      exact hpost
end Go.Proofs.Ytddmoempagcjeaa
end

section
namespace Go.Proofs.Ytddmoempagcjeaa
open Go.RowKit
set_option linter.unusedVariables false

theorem encREquation_eq (r : REquation) : encREquation r = [.cell (.int .i64 r.f0.op), .cell (.int .i64 r.f0.num), pairMem r.f0.perm, tmsMem r.f0.kids, .cell (.int .i64 r.f1.op), .cell (.int .i64 r.f1.num), pairMem r.f1.perm, tmsMem r.f1.kids] := by unfold encREquation; rw [encT_eq]; rw [encT_eq]; rfl
theorem encREquations_parts : ∀ {rs : List REquation} {i : Nat}, i < rs.length → (encREquations rs)[i * 8]? = some (.cell (.int .i64 (atREquation rs i).f0.op)) ∧ (encREquations rs)[i * 8 + 1]? = some (.cell (.int .i64 (atREquation rs i).f0.num)) ∧ (encREquations rs)[i * 8 + 2]? = some (pairMem (atREquation rs i).f0.perm) ∧ (encREquations rs)[i * 8 + 3]? = some (tmsMem (atREquation rs i).f0.kids) ∧ (encREquations rs)[i * 8 + 4]? = some (.cell (.int .i64 (atREquation rs i).f1.op)) ∧ (encREquations rs)[i * 8 + 5]? = some (.cell (.int .i64 (atREquation rs i).f1.num)) ∧ (encREquations rs)[i * 8 + 6]? = some (pairMem (atREquation rs i).f1.perm) ∧ (encREquations rs)[i * 8 + 7]? = some (tmsMem (atREquation rs i).f1.kids)
  | [], i, h => by simp at h
  | r :: rs, 0, _ => by
    rw [encREquations, encREquation_eq, atREquation_zero]
    exact ⟨rfl, rfl, rfl, rfl, rfl, rfl, rfl, rfl⟩
  | r :: rs, i + 1, h => by
    have g := encREquations_parts (rs := rs) (i := i) (by simpa using h)
    have hl := encREquation_len r
    rw [encREquations, atREquation_succ]
    refine ⟨?_, ?_, ?_, ?_, ?_, ?_, ?_, ?_⟩
    · rw [List.getElem?_append_right (by omega), show (i + 1) * 8 - (encREquation r).length = i * 8 by omega]; exact g.1
    · rw [List.getElem?_append_right (by omega), show (i + 1) * 8 + 1 - (encREquation r).length = i * 8 + 1 by omega]; exact g.2.1
    · rw [List.getElem?_append_right (by omega), show (i + 1) * 8 + 2 - (encREquation r).length = i * 8 + 2 by omega]; exact g.2.2.1
    · rw [List.getElem?_append_right (by omega), show (i + 1) * 8 + 3 - (encREquation r).length = i * 8 + 3 by omega]; exact g.2.2.2.1
    · rw [List.getElem?_append_right (by omega), show (i + 1) * 8 + 4 - (encREquation r).length = i * 8 + 4 by omega]; exact g.2.2.2.2.1
    · rw [List.getElem?_append_right (by omega), show (i + 1) * 8 + 5 - (encREquation r).length = i * 8 + 5 by omega]; exact g.2.2.2.2.2.1
    · rw [List.getElem?_append_right (by omega), show (i + 1) * 8 + 6 - (encREquation r).length = i * 8 + 6 by omega]; exact g.2.2.2.2.2.2.1
    · rw [List.getElem?_append_right (by omega), show (i + 1) * 8 + 7 - (encREquation r).length = i * 8 + 7 by omega]; exact g.2.2.2.2.2.2.2

theorem ownREquations_in {w : World} {S : List Nat} {v : Value} {rs : List REquation} (h : Own w S v (memREquations rs)) : REquationsIn w v rs := by
  have h := h.at_
  obtain ⟨B, m, d, rfl, hl⟩ := At.form h
  rw [encREquations_len] at hl
  have e : m = rs.length := by omega
  subst e
  refine ⟨B, d, rfl, fun hp => ?_⟩
  obtain ⟨b, off, rfl, hb, hc⟩ := At.get h hp
  refine ⟨b, off, rfl, hb, fun k hk => ?_⟩
  obtain ⟨p0, p1, p2, p3, p4, p5, p6, p7⟩ := encREquations_parts hk
  obtain ⟨u0, e0, a0⟩ := hc _ _ p0
  obtain ⟨u1, e1, a1⟩ := hc _ _ p1
  obtain ⟨u2, e2, a2⟩ := hc _ _ p2
  obtain ⟨u3, e3, a3⟩ := hc _ _ p3
  obtain ⟨u4, e4, a4⟩ := hc _ _ p4
  obtain ⟨u5, e5, a5⟩ := hc _ _ p5
  obtain ⟨u6, e6, a6⟩ := hc _ _ p6
  obtain ⟨u7, e7, a7⟩ := hc _ _ p7
  rw [a0.cell_eq] at e0
  rw [a1.cell_eq] at e1
  obtain ⟨A0, c0, rfl, hp0⟩ := at_pairs a2
  obtain ⟨B0, d0, rfl⟩ := TmsIn.form (ts := (atREquation rs k).f0.kids) a3
  rw [a4.cell_eq] at e4
  rw [a5.cell_eq] at e5
  obtain ⟨A1, c1, rfl, hp1⟩ := at_pairs a6
  obtain ⟨B1, d1, rfl⟩ := TmsIn.form (ts := (atREquation rs k).f1.kids) a7
  exact ⟨A0, c0, B0, d0, A1, c1, B1, d1, e0, (by rw [Nat.add_assoc]; exact e1), (by rw [Nat.add_assoc]; exact e2), (by rw [Nat.add_assoc]; exact e3), (by rw [Nat.add_assoc]; exact e4), (by rw [Nat.add_assoc]; exact e5), (by rw [Nat.add_assoc]; exact e6), (by rw [Nat.add_assoc]; exact e7), ⟨A0, c0, _, rfl, hp0, a3⟩, ⟨A1, c1, _, rfl, hp1, a7⟩⟩
end Go.Proofs.Ytddmoempagcjeaa
end

