/-
  Copies of bindings, in memory of their own, as the laws make them. Copies of slices of bindings, in memory of their own, as the laws make them. A copy of bindings reads as the bindings.
-/
import Derived.Test.YtnomidnjglbedaaKIsSubstitution12
import Derived.Test.YtnomidnjglbedaaKIsSubstitution7
section
namespace Go.Proofs.Ytnomidnjglbedaa
open Go.RowKit Go.ChangeShapes Go.WideShapes
set_option linter.unusedVariables false

/-- The cells of a record. -/
def encRBinding (r : RBinding) : List Mem := [.cell (.int .i64 r.f0)] ++ encT r.f1
def encRBindings : List RBinding → List Mem
  | [] => []
  | r :: rs => encRBinding r ++ encRBindings rs
theorem encRBinding_len (r : RBinding) : (encRBinding r).length = 5 := by simp [encRBinding, encT_len]
theorem encRBindings_len : ∀ rs : List RBinding, (encRBindings rs).length = rs.length * 5
  | [] => rfl
  | r :: rs => by rw [encRBindings, List.length_append, encRBinding_len, encRBindings_len rs, List.length_cons]; omega
theorem encRBindings_append : ∀ a b : List RBinding, encRBindings (a ++ b) = encRBindings a ++ encRBindings b
  | [], b => rfl
  | r :: a, b => by rw [List.cons_append, encRBindings, encRBindings, encRBindings_append a b, List.append_assoc]
def memRBindings (rs : List RBinding) : Mem := .row 106 5 (encRBindings rs)
/-- A record of the call's own. -/
def RBindingOut (r : RBinding) (w : World) (e : Ending) (w' : World) : Prop :=
  ∃ P q K s S, e = .returned (.agg #[.int .i64 r.f0, .int .i64 r.f1.op, .int .i64 r.f1.num, .slice P r.f1.perm.length q, .slice K r.f1.kids.length s]) ∧ OwnL w' S [.int .i64 r.f0, .int .i64 r.f1.op, .int .i64 r.f1.num, .slice P r.f1.perm.length q, .slice K r.f1.kids.length s] (encRBinding r) ∧ (∀ b ∈ S, w.heap.size ≤ b) ∧ Below w.heap.size w w'
def RBindingsOut (rs : List RBinding) (w : World) (e : Ending) (w' : World) : Prop :=
  ∃ v S, e = .returned v ∧ Own w' S v (memRBindings rs) ∧ (∀ b ∈ S, w.heap.size ≤ b) ∧ Below w.heap.size w w'

set_option maxRecDepth 100000 in
set_option maxHeartbeats 2000000 in
theorem toBinding_any (r : RBinding) (hf : Fit r.f1) (w : World) (v : Value) (hv : RBindingIn w v r) : Calls Try.prog 81 #[v] w (RBindingOut r w) := by
  obtain ⟨A1, c1, B1, d1, rfl, hv1⟩ := hv
  have hb0 : Below w.heap.size w (((w.alloc (.cells #[.int .i64 r.f0, .int .i64 r.f1.op, .int .i64 r.f1.num, .slice A1 r.f1.perm.length c1, .slice B1 r.f1.kids.length d1] 104)).alloc (.cells #[.int .i64 0, .int .i64 0, .int .i64 0, .slice none 0 0, .slice none 0 0] 106)).alloc (.cells #[.int .i64 r.f0, .int .i64 0, .int .i64 0, .slice none 0 0, .slice none 0 0] 106)) := (((Below.refl _ _).alloc (Nat.le_refl _) _).alloc (by simp) _).alloc (by simp; omega) _
  have hto := toTerm_any r.f1 hf _ _ (hv1.below hb0)
  have hsz0 : (((w.alloc (.cells #[.int .i64 r.f0, .int .i64 r.f1.op, .int .i64 r.f1.num, .slice A1 r.f1.perm.length c1, .slice B1 r.f1.kids.length d1] 104)).alloc (.cells #[.int .i64 0, .int .i64 0, .int .i64 0, .slice none 0 0, .slice none 0 0] 106)).alloc (.cells #[.int .i64 r.f0, .int .i64 0, .int .i64 0, .slice none 0 0, .slice none 0 0] 106)).heap.size = w.heap.size + 3 := by simp
  have hbox : (((w.alloc (.cells #[.int .i64 r.f0, .int .i64 r.f1.op, .int .i64 r.f1.num, .slice A1 r.f1.perm.length c1, .slice B1 r.f1.kids.length d1] 104)).alloc (.cells #[.int .i64 0, .int .i64 0, .int .i64 0, .slice none 0 0, .slice none 0 0] 106)).alloc (.cells #[.int .i64 r.f0, .int .i64 0, .int .i64 0, .slice none 0 0, .slice none 0 0] 106)).heap[w.heap.size]? = some (.cells #[.int .i64 r.f0, .int .i64 r.f1.op, .int .i64 r.f1.num, .slice A1 r.f1.perm.length c1, .slice B1 r.f1.kids.length d1] 104 (0, 0)) := (Below.heap_alloc _ _ _ (by simp; omega)).trans ((Below.heap_alloc _ _ _ (by simp)).trans (heap_alloc_new w _))
  have hres : (((w.alloc (.cells #[.int .i64 r.f0, .int .i64 r.f1.op, .int .i64 r.f1.num, .slice A1 r.f1.perm.length c1, .slice B1 r.f1.kids.length d1] 104)).alloc (.cells #[.int .i64 0, .int .i64 0, .int .i64 0, .slice none 0 0, .slice none 0 0] 106)).alloc (.cells #[.int .i64 r.f0, .int .i64 0, .int .i64 0, .slice none 0 0, .slice none 0 0] 106)).heap[w.heap.size + 1]? = some (.cells #[.int .i64 0, .int .i64 0, .int .i64 0, .slice none 0 0, .slice none 0 0] 106 (0, 0)) := by
    have h9 := heap_alloc_new (w.alloc (.cells #[.int .i64 r.f0, .int .i64 r.f1.op, .int .i64 r.f1.num, .slice A1 r.f1.perm.length c1, .slice B1 r.f1.kids.length d1] 104)) (.cells #[.int .i64 0, .int .i64 0, .int .i64 0, .slice none 0 0, .slice none 0 0] 106)
    rw [World.size_alloc] at h9
    exact (Below.heap_alloc _ _ _ (by simp)).trans h9
  have hout : (((w.alloc (.cells #[.int .i64 r.f0, .int .i64 r.f1.op, .int .i64 r.f1.num, .slice A1 r.f1.perm.length c1, .slice B1 r.f1.kids.length d1] 104)).alloc (.cells #[.int .i64 0, .int .i64 0, .int .i64 0, .slice none 0 0, .slice none 0 0] 106)).alloc (.cells #[.int .i64 r.f0, .int .i64 0, .int .i64 0, .slice none 0 0, .slice none 0 0] 106)).heap[w.heap.size + 1 + 1]? = some (.cells #[.int .i64 r.f0, .int .i64 0, .int .i64 0, .slice none 0 0, .slice none 0 0] 106 (0, 0)) := by
    have h9 := heap_alloc_new ((w.alloc (.cells #[.int .i64 r.f0, .int .i64 r.f1.op, .int .i64 r.f1.num, .slice A1 r.f1.perm.length c1, .slice B1 r.f1.kids.length d1] 104)).alloc (.cells #[.int .i64 0, .int .i64 0, .int .i64 0, .slice none 0 0, .slice none 0 0] 106)) (.cells #[.int .i64 r.f0, .int .i64 0, .int .i64 0, .slice none 0 0, .slice none 0 0] 106)
    rw [World.size_alloc, World.size_alloc] at h9
    exact h9
  have l0 : (((w.alloc (.cells #[.int .i64 r.f0, .int .i64 r.f1.op, .int .i64 r.f1.num, .slice A1 r.f1.perm.length c1, .slice B1 r.f1.kids.length d1] 104)).alloc (.cells #[.int .i64 0, .int .i64 0, .int .i64 0, .slice none 0 0, .slice none 0 0] 106)).alloc (.cells #[.int .i64 r.f0, .int .i64 0, .int .i64 0, .slice none 0 0, .slice none 0 0] 106)).cell? ⟨w.heap.size, 0, none⟩ = some (.int .i64 r.f0) := by rw [cell_of_row _ _ 0 _ _ _ hbox]; rfl
  have l1 : (((w.alloc (.cells #[.int .i64 r.f0, .int .i64 r.f1.op, .int .i64 r.f1.num, .slice A1 r.f1.perm.length c1, .slice B1 r.f1.kids.length d1] 104)).alloc (.cells #[.int .i64 0, .int .i64 0, .int .i64 0, .slice none 0 0, .slice none 0 0] 106)).alloc (.cells #[.int .i64 r.f0, .int .i64 0, .int .i64 0, .slice none 0 0, .slice none 0 0] 106)).cell? ⟨w.heap.size, 1, none⟩ = some (.int .i64 r.f1.op) := by rw [cell_of_row _ _ 1 _ _ _ hbox]; rfl
  have l2 : (((w.alloc (.cells #[.int .i64 r.f0, .int .i64 r.f1.op, .int .i64 r.f1.num, .slice A1 r.f1.perm.length c1, .slice B1 r.f1.kids.length d1] 104)).alloc (.cells #[.int .i64 0, .int .i64 0, .int .i64 0, .slice none 0 0, .slice none 0 0] 106)).alloc (.cells #[.int .i64 r.f0, .int .i64 0, .int .i64 0, .slice none 0 0, .slice none 0 0] 106)).cell? ⟨w.heap.size, 2, none⟩ = some (.int .i64 r.f1.num) := by rw [cell_of_row _ _ 2 _ _ _ hbox]; rfl
  have l3 : (((w.alloc (.cells #[.int .i64 r.f0, .int .i64 r.f1.op, .int .i64 r.f1.num, .slice A1 r.f1.perm.length c1, .slice B1 r.f1.kids.length d1] 104)).alloc (.cells #[.int .i64 0, .int .i64 0, .int .i64 0, .slice none 0 0, .slice none 0 0] 106)).alloc (.cells #[.int .i64 r.f0, .int .i64 0, .int .i64 0, .slice none 0 0, .slice none 0 0] 106)).cell? ⟨w.heap.size, 3, none⟩ = some (.slice A1 r.f1.perm.length c1) := by rw [cell_of_row _ _ 3 _ _ _ hbox]; rfl
  have l4 : (((w.alloc (.cells #[.int .i64 r.f0, .int .i64 r.f1.op, .int .i64 r.f1.num, .slice A1 r.f1.perm.length c1, .slice B1 r.f1.kids.length d1] 104)).alloc (.cells #[.int .i64 0, .int .i64 0, .int .i64 0, .slice none 0 0, .slice none 0 0] 106)).alloc (.cells #[.int .i64 r.f0, .int .i64 0, .int .i64 0, .slice none 0 0, .slice none 0 0] 106)).cell? ⟨w.heap.size, 4, none⟩ = some (.slice B1 r.f1.kids.length d1) := by rw [cell_of_row _ _ 4 _ _ _ hbox]; rfl
  have HS0 := Lib.hid hsz0
  have HO := Lib.hid hout
  have HR := Lib.hid hres
  clear hsz0 hbox hout hres hv1
  go_enter Try.func81, Try.ntmps81
  go_wp2_with fail
  refine hto.mono ?_
  rintro e w1 ⟨P, q, K, s, S, rfl, hL, hS, hb1⟩
  have hrx := (hb1.block (w.heap.size + 1) (by rw [HS0.out]; omega)).trans HR.out
  have hox := (hb1.block (w.heap.size + 1 + 1) (by rw [HS0.out]; omega)).trans HO.out
  rw [HS0.out] at hS
  have hbz := hb0.trans (hb1.mono hb0.size)
  have hL1 : OwnL w1 S [.int .i64 r.f0, .int .i64 r.f1.op, .int .i64 r.f1.num, .slice P r.f1.perm.length q, .slice K r.f1.kids.length s] (encRBinding r) := by
    have h : OwnL w1 ([] ++ S) [.int .i64 r.f0, .int .i64 r.f1.op, .int .i64 r.f1.num, .slice P r.f1.perm.length q, .slice K r.f1.kids.length s] (.cell (.int .i64 r.f0) :: encT r.f1) := (.cons (S := []) (.cell _) hL (fun b hb => by simp at hb))
    exact h
  have neX : ∀ b ∈ S, b ≠ w.heap.size + 1 + 1 := fun b hb => by have := hS b hb; omega
  have neR : ∀ b ∈ S, b ≠ w.heap.size + 1 := fun b hb => by have := hS b hb; omega
  have hpost : RBindingOut r w (.returned (.agg #[.int .i64 r.f0, .int .i64 r.f1.op, .int .i64 r.f1.num, .slice P r.f1.perm.length q, .slice K r.f1.kids.length s])) (((((((((w1.setCell ⟨w.heap.size + 1 + 1, 1, none⟩ (.int .i64 r.f1.op)).setCell ⟨w.heap.size + 1 + 1, 2, none⟩ (.int .i64 r.f1.num)).setCell ⟨w.heap.size + 1 + 1, 3, none⟩ (.slice P r.f1.perm.length q)).setCell ⟨w.heap.size + 1 + 1, 4, none⟩ (.slice K r.f1.kids.length s)).setCell ⟨w.heap.size + 1, 0, none⟩ (.int .i64 r.f0)).setCell ⟨w.heap.size + 1, 1, none⟩ (.int .i64 r.f1.op)).setCell ⟨w.heap.size + 1, 2, none⟩ (.int .i64 r.f1.num)).setCell ⟨w.heap.size + 1, 3, none⟩ (.slice P r.f1.perm.length q)).setCell ⟨w.heap.size + 1, 4, none⟩ (.slice K r.f1.kids.length s)) :=
    ⟨P, q, K, s, S, rfl, (((((((((hL1.setOther ⟨w.heap.size + 1 + 1, 1, none⟩ (.int .i64 r.f1.op) neX).setOther ⟨w.heap.size + 1 + 1, 2, none⟩ (.int .i64 r.f1.num) neX).setOther ⟨w.heap.size + 1 + 1, 3, none⟩ (.slice P r.f1.perm.length q) neX).setOther ⟨w.heap.size + 1 + 1, 4, none⟩ (.slice K r.f1.kids.length s) neX).setOther ⟨w.heap.size + 1, 0, none⟩ (.int .i64 r.f0) neR).setOther ⟨w.heap.size + 1, 1, none⟩ (.int .i64 r.f1.op) neR).setOther ⟨w.heap.size + 1, 2, none⟩ (.int .i64 r.f1.num) neR).setOther ⟨w.heap.size + 1, 3, none⟩ (.slice P r.f1.perm.length q) neR).setOther ⟨w.heap.size + 1, 4, none⟩ (.slice K r.f1.kids.length s) neR), fun b hb => by have := hS b hb; omega, (((((((((hbz.setCell (p := ⟨w.heap.size + 1 + 1, 1, none⟩) (show w.heap.size ≤ w.heap.size + 1 + 1 by omega) (.int .i64 r.f1.op)).setCell (p := ⟨w.heap.size + 1 + 1, 2, none⟩) (show w.heap.size ≤ w.heap.size + 1 + 1 by omega) (.int .i64 r.f1.num)).setCell (p := ⟨w.heap.size + 1 + 1, 3, none⟩) (show w.heap.size ≤ w.heap.size + 1 + 1 by omega) (.slice P r.f1.perm.length q)).setCell (p := ⟨w.heap.size + 1 + 1, 4, none⟩) (show w.heap.size ≤ w.heap.size + 1 + 1 by omega) (.slice K r.f1.kids.length s)).setCell (p := ⟨w.heap.size + 1, 0, none⟩) (show w.heap.size ≤ w.heap.size + 1 by omega) (.int .i64 r.f0)).setCell (p := ⟨w.heap.size + 1, 1, none⟩) (show w.heap.size ≤ w.heap.size + 1 by omega) (.int .i64 r.f1.op)).setCell (p := ⟨w.heap.size + 1, 2, none⟩) (show w.heap.size ≤ w.heap.size + 1 by omega) (.int .i64 r.f1.num)).setCell (p := ⟨w.heap.size + 1, 3, none⟩) (show w.heap.size ≤ w.heap.size + 1 by omega) (.slice P r.f1.perm.length q)).setCell (p := ⟨w.heap.size + 1, 4, none⟩) (show w.heap.size ≤ w.heap.size + 1 by omega) (.slice K r.f1.kids.length s))⟩
  have x0 : w1.cell? ⟨w.heap.size + 1 + 1, 0, none⟩ = some (.int .i64 r.f0) := by rw [cell_of_row w1 (w.heap.size + 1 + 1) 0 _ _ _ hox]; rfl
  have y0 : w1.frozen? ⟨w.heap.size + 1 + 1, 0, none⟩ = false := frozen_of_row w1 (w.heap.size + 1 + 1) 0 _ _ hox
  have x1 : w1.cell? ⟨w.heap.size + 1 + 1, 1, none⟩ = some (.int .i64 0) := by rw [cell_of_row w1 (w.heap.size + 1 + 1) 1 _ _ _ hox]; rfl
  have y1 : w1.frozen? ⟨w.heap.size + 1 + 1, 1, none⟩ = false := frozen_of_row w1 (w.heap.size + 1 + 1) 1 _ _ hox
  have x2 : w1.cell? ⟨w.heap.size + 1 + 1, 2, none⟩ = some (.int .i64 0) := by rw [cell_of_row w1 (w.heap.size + 1 + 1) 2 _ _ _ hox]; rfl
  have y2 : w1.frozen? ⟨w.heap.size + 1 + 1, 2, none⟩ = false := frozen_of_row w1 (w.heap.size + 1 + 1) 2 _ _ hox
  have x3 : w1.cell? ⟨w.heap.size + 1 + 1, 3, none⟩ = some (.slice none 0 0) := by rw [cell_of_row w1 (w.heap.size + 1 + 1) 3 _ _ _ hox]; rfl
  have y3 : w1.frozen? ⟨w.heap.size + 1 + 1, 3, none⟩ = false := frozen_of_row w1 (w.heap.size + 1 + 1) 3 _ _ hox
  have x4 : w1.cell? ⟨w.heap.size + 1 + 1, 4, none⟩ = some (.slice none 0 0) := by rw [cell_of_row w1 (w.heap.size + 1 + 1) 4 _ _ _ hox]; rfl
  have y4 : w1.frozen? ⟨w.heap.size + 1 + 1, 4, none⟩ = false := frozen_of_row w1 (w.heap.size + 1 + 1) 4 _ _ hox
  have r0 : w1.cell? ⟨w.heap.size + 1, 0, none⟩ = some (.int .i64 0) := by rw [cell_of_row w1 (w.heap.size + 1) 0 _ _ _ hrx]; rfl
  have z0 : w1.frozen? ⟨w.heap.size + 1, 0, none⟩ = false := frozen_of_row w1 (w.heap.size + 1) 0 _ _ hrx
  have r1 : w1.cell? ⟨w.heap.size + 1, 1, none⟩ = some (.int .i64 0) := by rw [cell_of_row w1 (w.heap.size + 1) 1 _ _ _ hrx]; rfl
  have z1 : w1.frozen? ⟨w.heap.size + 1, 1, none⟩ = false := frozen_of_row w1 (w.heap.size + 1) 1 _ _ hrx
  have r2 : w1.cell? ⟨w.heap.size + 1, 2, none⟩ = some (.int .i64 0) := by rw [cell_of_row w1 (w.heap.size + 1) 2 _ _ _ hrx]; rfl
  have z2 : w1.frozen? ⟨w.heap.size + 1, 2, none⟩ = false := frozen_of_row w1 (w.heap.size + 1) 2 _ _ hrx
  have r3 : w1.cell? ⟨w.heap.size + 1, 3, none⟩ = some (.slice none 0 0) := by rw [cell_of_row w1 (w.heap.size + 1) 3 _ _ _ hrx]; rfl
  have z3 : w1.frozen? ⟨w.heap.size + 1, 3, none⟩ = false := frozen_of_row w1 (w.heap.size + 1) 3 _ _ hrx
  have r4 : w1.cell? ⟨w.heap.size + 1, 4, none⟩ = some (.slice none 0 0) := by rw [cell_of_row w1 (w.heap.size + 1) 4 _ _ _ hrx]; rfl
  have z4 : w1.frozen? ⟨w.heap.size + 1, 4, none⟩ = false := frozen_of_row w1 (w.heap.size + 1) 4 _ _ hrx
  clear hto hb0 hb1 hL hL1 hS hbz neX neR hrx hox HS0 HO HR l0 l1 l2 l3 l4
  go_wp2
  exact bodyPost_ret (v := .agg #[.int .i64 r.f0, .int .i64 r.f1.op, .int .i64 r.f1.num, .slice P r.f1.perm.length q, .slice K r.f1.kids.length s]) (by simp [results, Try.results81, go_sem, r0, r1, r2, r3, r4]) rfl hpost
end Go.Proofs.Ytnomidnjglbedaa
end

section
namespace Go.Proofs.Ytnomidnjglbedaa
open Go.RowKit Go.ChangeShapes Go.WideShapes
set_option linter.unusedVariables false

theorem take_set5' {xs : List Value} {j : Nat} {a0 a1 a2 a3 a4 : Value} (h : j + 5 ≤ xs.length) : (((((xs.set (j) a0).set (j + 1) a1).set (j + 2) a2).set (j + 3) a3).set (j + 4) a4).take (j + 5) = xs.take j ++ [a0, a1, a2, a3, a4] := by
  apply List.ext_getElem?
  intro i
  rw [List.getElem?_take]
  by_cases hi : i < j + 5
  · rw [if_pos hi]
    by_cases h1 : i < j
    · rw [List.getElem?_append_left (by rw [List.length_take]; omega), List.getElem?_take, if_pos h1]
      simp [show ¬ j = i by omega, show ¬ j + 1 = i by omega, show ¬ j + 2 = i by omega, show ¬ j + 3 = i by omega, show ¬ j + 4 = i by omega]
    · rw [List.getElem?_append_right (by rw [List.length_take]; omega), List.length_take, show min j xs.length = j by omega]
      have hc : i = j ∨ i = j + 1 ∨ i = j + 2 ∨ i = j + 3 ∨ i = j + 4 := by omega
      rcases hc with rfl | rfl | rfl | rfl | rfl
      · simp [show i < xs.length by omega]
      · simp [show j + 1 < xs.length by omega, show j + 1 - j = 1 by omega]
      · simp [show j + 2 < xs.length by omega, show j + 2 - j = 2 by omega]
      · simp [show j + 3 < xs.length by omega, show j + 3 - j = 3 by omega]
      · simp [show j + 4 < xs.length by omega, show j + 4 - j = 4 by omega]
  · rw [if_neg hi, List.getElem?_eq_none (by rw [List.length_append, List.length_take]; simp; omega)]

theorem infoRBinding : (Try.prog.info? 106).map (fun i => (i.zero, i.size, i.bytes)) = some (some (.agg #[.int .i64 0, .int .i64 0, .int .i64 0, .slice none 0 0, .slice none 0 0]), 5, 72) := by kernel_rfl

/-- Every term of a list of records fits. -/
def FitRBindings (rs : List RBinding) : Prop := ∀ k, k < rs.length → Fit (atRBinding rs k).f1

set_option maxRecDepth 100000 in
set_option maxHeartbeats 4000000 in
theorem toBindingS_any (rs : List RBinding) (hf : FitRBindings rs) (hlen : rs.length ≤ 1048576) (w : World) (x : Value) (hx : RBindingsIn w x rs) : Calls Try.prog 32 #[x] w (RBindingsOut rs w) := by
  obtain ⟨A, c, rfl, hg⟩ := hx
  obtain ⟨i0, hi0, hz0, hz1, hz2⟩ := info_parts infoRBinding
  have HS := Lib.hid hz2
  clear hz2
  go_enter Try.func32, Try.ntmps32
  go_wp2_with (at_make; refine wpList_make_full _ rfl (.tmp 6) (.tmp 6) 44 rfl w.heap.size 106 i0 _ 5 Try.underlying44 hi0 hz0 hz1 .i64 .i64 _ _ rs.length rfl rfl rfl rfl ?c1 ?c2 (Nat.le_refl _) ?_)
  case c1 => rw [HS.out]; omega
  case c2 => unfold maxLen; omega
  intro w1 ho hgw
  have hb0 := (Below.refl w.heap.size w).grown hgw (Nat.le_refl _) (fun k hk => by cases hk)
  clear hgw
  generalize hz : (madeCells #[Value.int .i64 0, Value.int .i64 0, Value.int .i64 0, Value.slice none 0 0, Value.slice none 0 0] (rs.length * 5)).toList = zs at ho
  clear hz
  have hlt0 : w.heap.size < w1.heap.size := (ho.lt w.heap.size rfl).2
  go_wp2
  go_loopw [4] (fun i wr => ∃ (k : Nat) (S : List Nat) (xs : List Value), k ≤ rs.length ∧ i = .int .i64 k ∧ wr.ownsRow w.heap.size 106 5 (.slice (some ⟨w.heap.size, 0, none⟩) rs.length rs.length) rs.length xs ∧ OwnL wr S (xs.take (k * 5)) (encRBindings (rs.take k)) ∧ (∀ b ∈ S, w.heap.size < b) ∧ Below w.heap.size w wr) (fun i _ => rs.length - (intOf i).toNat)
  case atStart => exact ⟨0, [], zs, Nat.zero_le _, rfl, ho, by simp [encRBindings]; exact .nil, fun b hb => by simp at hb, hb0⟩
  case round =>
    clear ho hb0
    obtain ⟨k, S, xs, hk, rfl, ho, hL, hSb, hb⟩ := hrel
    have hwr : w.heap.size < wr.heap.size := (ho.lt w.heap.size rfl).2
    by_cases hlt : k < rs.length
    · obtain ⟨b, off, rfl, hbl, hget⟩ := hg (by omega)
      obtain ⟨A1, c1, B1, d1, e0, e1, e2, e3, e4, h1⟩ := (hget k hlt).below hbl hb
      have hct := toBinding_any (atRBinding rs k) (hf k hlt) wr _ ⟨A1, c1, B1, d1, rfl, h1⟩
      have hnx := Lib.hid (congrArg encRBindings (takeRBinding_next hlt))
      generalize atRBinding rs k = r at *
      clear hget h1 hg hf hbl
      go_wp2_with fail
      refine hct.mono ?_
      rintro e w2 ⟨P1, q1, K1, s1, Q, rfl, hQ, hQb, hb2⟩
      have ho2 := own_below ho hb2
      have hL2 := hL.alike (w' := w2) fun b hb' => hb2.block b (hL.lt b hb')
      have hb3 := hb.trans (hb2.mono hb.size)
      have hxl := ho2.1
      obtain ⟨v0, u0⟩ := some_of_lt xs (k * 5) (by omega)
      obtain ⟨v1, u1⟩ := some_of_lt xs (k * 5 + 1) (by omega)
      obtain ⟨v2, u2⟩ := some_of_lt xs (k * 5 + 2) (by omega)
      obtain ⟨v3, u3⟩ := some_of_lt xs (k * 5 + 3) (by omega)
      obtain ⟨v4, u4⟩ := some_of_lt xs (k * 5 + 4) (by omega)
      have g0 := (ho2.cellAt (k * 5) (by omega)).trans u0
      have g1 := (ho2.cellAt (k * 5 + 1) (by omega)).trans u1
      have g2 := (ho2.cellAt (k * 5 + 2) (by omega)).trans u2
      have g3 := (ho2.cellAt (k * 5 + 3) (by omega)).trans u3
      have g4 := (ho2.cellAt (k * 5 + 4) (by omega)).trans u4
      have f0 := ho2.frozenAt (k * 5)
      have f1 := ho2.frozenAt (k * 5 + 1)
      have f2 := ho2.frozenAt (k * 5 + 2)
      have f3 := ho2.frozenAt (k * 5 + 3)
      have f4 := ho2.frozenAt (k * 5 + 4)
      obtain ⟨o0, q0g⟩ := ho2.stored (k * 5) (.int .i64 r.f0)
      obtain ⟨o1, q1g⟩ := o0.stored (k * 5 + 1) (.int .i64 r.f1.op)
      obtain ⟨o2, q2g⟩ := o1.stored (k * 5 + 2) (.int .i64 r.f1.num)
      obtain ⟨o3, q3g⟩ := o2.stored (k * 5 + 3) (.slice P1 r.f1.perm.length q1)
      obtain ⟨o4, q4g⟩ := o3.stored (k * 5 + 4) (.slice K1 r.f1.kids.length s1)
      have hq := (grownBy_trans q0g (grownBy_trans q1g (grownBy_trans q2g (grownBy_trans q3g q4g))))
      have hL3 := hL2.kept hq (fun b hb' => by have := hSb b hb'; intro e; injection e with e; omega)
      have hR3 := hQ.kept hq (fun b hb' => by have := hQb b hb'; intro e; injection e with e; omega)
      have hdis : ∀ b ∈ S, b ∉ Q := fun b h1 h2 => by have h3 := hL.lt b h1; have h4 := hQb b h2; omega
      have hL4 := hL3.append hR3 hdis
      have hb5 := hb3.grown hq hb3.size (fun j hj => by injection hj with hj; omega)
      have htk : Hid ((((((xs.set (k * 5) (.int .i64 r.f0)).set (k * 5 + 1) (.int .i64 r.f1.op)).set (k * 5 + 2) (.int .i64 r.f1.num)).set (k * 5 + 3) (.slice P1 r.f1.perm.length q1)).set (k * 5 + 4) (.slice K1 r.f1.kids.length s1)).take ((k + 1) * 5) = xs.take (k * 5) ++ [.int .i64 r.f0, .int .i64 r.f1.op, .int .i64 r.f1.num, .slice P1 r.f1.perm.length q1, .slice K1 r.f1.kids.length s1]) := by
        show (((((xs.set (k * 5) (.int .i64 r.f0)).set (k * 5 + 1) (.int .i64 r.f1.op)).set (k * 5 + 2) (.int .i64 r.f1.num)).set (k * 5 + 3) (.slice P1 r.f1.perm.length q1)).set (k * 5 + 4) (.slice K1 r.f1.kids.length s1)).take ((k + 1) * 5) = xs.take (k * 5) ++ [.int .i64 r.f0, .int .i64 r.f1.op, .int .i64 r.f1.num, .slice P1 r.f1.perm.length q1, .slice K1 r.f1.kids.length s1]
        rw [show (k + 1) * 5 = k * 5 + 5 by omega]
        exact take_set5' (by omega)
      have hL5 := hL4
      rw [← htk.out, ← (show encRBindings [r] = encRBinding r by simp [encRBindings]), ← encRBindings_append, ← hnx.out] at hL5
      have hSR : ∀ b ∈ S ++ Q, w.heap.size < b := fun b hb' => by
        rcases List.mem_append.1 hb' with h | h
        · exact hSb b h
        · have := hQb b h; omega
      clear ho ho2 hL hL2 hL3 hL4 hQ hR3 hb hb2 hb3 q0g q1g q2g q3g q4g hq o0 o1 o2 o3 u0 u1 u2 u3 u4 hxl hct hnx htk hdis hSb hQb e0 e1 e2 e3 e4
      go_wp2
      refine ⟨⟨k + 1, S ++ Q, _, by omega, by go_num, o4, hL5, hSR, hb5⟩, ?_⟩
      simp only [intOf]
      omega
    · have e : k = rs.length := by omega
      subst e
      have hl := ho.1
      rw [List.take_of_length_le (by omega), List.take_of_length_le (Nat.le_refl _)] at hL
      have hpost : RBindingsOut rs w (.returned (.slice (some ⟨w.heap.size, 0, none⟩) rs.length rs.length)) wr :=
        ⟨_, w.heap.size :: S, rfl, .row (encRBindings_len rs) (own_le ho (Nat.zero_le _)) hL (fun h => by have := hSb _ h; omega), fun b hb' => by
          rcases List.mem_cons.1 hb' with h | h
          · omega
          · have := hSb b h; omega, hb⟩
      clear ho hL hSb hb hg hl
      go_wp2
      go_ret
      exact hpost
end Go.Proofs.Ytnomidnjglbedaa
end

section
namespace Go.Proofs.Ytnomidnjglbedaa
open Go.RowKit
set_option linter.unusedVariables false

theorem encRBinding_eq (r : RBinding) : encRBinding r = [.cell (.int .i64 r.f0), .cell (.int .i64 r.f1.op), .cell (.int .i64 r.f1.num), pairMem r.f1.perm, tmsMem r.f1.kids] := by unfold encRBinding; rw [encT_eq]; rfl
theorem encRBindings_parts : ∀ {rs : List RBinding} {i : Nat}, i < rs.length → (encRBindings rs)[i * 5]? = some (.cell (.int .i64 (atRBinding rs i).f0)) ∧ (encRBindings rs)[i * 5 + 1]? = some (.cell (.int .i64 (atRBinding rs i).f1.op)) ∧ (encRBindings rs)[i * 5 + 2]? = some (.cell (.int .i64 (atRBinding rs i).f1.num)) ∧ (encRBindings rs)[i * 5 + 3]? = some (pairMem (atRBinding rs i).f1.perm) ∧ (encRBindings rs)[i * 5 + 4]? = some (tmsMem (atRBinding rs i).f1.kids)
  | [], i, h => by simp at h
  | r :: rs, 0, _ => by
    rw [encRBindings, encRBinding_eq, atRBinding_zero]
    exact ⟨rfl, rfl, rfl, rfl, rfl⟩
  | r :: rs, i + 1, h => by
    have g := encRBindings_parts (rs := rs) (i := i) (by simpa using h)
    have hl := encRBinding_len r
    rw [encRBindings, atRBinding_succ]
    refine ⟨?_, ?_, ?_, ?_, ?_⟩
    · rw [List.getElem?_append_right (by omega), show (i + 1) * 5 - (encRBinding r).length = i * 5 by omega]; exact g.1
    · rw [List.getElem?_append_right (by omega), show (i + 1) * 5 + 1 - (encRBinding r).length = i * 5 + 1 by omega]; exact g.2.1
    · rw [List.getElem?_append_right (by omega), show (i + 1) * 5 + 2 - (encRBinding r).length = i * 5 + 2 by omega]; exact g.2.2.1
    · rw [List.getElem?_append_right (by omega), show (i + 1) * 5 + 3 - (encRBinding r).length = i * 5 + 3 by omega]; exact g.2.2.2.1
    · rw [List.getElem?_append_right (by omega), show (i + 1) * 5 + 4 - (encRBinding r).length = i * 5 + 4 by omega]; exact g.2.2.2.2

theorem ownRBindings_in {w : World} {S : List Nat} {v : Value} {rs : List RBinding} (h : Own w S v (memRBindings rs)) : RBindingsIn w v rs := by
  have h := h.at_
  obtain ⟨B, m, d, rfl, hl⟩ := At.form h
  rw [encRBindings_len] at hl
  have e : m = rs.length := by omega
  subst e
  refine ⟨B, d, rfl, fun hp => ?_⟩
  obtain ⟨b, off, rfl, hb, hc⟩ := At.get h hp
  refine ⟨b, off, rfl, hb, fun k hk => ?_⟩
  obtain ⟨p0, p1, p2, p3, p4⟩ := encRBindings_parts hk
  obtain ⟨u0, e0, a0⟩ := hc _ _ p0
  obtain ⟨u1, e1, a1⟩ := hc _ _ p1
  obtain ⟨u2, e2, a2⟩ := hc _ _ p2
  obtain ⟨u3, e3, a3⟩ := hc _ _ p3
  obtain ⟨u4, e4, a4⟩ := hc _ _ p4
  rw [a0.cell_eq] at e0
  rw [a1.cell_eq] at e1
  rw [a2.cell_eq] at e2
  obtain ⟨A1, c1, rfl, hp1⟩ := at_pairs a3
  obtain ⟨B1, d1, rfl⟩ := TmsIn.form (ts := (atRBinding rs k).f1.kids) a4
  exact ⟨A1, c1, B1, d1, e0, (by rw [Nat.add_assoc]; exact e1), (by rw [Nat.add_assoc]; exact e2), (by rw [Nat.add_assoc]; exact e3), (by rw [Nat.add_assoc]; exact e4), ⟨A1, c1, _, rfl, hp1, a4⟩⟩

end Go.Proofs.Ytnomidnjglbedaa
end

