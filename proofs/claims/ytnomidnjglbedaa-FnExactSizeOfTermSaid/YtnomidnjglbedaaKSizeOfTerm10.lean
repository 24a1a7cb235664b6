/-
  The shape of a term, in the model, as contracts.
-/
import Derived.Test.YtnomidnjglbedaaKSizeOfTerm8
namespace Go.Proofs.Ytnomidnjglbedaa
open Go.RowKit Go.Sort
set_option linter.unusedVariables false

theorem l1In_any (x a b : Int) (w : World) :
    Calls Try.prog 80 #[.int .i64 x, .int .i64 a, .int .i64 b] w fun e w' => e = .returned (.bool (decide (a ≤ x ∧ x ≤ b))) ∧ w = w' := by
  by_cases h1 : a ≤ x
  · by_cases h2 : x ≤ b
    · have r : Hid (decide (a ≤ x ∧ x ≤ b) = true) := decide_eq_true ⟨h1, h2⟩
      go_enter Try.func80, Try.ntmps80
      go_wp2
      go_ret
      first | exact ⟨rfl, rfl⟩ | exact ⟨bool_end r.out.symm, rfl⟩
    · have r : Hid (decide (a ≤ x ∧ x ≤ b) = false) := decide_eq_false fun h => h2 h.2
      have k2 : decide (x ≤ b) = false := decide_eq_false h2
      have k3 : b < x := by omega
      go_enter Try.func80, Try.ntmps80
      go_wp2
      go_ret
      first | exact ⟨rfl, rfl⟩ | exact ⟨bool_end r.out.symm, rfl⟩
  · have r : Hid (decide (a ≤ x ∧ x ≤ b) = false) := decide_eq_false fun h => h1 h.1
    have k1 : decide (a ≤ x) = false := decide_eq_false h1
    have k3 : x < a := by omega
    go_enter Try.func80, Try.ntmps80
    go_wp2
    go_ret
    first | exact ⟨rfl, rfl⟩ | exact ⟨bool_end r.out.symm, rfl⟩

set_option maxRecDepth 100000 in
set_option maxHeartbeats 1000000 in
theorem shape_spec_1_0 (n : Int) (A B : Option Addr) (pl c kl d : Nat) (w : World) (hpl : pl ≤ 1099511627776) (hkl : kl ≤ 9223372036854775807) (h0 : atomB n = false) :
    Calls Try.prog 106 #[.agg #[.int .i64 1, .int .i64 n, .slice A pl c, .slice B kl d]] w fun e w' => e = .returned (.bool false) ∧ Below w.heap.size w w' := by
  have hb0 : Below w.heap.size w (w.alloc (.cells #[.int .i64 1, .int .i64 n, .slice A pl c, .slice B kl d] 31)) := (Below.refl _ _).alloc (Nat.le_refl _) _
  have ca := fun W => l1Atom_any n W
  rw [h0] at ca
  clear h0
  go_enter Try.func106, Try.ntmps106
  go_wp2_with (first | (go_at_call 128; refine (ca _).mono ?_; rintro e w' ⟨rfl, rfl⟩))
  go_ret
  exact ⟨rfl, hb0⟩

set_option maxRecDepth 100000 in
set_option maxHeartbeats 1000000 in
theorem shape_spec_1_1 (n : Int) (A B : Option Addr) (pl c kl d : Nat) (w : World) (hpl : pl ≤ 1099511627776) (hkl : kl ≤ 9223372036854775807) (h0 : atomB n = true) (h1 : ¬ pl = 0) :
    Calls Try.prog 106 #[.agg #[.int .i64 1, .int .i64 n, .slice A pl c, .slice B kl d]] w fun e w' => e = .returned (.bool false) ∧ Below w.heap.size w w' := by
  have hb0 : Below w.heap.size w (w.alloc (.cells #[.int .i64 1, .int .i64 n, .slice A pl c, .slice B kl d] 31)) := (Below.refl _ _).alloc (Nat.le_refl _) _
  have ca := fun W => l1Atom_any n W
  rw [h0] at ca
  have tp : ((pl : Int) == 0) = false := by simp; omega
  clear h0 h1
  go_enter Try.func106, Try.ntmps106
  go_wp2_with (first | (go_at_call 128; refine (ca _).mono ?_; rintro e w' ⟨rfl, rfl⟩))
  go_ret
  exact ⟨rfl, hb0⟩

set_option maxRecDepth 100000 in
set_option maxHeartbeats 1000000 in
theorem shape_spec_1_2 (n : Int) (A B : Option Addr) (pl c kl d : Nat) (w : World) (hpl : pl ≤ 1099511627776) (hkl : kl ≤ 9223372036854775807) (h0 : atomB n = true) (h1 :  pl = 0) (h2 : ¬ kl = 0) :
    Calls Try.prog 106 #[.agg #[.int .i64 1, .int .i64 n, .slice A pl c, .slice B kl d]] w fun e w' => e = .returned (.bool false) ∧ Below w.heap.size w w' := by
  have hb0 : Below w.heap.size w (w.alloc (.cells #[.int .i64 1, .int .i64 n, .slice A pl c, .slice B kl d] 31)) := (Below.refl _ _).alloc (Nat.le_refl _) _
  have ca := fun W => l1Atom_any n W
  rw [h0] at ca
  subst h1
  have tk : ((kl : Int) == 0) = false := by simp; omega
  clear h0 h2
  go_enter Try.func106, Try.ntmps106
  go_wp2_with (first | (go_at_call 128; refine (ca _).mono ?_; rintro e w' ⟨rfl, rfl⟩))
  go_ret
  exact ⟨rfl, hb0⟩

set_option maxRecDepth 100000 in
set_option maxHeartbeats 1000000 in
theorem shape_spec_1_3 (n : Int) (A B : Option Addr) (pl c kl d : Nat) (w : World) (hpl : pl ≤ 1099511627776) (hkl : kl ≤ 9223372036854775807) (h0 : atomB n = true) (h1 :  pl = 0) (h2 :  kl = 0) :
    Calls Try.prog 106 #[.agg #[.int .i64 1, .int .i64 n, .slice A pl c, .slice B kl d]] w fun e w' => e = .returned (.bool true) ∧ Below w.heap.size w w' := by
  have hb0 : Below w.heap.size w (w.alloc (.cells #[.int .i64 1, .int .i64 n, .slice A pl c, .slice B kl d] 31)) := (Below.refl _ _).alloc (Nat.le_refl _) _
  have ca := fun W => l1Atom_any n W
  rw [h0] at ca
  subst h1
  subst h2
  clear h0
  go_enter Try.func106, Try.ntmps106
  go_wp2_with (first | (go_at_call 128; refine (ca _).mono ?_; rintro e w' ⟨rfl, rfl⟩))
  go_ret
  exact ⟨rfl, hb0⟩

set_option maxRecDepth 100000 in
set_option maxHeartbeats 1000000 in
theorem shape_spec_2_0 (n : Int) (A B : Option Addr) (pl c kl d : Nat) (w : World) (hpl : pl ≤ 1099511627776) (hkl : kl ≤ 9223372036854775807) (h0 : ¬ (0 ≤ n ∧ n ≤ 11)) :
    Calls Try.prog 106 #[.agg #[.int .i64 2, .int .i64 n, .slice A pl c, .slice B kl d]] w fun e w' => e = .returned (.bool false) ∧ Below w.heap.size w w' := by
  have hb0 : Below w.heap.size w (w.alloc (.cells #[.int .i64 2, .int .i64 n, .slice A pl c, .slice B kl d] 31)) := (Below.refl _ _).alloc (Nat.le_refl _) _
  have ca := fun W => l1In_any n 0 11 W
  rw [decide_eq_false h0] at ca
  clear h0
  go_enter Try.func106, Try.ntmps106
  go_wp2_with (first | (go_at_call 80; refine (ca _).mono ?_; rintro e w' ⟨rfl, rfl⟩))
  go_ret
  exact ⟨rfl, hb0⟩

set_option maxRecDepth 100000 in
set_option maxHeartbeats 1000000 in
theorem shape_spec_2_1 (n : Int) (A B : Option Addr) (pl c kl d : Nat) (w : World) (hpl : pl ≤ 1099511627776) (hkl : kl ≤ 9223372036854775807) (h0 :  (0 ≤ n ∧ n ≤ 11)) (h1 : ¬ pl = 0) :
    Calls Try.prog 106 #[.agg #[.int .i64 2, .int .i64 n, .slice A pl c, .slice B kl d]] w fun e w' => e = .returned (.bool false) ∧ Below w.heap.size w w' := by
  have hb0 : Below w.heap.size w (w.alloc (.cells #[.int .i64 2, .int .i64 n, .slice A pl c, .slice B kl d] 31)) := (Below.refl _ _).alloc (Nat.le_refl _) _
  have ca := fun W => l1In_any n 0 11 W
  rw [decide_eq_true h0] at ca
  have tp : ((pl : Int) == 0) = false := by simp; omega
  clear h0 h1
  go_enter Try.func106, Try.ntmps106
  go_wp2_with (first | (go_at_call 80; refine (ca _).mono ?_; rintro e w' ⟨rfl, rfl⟩))
  go_ret
  exact ⟨rfl, hb0⟩

set_option maxRecDepth 100000 in
set_option maxHeartbeats 1000000 in
theorem shape_spec_2_2 (n : Int) (A B : Option Addr) (pl c kl d : Nat) (w : World) (hpl : pl ≤ 1099511627776) (hkl : kl ≤ 9223372036854775807) (h0 :  (0 ≤ n ∧ n ≤ 11)) (h1 :  pl = 0) (h2 : ¬ (kl : Int) = n % 4) :
    Calls Try.prog 106 #[.agg #[.int .i64 2, .int .i64 n, .slice A pl c, .slice B kl d]] w fun e w' => e = .returned (.bool false) ∧ Below w.heap.size w w' := by
  have hb0 : Below w.heap.size w (w.alloc (.cells #[.int .i64 2, .int .i64 n, .slice A pl c, .slice B kl d] 31)) := (Below.refl _ _).alloc (Nat.le_refl _) _
  have ca := fun W => l1In_any n 0 11 W
  rw [decide_eq_true h0] at ca
  subst h1
  have tn : 0 ≤ n := h0.1
  have tk : ((kl : Int) == n % 4) = false := by simp; omega
  clear h0 h2
  go_enter Try.func106, Try.ntmps106
  go_wp2_with (first | (go_at_call 80; refine (ca _).mono ?_; rintro e w' ⟨rfl, rfl⟩))
  go_ret
  exact ⟨rfl, hb0⟩

set_option maxRecDepth 100000 in
set_option maxHeartbeats 1000000 in
theorem shape_spec_2_3 (n : Int) (A B : Option Addr) (pl c kl d : Nat) (w : World) (hpl : pl ≤ 1099511627776) (hkl : kl ≤ 9223372036854775807) (h0 :  (0 ≤ n ∧ n ≤ 11)) (h1 :  pl = 0) (h2 :  (kl : Int) = n % 4) :
    Calls Try.prog 106 #[.agg #[.int .i64 2, .int .i64 n, .slice A pl c, .slice B kl d]] w fun e w' => e = .returned (.bool true) ∧ Below w.heap.size w w' := by
  have hb0 : Below w.heap.size w (w.alloc (.cells #[.int .i64 2, .int .i64 n, .slice A pl c, .slice B kl d] 31)) := (Below.refl _ _).alloc (Nat.le_refl _) _
  have ca := fun W => l1In_any n 0 11 W
  rw [decide_eq_true h0] at ca
  subst h1
  have tn : 0 ≤ n := h0.1
  have tk : ((kl : Int) == n % 4) = true := by simp; omega
  clear h0 h2
  go_enter Try.func106, Try.ntmps106
  go_wp2_with (first | (go_at_call 80; refine (ca _).mono ?_; rintro e w' ⟨rfl, rfl⟩))
  go_ret
  exact ⟨rfl, hb0⟩

set_option maxRecDepth 100000 in
set_option maxHeartbeats 1000000 in
theorem shape_spec_3_0 (n : Int) (A B : Option Addr) (pl c kl d : Nat) (w : World) (hpl : pl ≤ 1099511627776) (hkl : kl ≤ 9223372036854775807) (h0 : atomB n = false) :
    Calls Try.prog 106 #[.agg #[.int .i64 3, .int .i64 n, .slice A pl c, .slice B kl d]] w fun e w' => e = .returned (.bool false) ∧ Below w.heap.size w w' := by
  have hb0 : Below w.heap.size w (w.alloc (.cells #[.int .i64 3, .int .i64 n, .slice A pl c, .slice B kl d] 31)) := (Below.refl _ _).alloc (Nat.le_refl _) _
  have ca := fun W => l1Atom_any n W
  rw [h0] at ca
  clear h0
  go_enter Try.func106, Try.ntmps106
  go_wp2_with (first | (go_at_call 128; refine (ca _).mono ?_; rintro e w' ⟨rfl, rfl⟩))
  go_ret
  exact ⟨rfl, hb0⟩

set_option maxRecDepth 100000 in
set_option maxHeartbeats 1000000 in
theorem shape_spec_3_1 (n : Int) (A B : Option Addr) (pl c kl d : Nat) (w : World) (hpl : pl ≤ 1099511627776) (hkl : kl ≤ 9223372036854775807) (h0 : atomB n = true) (h1 : ¬ pl = 0) :
    Calls Try.prog 106 #[.agg #[.int .i64 3, .int .i64 n, .slice A pl c, .slice B kl d]] w fun e w' => e = .returned (.bool false) ∧ Below w.heap.size w w' := by
  have hb0 : Below w.heap.size w (w.alloc (.cells #[.int .i64 3, .int .i64 n, .slice A pl c, .slice B kl d] 31)) := (Below.refl _ _).alloc (Nat.le_refl _) _
  have ca := fun W => l1Atom_any n W
  rw [h0] at ca
  have tp : ((pl : Int) == 0) = false := by simp; omega
  clear h0 h1
  go_enter Try.func106, Try.ntmps106
  go_wp2_with (first | (go_at_call 128; refine (ca _).mono ?_; rintro e w' ⟨rfl, rfl⟩))
  go_ret
  exact ⟨rfl, hb0⟩

set_option maxRecDepth 100000 in
set_option maxHeartbeats 1000000 in
theorem shape_spec_3_2 (n : Int) (A B : Option Addr) (pl c kl d : Nat) (w : World) (hpl : pl ≤ 1099511627776) (hkl : kl ≤ 9223372036854775807) (h0 : atomB n = true) (h1 :  pl = 0) (h2 : ¬ kl = 1) :
    Calls Try.prog 106 #[.agg #[.int .i64 3, .int .i64 n, .slice A pl c, .slice B kl d]] w fun e w' => e = .returned (.bool false) ∧ Below w.heap.size w w' := by
  have hb0 : Below w.heap.size w (w.alloc (.cells #[.int .i64 3, .int .i64 n, .slice A pl c, .slice B kl d] 31)) := (Below.refl _ _).alloc (Nat.le_refl _) _
  have ca := fun W => l1Atom_any n W
  rw [h0] at ca
  subst h1
  have tk : ((kl : Int) == 1) = false := by simp; omega
  clear h0 h2
  go_enter Try.func106, Try.ntmps106
  go_wp2_with (first | (go_at_call 128; refine (ca _).mono ?_; rintro e w' ⟨rfl, rfl⟩))
  go_ret
  exact ⟨rfl, hb0⟩

set_option maxRecDepth 100000 in
set_option maxHeartbeats 1000000 in
theorem shape_spec_3_3 (n : Int) (A B : Option Addr) (pl c kl d : Nat) (w : World) (hpl : pl ≤ 1099511627776) (hkl : kl ≤ 9223372036854775807) (h0 : atomB n = true) (h1 :  pl = 0) (h2 :  kl = 1) :
    Calls Try.prog 106 #[.agg #[.int .i64 3, .int .i64 n, .slice A pl c, .slice B kl d]] w fun e w' => e = .returned (.bool true) ∧ Below w.heap.size w w' := by
  have hb0 : Below w.heap.size w (w.alloc (.cells #[.int .i64 3, .int .i64 n, .slice A pl c, .slice B kl d] 31)) := (Below.refl _ _).alloc (Nat.le_refl _) _
  have ca := fun W => l1Atom_any n W
  rw [h0] at ca
  subst h1
  subst h2
  clear h0
  go_enter Try.func106, Try.ntmps106
  go_wp2_with (first | (go_at_call 128; refine (ca _).mono ?_; rintro e w' ⟨rfl, rfl⟩))
  go_ret
  exact ⟨rfl, hb0⟩

set_option maxRecDepth 100000 in
set_option maxHeartbeats 1000000 in
theorem shape_spec_4_0 (n : Int) (A B : Option Addr) (pl c kl d : Nat) (w : World) (hpl : pl ≤ 1099511627776) (hkl : kl ≤ 9223372036854775807) (h0 : ¬ (0 ≤ n ∧ n ≤ 9)) :
    Calls Try.prog 106 #[.agg #[.int .i64 4, .int .i64 n, .slice A pl c, .slice B kl d]] w fun e w' => e = .returned (.bool false) ∧ Below w.heap.size w w' := by
  have hb0 : Below w.heap.size w (w.alloc (.cells #[.int .i64 4, .int .i64 n, .slice A pl c, .slice B kl d] 31)) := (Below.refl _ _).alloc (Nat.le_refl _) _
  have ca := fun W => l1In_any n 0 9 W
  rw [decide_eq_false h0] at ca
  clear h0
  go_enter Try.func106, Try.ntmps106
  go_wp2_with (first | (go_at_call 80; refine (ca _).mono ?_; rintro e w' ⟨rfl, rfl⟩))
  go_ret
  exact ⟨rfl, hb0⟩

set_option maxRecDepth 100000 in
set_option maxHeartbeats 1000000 in
theorem shape_spec_4_1 (n : Int) (A B : Option Addr) (pl c kl d : Nat) (w : World) (hpl : pl ≤ 1099511627776) (hkl : kl ≤ 9223372036854775807) (h0 :  (0 ≤ n ∧ n ≤ 9)) (p : List (Int × Int)) (hlp : p.length = pl) (hA : PairsAt w A p) (h1 : permB p = false) :
    Calls Try.prog 106 #[.agg #[.int .i64 4, .int .i64 n, .slice A pl c, .slice B kl d]] w fun e w' => e = .returned (.bool false) ∧ Below w.heap.size w w' := by
  have hb0 : Below w.heap.size w (w.alloc (.cells #[.int .i64 4, .int .i64 n, .slice A pl c, .slice B kl d] 31)) := (Below.refl _ _).alloc (Nat.le_refl _) _
  have k9 : (w.alloc (.cells #[.int .i64 4, .int .i64 n, .slice A pl c, .slice B kl d] 31)).cell? ⟨w.heap.size, 3, none⟩ = some (.slice B kl d) := by
    rw [cell_of_row _ w.heap.size 3 _ _ _ (heap_alloc_new w _)]; rfl
  have H9 := Lib.hid k9
  clear k9
  have ca := fun W => l1In_any n 0 9 W
  rw [decide_eq_true h0] at ca
  have cp := fun W hW => isPerm_spec A c p W hW (by omega)
  rw [perm_same, h1, hlp] at cp
  have cp' := cp _ (hA.below hb0)
  clear h0 h1
  go_enter Try.func106, Try.ntmps106
  go_wp2_with (first | (go_at_call 80; refine (ca _).mono ?_; rintro e w' ⟨rfl, rfl⟩) | (go_at_call 129; refine cp'.mono ?_; rintro e w2 ⟨rfl, hb2⟩; have hb9 := hb0.trans (hb2.mono hb0.size); have hs9 := (hb2.cell (p := ⟨w.heap.size, 3, none⟩) (by simp)).trans H9.out))
  go_ret
  exact ⟨rfl, hb9⟩

set_option maxRecDepth 100000 in
set_option maxHeartbeats 1000000 in
theorem shape_spec_4_2 (n : Int) (A B : Option Addr) (pl c kl d : Nat) (w : World) (hpl : pl ≤ 1099511627776) (hkl : kl ≤ 9223372036854775807) (h0 :  (0 ≤ n ∧ n ≤ 9)) (p : List (Int × Int)) (hlp : p.length = pl) (hA : PairsAt w A p) (h1 : permB p = true) (h2 : ¬ kl = 0) :
    Calls Try.prog 106 #[.agg #[.int .i64 4, .int .i64 n, .slice A pl c, .slice B kl d]] w fun e w' => e = .returned (.bool false) ∧ Below w.heap.size w w' := by
  have hb0 : Below w.heap.size w (w.alloc (.cells #[.int .i64 4, .int .i64 n, .slice A pl c, .slice B kl d] 31)) := (Below.refl _ _).alloc (Nat.le_refl _) _
  have k9 : (w.alloc (.cells #[.int .i64 4, .int .i64 n, .slice A pl c, .slice B kl d] 31)).cell? ⟨w.heap.size, 3, none⟩ = some (.slice B kl d) := by
    rw [cell_of_row _ w.heap.size 3 _ _ _ (heap_alloc_new w _)]; rfl
  have H9 := Lib.hid k9
  clear k9
  have ca := fun W => l1In_any n 0 9 W
  rw [decide_eq_true h0] at ca
  have cp := fun W hW => isPerm_spec A c p W hW (by omega)
  rw [perm_same, h1, hlp] at cp
  have cp' := cp _ (hA.below hb0)
  have tk : ((kl : Int) == 0) = false := by simp; omega
  clear h0 h1 h2
  go_enter Try.func106, Try.ntmps106
  go_wp2_with (first | (go_at_call 80; refine (ca _).mono ?_; rintro e w' ⟨rfl, rfl⟩) | (go_at_call 129; refine cp'.mono ?_; rintro e w2 ⟨rfl, hb2⟩; have hb9 := hb0.trans (hb2.mono hb0.size); have hs9 := (hb2.cell (p := ⟨w.heap.size, 3, none⟩) (by simp)).trans H9.out))
  go_ret
  exact ⟨rfl, hb9⟩

set_option maxRecDepth 100000 in
set_option maxHeartbeats 1000000 in
theorem shape_spec_4_3 (n : Int) (A B : Option Addr) (pl c kl d : Nat) (w : World) (hpl : pl ≤ 1099511627776) (hkl : kl ≤ 9223372036854775807) (h0 :  (0 ≤ n ∧ n ≤ 9)) (p : List (Int × Int)) (hlp : p.length = pl) (hA : PairsAt w A p) (h1 : permB p = true) (h2 :  kl = 0) :
    Calls Try.prog 106 #[.agg #[.int .i64 4, .int .i64 n, .slice A pl c, .slice B kl d]] w fun e w' => e = .returned (.bool true) ∧ Below w.heap.size w w' := by
  have hb0 : Below w.heap.size w (w.alloc (.cells #[.int .i64 4, .int .i64 n, .slice A pl c, .slice B kl d] 31)) := (Below.refl _ _).alloc (Nat.le_refl _) _
  have k9 : (w.alloc (.cells #[.int .i64 4, .int .i64 n, .slice A pl c, .slice B kl d] 31)).cell? ⟨w.heap.size, 3, none⟩ = some (.slice B kl d) := by
    rw [cell_of_row _ w.heap.size 3 _ _ _ (heap_alloc_new w _)]; rfl
  have H9 := Lib.hid k9
  clear k9
  have ca := fun W => l1In_any n 0 9 W
  rw [decide_eq_true h0] at ca
  have cp := fun W hW => isPerm_spec A c p W hW (by omega)
  rw [perm_same, h1, hlp] at cp
  have cp' := cp _ (hA.below hb0)
  subst h2
  clear h0 h1
  go_enter Try.func106, Try.ntmps106
  go_wp2_with (first | (go_at_call 80; refine (ca _).mono ?_; rintro e w' ⟨rfl, rfl⟩) | (go_at_call 129; refine cp'.mono ?_; rintro e w2 ⟨rfl, hb2⟩; have hb9 := hb0.trans (hb2.mono hb0.size); have hs9 := (hb2.cell (p := ⟨w.heap.size, 3, none⟩) (by simp)).trans H9.out))
  go_ret
  exact ⟨rfl, hb9⟩

set_option maxRecDepth 100000 in
theorem shape_spec_0 (o n : Int) (A B : Option Addr) (pl c kl d : Nat) (w : World) (h1 : ¬ o = 1) (h2 : ¬ o = 2) (h3 : ¬ o = 3) (h4 : ¬ o = 4) :
    Calls Try.prog 106 #[.agg #[.int .i64 o, .int .i64 n, .slice A pl c, .slice B kl d]] w fun e w' => e = .returned (.bool false) ∧ Below w.heap.size w w' := by
  have hb0 : Below w.heap.size w (w.alloc (.cells #[.int .i64 o, .int .i64 n, .slice A pl c, .slice B kl d] 31)) := (Below.refl _ _).alloc (Nat.le_refl _) _
  have t1 : (o == 1) = false := by simpa using h1
  have t2 : (o == 2) = false := by simpa using h2
  have t3 : (o == 3) = false := by simpa using h3
  have t4 : (o == 4) = false := by simpa using h4
  clear h1 h2 h3 h4
  go_enter Try.func106, Try.ntmps106
  go_wp2
  go_ret
  exact ⟨rfl, hb0⟩

theorem shape_spec_any (t : Tm) (x : Value) (w : World) (hx : TmIn w x t) (hpl : t.perm.length ≤ 1048576) (hkl : t.kids.length ≤ 1048576) :
    Calls Try.prog 106 #[x] w fun e w' => e = .returned (.bool (shapeB t)) ∧ Below w.heap.size w w' := by
  obtain ⟨A, c, kv, rfl, hp, hk⟩ := hx
  obtain ⟨B, d, rfl⟩ := hk.form
  unfold shapeB
  by_cases o1 : t.op = 1
  · rw [if_pos o1, o1]
    by_cases h0 : atomB t.num = true
    · by_cases h1 : t.perm.length = 0
      · by_cases h2 : t.kids.length = 0
        · rw [h0, decide_eq_true h1, decide_eq_true h2]; exact shape_spec_1_3 _ _ _ _ _ _ _ w (by omega) (by omega) h0 h1 h2
        · rw [h0, decide_eq_true h1, decide_eq_false h2]; exact shape_spec_1_2 _ _ _ _ _ _ _ w (by omega) (by omega) h0 h1 h2
      · rw [h0, decide_eq_false h1]; exact shape_spec_1_1 _ _ _ _ _ _ _ w (by omega) (by omega) h0 h1
    · rw [Bool.not_eq_true] at h0; rw [h0]; exact shape_spec_1_0 _ _ _ _ _ _ _ w (by omega) (by omega) h0
  · rw [if_neg o1]
    by_cases o2 : t.op = 2
    · rw [if_pos o2, o2]
      by_cases h0 : 0 ≤ t.num ∧ t.num ≤ 11
      · by_cases h1 : t.perm.length = 0
        · by_cases h2 : (t.kids.length : Int) = t.num % 4
          · rw [decide_eq_true h0, decide_eq_true h1, decide_eq_true h2]; exact shape_spec_2_3 _ _ _ _ _ _ _ w (by omega) (by omega) h0 h1 h2
          · rw [decide_eq_true h0, decide_eq_true h1, decide_eq_false h2]; exact shape_spec_2_2 _ _ _ _ _ _ _ w (by omega) (by omega) h0 h1 h2
        · rw [decide_eq_true h0, decide_eq_false h1]; exact shape_spec_2_1 _ _ _ _ _ _ _ w (by omega) (by omega) h0 h1
      · rw [decide_eq_false h0]; exact shape_spec_2_0 _ _ _ _ _ _ _ w (by omega) (by omega) h0
    · rw [if_neg o2]
      by_cases o3 : t.op = 3
      · rw [if_pos o3, o3]
        by_cases h0 : atomB t.num = true
        · by_cases h1 : t.perm.length = 0
          · by_cases h2 : t.kids.length = 1
            · rw [h0, decide_eq_true h1, decide_eq_true h2]; exact shape_spec_3_3 _ _ _ _ _ _ _ w (by omega) (by omega) h0 h1 h2
            · rw [h0, decide_eq_true h1, decide_eq_false h2]; exact shape_spec_3_2 _ _ _ _ _ _ _ w (by omega) (by omega) h0 h1 h2
          · rw [h0, decide_eq_false h1]; exact shape_spec_3_1 _ _ _ _ _ _ _ w (by omega) (by omega) h0 h1
        · rw [Bool.not_eq_true] at h0; rw [h0]; exact shape_spec_3_0 _ _ _ _ _ _ _ w (by omega) (by omega) h0
      · rw [if_neg o3]
        by_cases o4 : t.op = 4
        · rw [if_pos o4, o4]
          by_cases h0 : 0 ≤ t.num ∧ t.num ≤ 9
          · by_cases h1 : permB t.perm = true
            · by_cases h2 : t.kids.length = 0
              · rw [decide_eq_true h0, h1, decide_eq_true h2]; exact shape_spec_4_3 _ _ _ _ _ _ _ w (by omega) (by omega) h0 _ rfl hp h1 h2
              · rw [decide_eq_true h0, h1, decide_eq_false h2]; exact shape_spec_4_2 _ _ _ _ _ _ _ w (by omega) (by omega) h0 _ rfl hp h1 h2
            · rw [Bool.not_eq_true] at h1; rw [decide_eq_true h0, h1]; exact shape_spec_4_1 _ _ _ _ _ _ _ w (by omega) (by omega) h0 _ rfl hp h1
          · rw [decide_eq_false h0]; exact shape_spec_4_0 _ _ _ _ _ _ _ w (by omega) (by omega) h0
        · rw [if_neg o4]
          exact shape_spec_0 _ _ _ _ _ _ _ _ w o1 o2 o3 o4

end Go.Proofs.Ytnomidnjglbedaa
