/-
  The shape of a term, in the model, as contracts. What is a term, and how great it is, in the model, as contracts. Whether a list has a number: in the model, as a contract. The moved atoms of a list of pairs: in the program, as a contract.
-/
import Derived.Test.YtbfkfklaplgebaaKIsFreshFor5
import Derived.Test.YtbfkfklaplgebaaKIsFreshFor4
import Derived.Test.YtbfkfklaplgebaaKIsFreshFor3
section
namespace Go.Proofs.Ytbfkfklaplgebaa
open Go.RowKit Go.Sort
set_option linter.unusedVariables false

theorem l1In_any (x a b : Int) (w : World) :
    Calls Try.prog 66 #[.int .i64 x, .int .i64 a, .int .i64 b] w fun e w' => e = .returned (.bool (decide (a ≤ x ∧ x ≤ b))) ∧ w = w' := by
  by_cases h1 : a ≤ x
  · by_cases h2 : x ≤ b
    · have r : Hid (decide (a ≤ x ∧ x ≤ b) = true) := decide_eq_true ⟨h1, h2⟩
      go_enter Try.func66, Try.ntmps66
      go_wp2
      go_ret
      first | exact ⟨rfl, rfl⟩ | exact ⟨bool_end r.out.symm, rfl⟩
    · have r : Hid (decide (a ≤ x ∧ x ≤ b) = false) := decide_eq_false fun h => h2 h.2
      have k2 : decide (x ≤ b) = false := decide_eq_false h2
      have k3 : b < x := by omega
      go_enter Try.func66, Try.ntmps66
      go_wp2
      go_ret
      first | exact ⟨rfl, rfl⟩ | exact ⟨bool_end r.out.symm, rfl⟩
  · have r : Hid (decide (a ≤ x ∧ x ≤ b) = false) := decide_eq_false fun h => h1 h.1
    have k1 : decide (a ≤ x) = false := decide_eq_false h1
    have k3 : x < a := by omega
    go_enter Try.func66, Try.ntmps66
    go_wp2
    go_ret
    first | exact ⟨rfl, rfl⟩ | exact ⟨bool_end r.out.symm, rfl⟩

set_option maxRecDepth 100000 in
set_option maxHeartbeats 1000000 in
theorem shape_spec_1_0 (n : Int) (A B : Option Addr) (pl c kl d : Nat) (w : World) (hpl : pl ≤ 1099511627776) (hkl : kl ≤ 9223372036854775807) (h0 : atomB n = false) :
    Calls Try.prog 80 #[.agg #[.int .i64 1, .int .i64 n, .slice A pl c, .slice B kl d]] w fun e w' => e = .returned (.bool false) ∧ Below w.heap.size w w' := by
  have hb0 : Below w.heap.size w (w.alloc (.cells #[.int .i64 1, .int .i64 n, .slice A pl c, .slice B kl d] 31)) := (Below.refl _ _).alloc (Nat.le_refl _) _
  have ca := fun W => l1Atom_any n W
  rw [h0] at ca
  clear h0
  go_enter Try.func80, Try.ntmps80
  go_wp2_with (first | (go_at_call 46; refine (ca _).mono ?_; rintro e w' ⟨rfl, rfl⟩))
  go_ret
  exact ⟨rfl, hb0⟩

set_option maxRecDepth 100000 in
set_option maxHeartbeats 1000000 in
theorem shape_spec_1_1 (n : Int) (A B : Option Addr) (pl c kl d : Nat) (w : World) (hpl : pl ≤ 1099511627776) (hkl : kl ≤ 9223372036854775807) (h0 : atomB n = true) (h1 : ¬ pl = 0) :
    Calls Try.prog 80 #[.agg #[.int .i64 1, .int .i64 n, .slice A pl c, .slice B kl d]] w fun e w' => e = .returned (.bool false) ∧ Below w.heap.size w w' := by
  have hb0 : Below w.heap.size w (w.alloc (.cells #[.int .i64 1, .int .i64 n, .slice A pl c, .slice B kl d] 31)) := (Below.refl _ _).alloc (Nat.le_refl _) _
  have ca := fun W => l1Atom_any n W
  rw [h0] at ca
  have tp : ((pl : Int) == 0) = false := by simp; omega
  clear h0 h1
  go_enter Try.func80, Try.ntmps80
  go_wp2_with (first | (go_at_call 46; refine (ca _).mono ?_; rintro e w' ⟨rfl, rfl⟩))
  go_ret
  exact ⟨rfl, hb0⟩

set_option maxRecDepth 100000 in
set_option maxHeartbeats 1000000 in
theorem shape_spec_1_2 (n : Int) (A B : Option Addr) (pl c kl d : Nat) (w : World) (hpl : pl ≤ 1099511627776) (hkl : kl ≤ 9223372036854775807) (h0 : atomB n = true) (h1 :  pl = 0) (h2 : ¬ kl = 0) :
    Calls Try.prog 80 #[.agg #[.int .i64 1, .int .i64 n, .slice A pl c, .slice B kl d]] w fun e w' => e = .returned (.bool false) ∧ Below w.heap.size w w' := by
  have hb0 : Below w.heap.size w (w.alloc (.cells #[.int .i64 1, .int .i64 n, .slice A pl c, .slice B kl d] 31)) := (Below.refl _ _).alloc (Nat.le_refl _) _
  have ca := fun W => l1Atom_any n W
  rw [h0] at ca
  subst h1
  have tk : ((kl : Int) == 0) = false := by simp; omega
  clear h0 h2
  go_enter Try.func80, Try.ntmps80
  go_wp2_with (first | (go_at_call 46; refine (ca _).mono ?_; rintro e w' ⟨rfl, rfl⟩))
  go_ret
  exact ⟨rfl, hb0⟩

set_option maxRecDepth 100000 in
set_option maxHeartbeats 1000000 in
theorem shape_spec_1_3 (n : Int) (A B : Option Addr) (pl c kl d : Nat) (w : World) (hpl : pl ≤ 1099511627776) (hkl : kl ≤ 9223372036854775807) (h0 : atomB n = true) (h1 :  pl = 0) (h2 :  kl = 0) :
    Calls Try.prog 80 #[.agg #[.int .i64 1, .int .i64 n, .slice A pl c, .slice B kl d]] w fun e w' => e = .returned (.bool true) ∧ Below w.heap.size w w' := by
  have hb0 : Below w.heap.size w (w.alloc (.cells #[.int .i64 1, .int .i64 n, .slice A pl c, .slice B kl d] 31)) := (Below.refl _ _).alloc (Nat.le_refl _) _
  have ca := fun W => l1Atom_any n W
  rw [h0] at ca
  subst h1
  subst h2
  clear h0
  go_enter Try.func80, Try.ntmps80
  go_wp2_with (first | (go_at_call 46; refine (ca _).mono ?_; rintro e w' ⟨rfl, rfl⟩))
  go_ret
  exact ⟨rfl, hb0⟩

set_option maxRecDepth 100000 in
set_option maxHeartbeats 1000000 in
theorem shape_spec_2_0 (n : Int) (A B : Option Addr) (pl c kl d : Nat) (w : World) (hpl : pl ≤ 1099511627776) (hkl : kl ≤ 9223372036854775807) (h0 : ¬ (0 ≤ n ∧ n ≤ 11)) :
    Calls Try.prog 80 #[.agg #[.int .i64 2, .int .i64 n, .slice A pl c, .slice B kl d]] w fun e w' => e = .returned (.bool false) ∧ Below w.heap.size w w' := by
  have hb0 : Below w.heap.size w (w.alloc (.cells #[.int .i64 2, .int .i64 n, .slice A pl c, .slice B kl d] 31)) := (Below.refl _ _).alloc (Nat.le_refl _) _
  have ca := fun W => l1In_any n 0 11 W
  rw [decide_eq_false h0] at ca
  clear h0
  go_enter Try.func80, Try.ntmps80
  go_wp2_with (first | (go_at_call 66; refine (ca _).mono ?_; rintro e w' ⟨rfl, rfl⟩))
  go_ret
  exact ⟨rfl, hb0⟩

set_option maxRecDepth 100000 in
set_option maxHeartbeats 1000000 in
theorem shape_spec_2_1 (n : Int) (A B : Option Addr) (pl c kl d : Nat) (w : World) (hpl : pl ≤ 1099511627776) (hkl : kl ≤ 9223372036854775807) (h0 :  (0 ≤ n ∧ n ≤ 11)) (h1 : ¬ pl = 0) :
    Calls Try.prog 80 #[.agg #[.int .i64 2, .int .i64 n, .slice A pl c, .slice B kl d]] w fun e w' => e = .returned (.bool false) ∧ Below w.heap.size w w' := by
  have hb0 : Below w.heap.size w (w.alloc (.cells #[.int .i64 2, .int .i64 n, .slice A pl c, .slice B kl d] 31)) := (Below.refl _ _).alloc (Nat.le_refl _) _
  have ca := fun W => l1In_any n 0 11 W
  rw [decide_eq_true h0] at ca
  have tp : ((pl : Int) == 0) = false := by simp; omega
  clear h0 h1
  go_enter Try.func80, Try.ntmps80
  go_wp2_with (first | (go_at_call 66; refine (ca _).mono ?_; rintro e w' ⟨rfl, rfl⟩))
  go_ret
  exact ⟨rfl, hb0⟩

set_option maxRecDepth 100000 in
set_option maxHeartbeats 1000000 in
theorem shape_spec_2_2 (n : Int) (A B : Option Addr) (pl c kl d : Nat) (w : World) (hpl : pl ≤ 1099511627776) (hkl : kl ≤ 9223372036854775807) (h0 :  (0 ≤ n ∧ n ≤ 11)) (h1 :  pl = 0) (h2 : ¬ (kl : Int) = n % 4) :
    Calls Try.prog 80 #[.agg #[.int .i64 2, .int .i64 n, .slice A pl c, .slice B kl d]] w fun e w' => e = .returned (.bool false) ∧ Below w.heap.size w w' := by
  have hb0 : Below w.heap.size w (w.alloc (.cells #[.int .i64 2, .int .i64 n, .slice A pl c, .slice B kl d] 31)) := (Below.refl _ _).alloc (Nat.le_refl _) _
  have ca := fun W => l1In_any n 0 11 W
  rw [decide_eq_true h0] at ca
  subst h1
  have tn : 0 ≤ n := h0.1
  have tk : ((kl : Int) == n % 4) = false := by simp; omega
  clear h0 h2
  go_enter Try.func80, Try.ntmps80
  go_wp2_with (first | (go_at_call 66; refine (ca _).mono ?_; rintro e w' ⟨rfl, rfl⟩))
  go_ret
  exact ⟨rfl, hb0⟩

set_option maxRecDepth 100000 in
set_option maxHeartbeats 1000000 in
theorem shape_spec_2_3 (n : Int) (A B : Option Addr) (pl c kl d : Nat) (w : World) (hpl : pl ≤ 1099511627776) (hkl : kl ≤ 9223372036854775807) (h0 :  (0 ≤ n ∧ n ≤ 11)) (h1 :  pl = 0) (h2 :  (kl : Int) = n % 4) :
    Calls Try.prog 80 #[.agg #[.int .i64 2, .int .i64 n, .slice A pl c, .slice B kl d]] w fun e w' => e = .returned (.bool true) ∧ Below w.heap.size w w' := by
  have hb0 : Below w.heap.size w (w.alloc (.cells #[.int .i64 2, .int .i64 n, .slice A pl c, .slice B kl d] 31)) := (Below.refl _ _).alloc (Nat.le_refl _) _
  have ca := fun W => l1In_any n 0 11 W
  rw [decide_eq_true h0] at ca
  subst h1
  have tn : 0 ≤ n := h0.1
  have tk : ((kl : Int) == n % 4) = true := by simp; omega
  clear h0 h2
  go_enter Try.func80, Try.ntmps80
  go_wp2_with (first | (go_at_call 66; refine (ca _).mono ?_; rintro e w' ⟨rfl, rfl⟩))
  go_ret
  exact ⟨rfl, hb0⟩

set_option maxRecDepth 100000 in
set_option maxHeartbeats 1000000 in
theorem shape_spec_3_0 (n : Int) (A B : Option Addr) (pl c kl d : Nat) (w : World) (hpl : pl ≤ 1099511627776) (hkl : kl ≤ 9223372036854775807) (h0 : atomB n = false) :
    Calls Try.prog 80 #[.agg #[.int .i64 3, .int .i64 n, .slice A pl c, .slice B kl d]] w fun e w' => e = .returned (.bool false) ∧ Below w.heap.size w w' := by
  have hb0 : Below w.heap.size w (w.alloc (.cells #[.int .i64 3, .int .i64 n, .slice A pl c, .slice B kl d] 31)) := (Below.refl _ _).alloc (Nat.le_refl _) _
  have ca := fun W => l1Atom_any n W
  rw [h0] at ca
  clear h0
  go_enter Try.func80, Try.ntmps80
  go_wp2_with (first | (go_at_call 46; refine (ca _).mono ?_; rintro e w' ⟨rfl, rfl⟩))
  go_ret
  exact ⟨rfl, hb0⟩

set_option maxRecDepth 100000 in
set_option maxHeartbeats 1000000 in
theorem shape_spec_3_1 (n : Int) (A B : Option Addr) (pl c kl d : Nat) (w : World) (hpl : pl ≤ 1099511627776) (hkl : kl ≤ 9223372036854775807) (h0 : atomB n = true) (h1 : ¬ pl = 0) :
    Calls Try.prog 80 #[.agg #[.int .i64 3, .int .i64 n, .slice A pl c, .slice B kl d]] w fun e w' => e = .returned (.bool false) ∧ Below w.heap.size w w' := by
  have hb0 : Below w.heap.size w (w.alloc (.cells #[.int .i64 3, .int .i64 n, .slice A pl c, .slice B kl d] 31)) := (Below.refl _ _).alloc (Nat.le_refl _) _
  have ca := fun W => l1Atom_any n W
  rw [h0] at ca
  have tp : ((pl : Int) == 0) = false := by simp; omega
  clear h0 h1
  go_enter Try.func80, Try.ntmps80
  go_wp2_with (first | (go_at_call 46; refine (ca _).mono ?_; rintro e w' ⟨rfl, rfl⟩))
  go_ret
  exact ⟨rfl, hb0⟩

set_option maxRecDepth 100000 in
set_option maxHeartbeats 1000000 in
theorem shape_spec_3_2 (n : Int) (A B : Option Addr) (pl c kl d : Nat) (w : World) (hpl : pl ≤ 1099511627776) (hkl : kl ≤ 9223372036854775807) (h0 : atomB n = true) (h1 :  pl = 0) (h2 : ¬ kl = 1) :
    Calls Try.prog 80 #[.agg #[.int .i64 3, .int .i64 n, .slice A pl c, .slice B kl d]] w fun e w' => e = .returned (.bool false) ∧ Below w.heap.size w w' := by
  have hb0 : Below w.heap.size w (w.alloc (.cells #[.int .i64 3, .int .i64 n, .slice A pl c, .slice B kl d] 31)) := (Below.refl _ _).alloc (Nat.le_refl _) _
  have ca := fun W => l1Atom_any n W
  rw [h0] at ca
  subst h1
  have tk : ((kl : Int) == 1) = false := by simp; omega
  clear h0 h2
  go_enter Try.func80, Try.ntmps80
  go_wp2_with (first | (go_at_call 46; refine (ca _).mono ?_; rintro e w' ⟨rfl, rfl⟩))
  go_ret
  exact ⟨rfl, hb0⟩

set_option maxRecDepth 100000 in
set_option maxHeartbeats 1000000 in
theorem shape_spec_3_3 (n : Int) (A B : Option Addr) (pl c kl d : Nat) (w : World) (hpl : pl ≤ 1099511627776) (hkl : kl ≤ 9223372036854775807) (h0 : atomB n = true) (h1 :  pl = 0) (h2 :  kl = 1) :
    Calls Try.prog 80 #[.agg #[.int .i64 3, .int .i64 n, .slice A pl c, .slice B kl d]] w fun e w' => e = .returned (.bool true) ∧ Below w.heap.size w w' := by
  have hb0 : Below w.heap.size w (w.alloc (.cells #[.int .i64 3, .int .i64 n, .slice A pl c, .slice B kl d] 31)) := (Below.refl _ _).alloc (Nat.le_refl _) _
  have ca := fun W => l1Atom_any n W
  rw [h0] at ca
  subst h1
  subst h2
  clear h0
  go_enter Try.func80, Try.ntmps80
  go_wp2_with (first | (go_at_call 46; refine (ca _).mono ?_; rintro e w' ⟨rfl, rfl⟩))
  go_ret
  exact ⟨rfl, hb0⟩

set_option maxRecDepth 100000 in
set_option maxHeartbeats 1000000 in
theorem shape_spec_4_0 (n : Int) (A B : Option Addr) (pl c kl d : Nat) (w : World) (hpl : pl ≤ 1099511627776) (hkl : kl ≤ 9223372036854775807) (h0 : ¬ (0 ≤ n ∧ n ≤ 9)) :
    Calls Try.prog 80 #[.agg #[.int .i64 4, .int .i64 n, .slice A pl c, .slice B kl d]] w fun e w' => e = .returned (.bool false) ∧ Below w.heap.size w w' := by
  have hb0 : Below w.heap.size w (w.alloc (.cells #[.int .i64 4, .int .i64 n, .slice A pl c, .slice B kl d] 31)) := (Below.refl _ _).alloc (Nat.le_refl _) _
  have ca := fun W => l1In_any n 0 9 W
  rw [decide_eq_false h0] at ca
  clear h0
  go_enter Try.func80, Try.ntmps80
  go_wp2_with (first | (go_at_call 66; refine (ca _).mono ?_; rintro e w' ⟨rfl, rfl⟩))
  go_ret
  exact ⟨rfl, hb0⟩

set_option maxRecDepth 100000 in
set_option maxHeartbeats 1000000 in
theorem shape_spec_4_1 (n : Int) (A B : Option Addr) (pl c kl d : Nat) (w : World) (hpl : pl ≤ 1099511627776) (hkl : kl ≤ 9223372036854775807) (h0 :  (0 ≤ n ∧ n ≤ 9)) (p : List (Int × Int)) (hlp : p.length = pl) (hA : PairsAt w A p) (h1 : permB p = false) :
    Calls Try.prog 80 #[.agg #[.int .i64 4, .int .i64 n, .slice A pl c, .slice B kl d]] w fun e w' => e = .returned (.bool false) ∧ Below w.heap.size w w' := by
  have hb0 : Below w.heap.size w (w.alloc (.cells #[.int .i64 4, .int .i64 n, .slice A pl c, .slice B kl d] 31)) := (Below.refl _ _).alloc (Nat.le_refl _) _
  have k9 : (w.alloc (.cells #[.int .i64 4, .int .i64 n, .slice A pl c, .slice B kl d] 31)).cell? ⟨w.heap.size, 3, none⟩ = some (.slice B kl d) := by
    rw [cell_of_row _ w.heap.size 3 _ _ _ (heap_alloc_new w _)]; rfl
  have H9 := Lib.hid k9
  clear k9
  have ca := fun W => l1In_any n 0 9 W
  rw [decide_eq_true h0] at ca
  have cp := fun W hW => isPerm_spec A c p W hW (by omega)
  rw [perm_same, h1, hlp] at cp
  have cp' := cp _ (hA.below hb0)
  clear h0 h1
  go_enter Try.func80, Try.ntmps80
  go_wp2_with (first | (go_at_call 66; refine (ca _).mono ?_; rintro e w' ⟨rfl, rfl⟩) | (go_at_call 31; refine cp'.mono ?_; rintro e w2 ⟨rfl, hb2⟩; have hb9 := hb0.trans (hb2.mono hb0.size); have hs9 := (hb2.cell (p := ⟨w.heap.size, 3, none⟩) (by simp)).trans H9.out))
  go_ret
  exact ⟨rfl, hb9⟩

set_option maxRecDepth 100000 in
set_option maxHeartbeats 1000000 in
theorem shape_spec_4_2 (n : Int) (A B : Option Addr) (pl c kl d : Nat) (w : World) (hpl : pl ≤ 1099511627776) (hkl : kl ≤ 9223372036854775807) (h0 :  (0 ≤ n ∧ n ≤ 9)) (p : List (Int × Int)) (hlp : p.length = pl) (hA : PairsAt w A p) (h1 : permB p = true) (h2 : ¬ kl = 0) :
    Calls Try.prog 80 #[.agg #[.int .i64 4, .int .i64 n, .slice A pl c, .slice B kl d]] w fun e w' => e = .returned (.bool false) ∧ Below w.heap.size w w' := by
  have hb0 : Below w.heap.size w (w.alloc (.cells #[.int .i64 4, .int .i64 n, .slice A pl c, .slice B kl d] 31)) := (Below.refl _ _).alloc (Nat.le_refl _) _
  have k9 : (w.alloc (.cells #[.int .i64 4, .int .i64 n, .slice A pl c, .slice B kl d] 31)).cell? ⟨w.heap.size, 3, none⟩ = some (.slice B kl d) := by
    rw [cell_of_row _ w.heap.size 3 _ _ _ (heap_alloc_new w _)]; rfl
  have H9 := Lib.hid k9
  clear k9
  have ca := fun W => l1In_any n 0 9 W
  rw [decide_eq_true h0] at ca
  have cp := fun W hW => isPerm_spec A c p W hW (by omega)
  rw [perm_same, h1, hlp] at cp
  have cp' := cp _ (hA.below hb0)
  have tk : ((kl : Int) == 0) = false := by simp; omega
  clear h0 h1 h2
  go_enter Try.func80, Try.ntmps80
  go_wp2_with (first | (go_at_call 66; refine (ca _).mono ?_; rintro e w' ⟨rfl, rfl⟩) | (go_at_call 31; refine cp'.mono ?_; rintro e w2 ⟨rfl, hb2⟩; have hb9 := hb0.trans (hb2.mono hb0.size); have hs9 := (hb2.cell (p := ⟨w.heap.size, 3, none⟩) (by simp)).trans H9.out))
  go_ret
  exact ⟨rfl, hb9⟩

set_option maxRecDepth 100000 in
set_option maxHeartbeats 1000000 in
theorem shape_spec_4_3 (n : Int) (A B : Option Addr) (pl c kl d : Nat) (w : World) (hpl : pl ≤ 1099511627776) (hkl : kl ≤ 9223372036854775807) (h0 :  (0 ≤ n ∧ n ≤ 9)) (p : List (Int × Int)) (hlp : p.length = pl) (hA : PairsAt w A p) (h1 : permB p = true) (h2 :  kl = 0) :
    Calls Try.prog 80 #[.agg #[.int .i64 4, .int .i64 n, .slice A pl c, .slice B kl d]] w fun e w' => e = .returned (.bool true) ∧ Below w.heap.size w w' := by
  have hb0 : Below w.heap.size w (w.alloc (.cells #[.int .i64 4, .int .i64 n, .slice A pl c, .slice B kl d] 31)) := (Below.refl _ _).alloc (Nat.le_refl _) _
  have k9 : (w.alloc (.cells #[.int .i64 4, .int .i64 n, .slice A pl c, .slice B kl d] 31)).cell? ⟨w.heap.size, 3, none⟩ = some (.slice B kl d) := by
    rw [cell_of_row _ w.heap.size 3 _ _ _ (heap_alloc_new w _)]; rfl
  have H9 := Lib.hid k9
  clear k9
  have ca := fun W => l1In_any n 0 9 W
  rw [decide_eq_true h0] at ca
  have cp := fun W hW => isPerm_spec A c p W hW (by omega)
  rw [perm_same, h1, hlp] at cp
  have cp' := cp _ (hA.below hb0)
  subst h2
  clear h0 h1
  go_enter Try.func80, Try.ntmps80
  go_wp2_with (first | (go_at_call 66; refine (ca _).mono ?_; rintro e w' ⟨rfl, rfl⟩) | (go_at_call 31; refine cp'.mono ?_; rintro e w2 ⟨rfl, hb2⟩; have hb9 := hb0.trans (hb2.mono hb0.size); have hs9 := (hb2.cell (p := ⟨w.heap.size, 3, none⟩) (by simp)).trans H9.out))
  go_ret
  exact ⟨rfl, hb9⟩

set_option maxRecDepth 100000 in
theorem shape_spec_0 (o n : Int) (A B : Option Addr) (pl c kl d : Nat) (w : World) (h1 : ¬ o = 1) (h2 : ¬ o = 2) (h3 : ¬ o = 3) (h4 : ¬ o = 4) :
    Calls Try.prog 80 #[.agg #[.int .i64 o, .int .i64 n, .slice A pl c, .slice B kl d]] w fun e w' => e = .returned (.bool false) ∧ Below w.heap.size w w' := by
  have hb0 : Below w.heap.size w (w.alloc (.cells #[.int .i64 o, .int .i64 n, .slice A pl c, .slice B kl d] 31)) := (Below.refl _ _).alloc (Nat.le_refl _) _
  have t1 : (o == 1) = false := by simpa using h1
  have t2 : (o == 2) = false := by simpa using h2
  have t3 : (o == 3) = false := by simpa using h3
  have t4 : (o == 4) = false := by simpa using h4
  clear h1 h2 h3 h4
  go_enter Try.func80, Try.ntmps80
  go_wp2
  go_ret
  exact ⟨rfl, hb0⟩

theorem shape_spec_any (t : Tm) (x : Value) (w : World) (hx : TmIn w x t) (hpl : t.perm.length ≤ 1048576) (hkl : t.kids.length ≤ 1048576) :
    Calls Try.prog 80 #[x] w fun e w' => e = .returned (.bool (shapeB t)) ∧ Below w.heap.size w w' := by
  obtain ⟨A, c, kv, rfl, hp, hk⟩ := hx
  obtain ⟨B, d, rfl⟩ := hk.form
  unfold shapeB
  by_cases o1 : t.op = 1
  · rw [if_pos o1, o1]
    by_cases h0 : atomB t.num = true
    · by_cases h1 : t.perm.length = 0
      · by_cases h2 : t.kids.length = 0
        · rw [h0, decide_eq_true h1, decide_eq_true h2]; exact shape_spec_1_3 _ _ _ _ _ _ _ w (by omega) (by omega) h0 h1 h2
        · rw [h0, decide_eq_true h1, decide_eq_false h2]; exact shape_spec_1_2 _ _ _ _ _ _ _ w (by omega) (by omega) h0 h1 h2
      · rw [h0, decide_eq_false h1]; exact shape_spec_1_1 _ _ _ _ _ _ _ w (by omega) (by omega) h0 h1
    · rw [Bool.not_eq_true] at h0; rw [h0]; exact shape_spec_1_0 _ _ _ _ _ _ _ w (by omega) (by omega) h0
  · rw [if_neg o1]
    by_cases o2 : t.op = 2
    · rw [if_pos o2, o2]
      by_cases h0 : 0 ≤ t.num ∧ t.num ≤ 11
      · by_cases h1 : t.perm.length = 0
        · by_cases h2 : (t.kids.length : Int) = t.num % 4
          · rw [decide_eq_true h0, decide_eq_true h1, decide_eq_true h2]; exact shape_spec_2_3 _ _ _ _ _ _ _ w (by omega) (by omega) h0 h1 h2
          · rw [decide_eq_true h0, decide_eq_true h1, decide_eq_false h2]; exact shape_spec_2_2 _ _ _ _ _ _ _ w (by omega) (by omega) h0 h1 h2
        · rw [decide_eq_true h0, decide_eq_false h1]; exact shape_spec_2_1 _ _ _ _ _ _ _ w (by omega) (by omega) h0 h1
      · rw [decide_eq_false h0]; exact shape_spec_2_0 _ _ _ _ _ _ _ w (by omega) (by omega) h0
    · rw [if_neg o2]
      by_cases o3 : t.op = 3
      · rw [if_pos o3, o3]
        by_cases h0 : atomB t.num = true
        · by_cases h1 : t.perm.length = 0
          · by_cases h2 : t.kids.length = 1
            · rw [h0, decide_eq_true h1, decide_eq_true h2]; exact shape_spec_3_3 _ _ _ _ _ _ _ w (by omega) (by omega) h0 h1 h2
            · rw [h0, decide_eq_true h1, decide_eq_false h2]; exact shape_spec_3_2 _ _ _ _ _ _ _ w (by omega) (by omega) h0 h1 h2
          · rw [h0, decide_eq_false h1]; exact shape_spec_3_1 _ _ _ _ _ _ _ w (by omega) (by omega) h0 h1
        · rw [Bool.not_eq_true] at h0; rw [h0]; exact shape_spec_3_0 _ _ _ _ _ _ _ w (by omega) (by omega) h0
      · rw [if_neg o3]
        by_cases o4 : t.op = 4
        · rw [if_pos o4, o4]
          by_cases h0 : 0 ≤ t.num ∧ t.num ≤ 9
          · by_cases h1 : permB t.perm = true
            · by_cases h2 : t.kids.length = 0
              · rw [decide_eq_true h0, h1, decide_eq_true h2]; exact shape_spec_4_3 _ _ _ _ _ _ _ w (by omega) (by omega) h0 _ rfl hp h1 h2
              · rw [decide_eq_true h0, h1, decide_eq_false h2]; exact shape_spec_4_2 _ _ _ _ _ _ _ w (by omega) (by omega) h0 _ rfl hp h1 h2
            · rw [Bool.not_eq_true] at h1; rw [decide_eq_true h0, h1]; exact shape_spec_4_1 _ _ _ _ _ _ _ w (by omega) (by omega) h0 _ rfl hp h1
          · rw [decide_eq_false h0]; exact shape_spec_4_0 _ _ _ _ _ _ _ w (by omega) (by omega) h0
        · rw [if_neg o4]
          exact shape_spec_0 _ _ _ _ _ _ _ _ w o1 o2 o3 o4

end Go.Proofs.Ytbfkfklaplgebaa
end

section
namespace Go.Proofs.Ytbfkfklaplgebaa
open Go.RowKit Go.Sort

/-- A struct of four cells in a box, in a later world. -/
theorem box4 {a b c d : Value} {T : TypeId} {w w1 : World} (hb : Below (w.alloc (.cells #[a, b, c, d] T)).heap.size (w.alloc (.cells #[a, b, c, d] T)) w1) :
    w1.cell? ⟨w.heap.size, 0, none⟩ = some a ∧ w1.cell? ⟨w.heap.size, 1, none⟩ = some b ∧ w1.cell? ⟨w.heap.size, 2, none⟩ = some c ∧ w1.cell? ⟨w.heap.size, 3, none⟩ = some d := by
  have h := (hb.block w.heap.size (by simp)).trans (heap_alloc_new w _)
  refine ⟨?_, ?_, ?_, ?_⟩ <;> rw [cell_of_row w1 w.heap.size _ _ _ _ h] <;> rfl

mutual
theorem szT_le : ∀ t : Tm, szT t ≤ 1 + cntT t
  | .mk o n p ks => by
    have := szTs_le ks
    rw [szT, cntT]; omega
theorem szTs_le : ∀ ts : List Tm, szTs ts ≤ ts.length + sumT ts
  | [] => by simp [szTs]
  | t :: r => by
    have h1 := szT_le t
    have h2 := szTs_le r
    rw [szTs, sumT, List.length_cons]; omega
end

theorem szTs_append : ∀ a b : List Tm, szTs (a ++ b) = szTs a + szTs b
  | [], b => by simp [szTs]
  | t :: r, b => by rw [List.cons_append, szTs, szTs, szTs_append r b]; omega
theorem szTs_next {ts : List Tm} {k : Nat} (h : k < ts.length) : szTs (ts.take (k + 1)) = szTs (ts.take k) + szT (tmAt ts k) := by
  rw [tm_take_next h, szTs_append]
  simp [szTs]
theorem szTs_take (ts : List Tm) (k : Nat) : szTs (ts.take k) ≤ szTs ts := by
  have := szTs_append (ts.take k) (ts.drop k)
  rw [List.take_append_drop] at this
  omega

/-- The answer, and new blocks at most. -/
def BoolPost (b : Bool) (w : World) (e : Ending) (w' : World) : Prop := e = .returned (.bool b) ∧ Below w.heap.size w w'
def IntPost (n : Int) (w : World) (e : Ending) (w' : World) : Prop := e = .returned (.int .i64 n) ∧ Below w.heap.size w w'

set_option maxRecDepth 100000 in
set_option maxHeartbeats 2000000 in
theorem l2Good_of (t : Tm) (x : Value) (w : World) (hx : TmIn w x t) (hpl : t.perm.length ≤ 1048576) (hkl : t.kids.length ≤ 1048576)
    (ih : ∀ i, i < t.kids.length → ∀ (w' : World) (y : Value), TmIn w' y (tmAt t.kids i) → Calls Try.prog 57 #[y] w' (BoolPost (goodT (tmAt t.kids i)) w')) :
    Calls Try.prog 57 #[x] w (BoolPost (goodT t) w) := by
  have hsh := fun W hW => shape_spec_any t x W hW hpl hkl
  obtain ⟨A, c, kv, rfl, hp, hk⟩ := hx
  obtain ⟨B, d, rfl⟩ := hk.form
  have hg := Lib.hid (goodT_eq t)
  have hb0 : Below w.heap.size w (w.alloc (.cells #[.int .i64 t.op, .int .i64 t.num, .slice A t.perm.length c, .slice B t.kids.length d] 31)) := (Below.refl _ _).alloc (Nat.le_refl _) _
  have hsh' := hsh _ ⟨A, c, _, rfl, hp.below hb0, hk.below hb0⟩
  by_cases h1 : shapeB t = true
  · rw [h1] at hsh' hg
    rw [Bool.true_and] at hg
    rw [hg.out]
    clear h1 hsh
    go_enter Try.func57, Try.ntmps57
    go_wp2_with fail
    refine hsh'.mono ?_
    rintro e w1 ⟨rfl, hb1⟩
    obtain ⟨b0, b1, b2, b3⟩ := box4 hb1
    have hs1 := hb0.trans (hb1.mono hb0.size)
    clear hsh' hb0 hb1 hp
    go_wp2
    clear b0 b1 b2 b3
    go_loopw [11] (fun i wr => ∃ k : Nat, k ≤ t.kids.length ∧ i = .int .i64 k ∧ goodTs (t.kids.take k) = true ∧ Below w.heap.size w wr) (fun i _ => t.kids.length - (intOf i).toNat)
    case atStart => exact ⟨0, Nat.zero_le _, rfl, by simp [goodTs], hs1⟩
    case round =>
      clear hs1
      obtain ⟨k, hk', rfl, hgt, hb⟩ := hrel
      have HGT := Lib.hid hgt
      clear hgt
      by_cases hlt : k < t.kids.length
      · obtain ⟨b, off, rfl, hbl, hget⟩ := (hk.below hb).get (by omega)
        obtain ⟨A1, c1, kv1, d0, d1, d2, d3, hp1, hk1⟩ := hget k hlt
        obtain ⟨B1, e1, rfl⟩ := hk1.form
        have hbx : Below wr.heap.size wr (wr.alloc (.cells #[.int .i64 (tmAt t.kids k).op, .int .i64 (tmAt t.kids k).num, .slice A1 (tmAt t.kids k).perm.length c1, .slice B1 (tmAt t.kids k).kids.length e1] 31)) := (Below.refl _ _).alloc (Nat.le_refl _) _
        have hct := ih k hlt _ _ ⟨A1, c1, _, rfl, hp1.below hbx, hk1.below hbx⟩
        have hb2 := hb.trans (hbx.mono hb.size)
        have hno := fun h => Lib.hid (goodTs_no hlt h)
        have hnx := Lib.hid (goodTs_next hlt)
        generalize tmAt t.kids k = u at d0 d1 d2 d3 hct hbx hb2 hno hnx
        clear hget hp1 hk1 hbl hbx hb ih hk
        by_cases hgu : goodT u = true
        · rw [hgu] at hct
          have hnx' : Hid (goodTs (t.kids.take (k + 1)) = true) := by show goodTs (t.kids.take (k + 1)) = true; rw [hnx.out, HGT.out, hgu]; rfl
          clear hno hgu hnx
          go_wp2_with fail
          refine hct.mono ?_
          rintro e w2 ⟨rfl, hb3⟩
          have hb4 := hb2.trans (hb3.mono hb2.size)
          clear hct hb2 hb3 d0 d1 d2 d3
          go_wp2
          refine ⟨⟨k + 1, by omega, by go_num, hnx'.out, hb4⟩, ?_⟩
          simp only [intOf]
          omega
        · have hgu' : goodT u = false := by simpa using hgu
          rw [hgu'] at hct
          have hr := hno hgu'
          clear hno hgu hgu' hnx
          go_wp2_with fail
          refine hct.mono ?_
          rintro e w2 ⟨rfl, hb3⟩
          have hpost : BoolPost (goodTs t.kids) w (.returned (.bool false)) w2 := ⟨by rw [hr.out], hb2.trans (hb3.mono hb2.size)⟩
          clear hct hb2 hb3 d0 d1 d2 d3 hr
          go_wp2
          go_ret
          exact hpost
      · have hpost : BoolPost (goodTs t.kids) w (.returned (.bool true)) wr := ⟨by rw [← HGT.out, List.take_of_length_le (by omega)], hb⟩
        clear ih hk hb
        go_wp2
        go_ret
        exact hpost
  · have h1' : shapeB t = false := by simpa using h1
    rw [h1'] at hsh' hg
    rw [Bool.false_and] at hg
    rw [hg.out]
    clear h1 h1' hsh ih
    go_enter Try.func57, Try.ntmps57
    go_wp2_with fail
    refine hsh'.mono ?_
    rintro e w1 ⟨rfl, hb1⟩
    have hpost : BoolPost false w (.returned (.bool false)) w1 := ⟨rfl, hb0.trans (hb1.mono hb0.size)⟩
    clear hsh' hb0 hb1 hp hk
    go_wp2
    go_ret
    exact hpost

theorem l2Good_any : ∀ (N : Nat) (t : Tm), szT t ≤ N → Fit t → ∀ (w : World) (x : Value), TmIn w x t → Calls Try.prog 57 #[x] w (BoolPost (goodT t) w) := by
  intro N
  induction N with
  | zero => intro t hN; rw [szT_eq] at hN; omega
  | succ N ih =>
    intro t hN hf w x hx
    have h2 := (fit_eq _).1 hf
    refine l2Good_of t x w hx h2.1 h2.2.1 fun i hi w' y hy => ?_
    have h3 := szT_at hi
    rw [szT_eq] at hN
    exact ih _ (by omega) (fits_at h2.2.2 hi) w' y hy

set_option maxRecDepth 100000 in
set_option maxHeartbeats 2000000 in
theorem l2Size_of (t : Tm) (x : Value) (w : World) (hx : TmIn w x t) (hkl : t.kids.length ≤ 1048576) (hsz : szT t ≤ 9007199254740992)
    (ih : ∀ i, i < t.kids.length → ∀ (w' : World) (y : Value), TmIn w' y (tmAt t.kids i) → Calls Try.prog 58 #[y] w' (IntPost (szT (tmAt t.kids i)) w')) :
    Calls Try.prog 58 #[x] w (IntPost (szT t) w) := by
  obtain ⟨A, c, kv, rfl, hp, hk⟩ := hx
  obtain ⟨B, d, rfl⟩ := hk.form
  have hg := szT_eq t
  have HG := Lib.hid hg
  have hb0 : Below w.heap.size w (w.alloc (.cells #[.int .i64 t.op, .int .i64 t.num, .slice A t.perm.length c, .slice B t.kids.length d] 31)) := (Below.refl _ _).alloc (Nat.le_refl _) _
  have hle : szTs t.kids ≤ 9007199254740991 := by omega
  clear hg hsz
  go_enter Try.func58, Try.ntmps58
  go_wp2
  go_loopw [3, 9] (fun s i wr => ∃ k : Nat, k ≤ t.kids.length ∧ i = .int .i64 k ∧ s = .int .i64 (1 + (szTs (t.kids.take k) : Nat)) ∧ Below w.heap.size w wr) (fun _ i _ => t.kids.length - (intOf i).toNat)
  case atStart => exact ⟨0, Nat.zero_le _, rfl, by simp [szTs], hb0⟩
  case round =>
    clear hb0 hp
    obtain ⟨k, hk', rfl, rfl, hb⟩ := hrel
    by_cases hlt : k < t.kids.length
    · obtain ⟨b, off, rfl, hbl, hget⟩ := (hk.below hb).get (by omega)
      obtain ⟨A1, c1, kv1, d0, d1, d2, d3, hp1, hk1⟩ := hget k hlt
      obtain ⟨B1, e1, rfl⟩ := hk1.form
      have hbx : Below wr.heap.size wr (wr.alloc (.cells #[.int .i64 (tmAt t.kids k).op, .int .i64 (tmAt t.kids k).num, .slice A1 (tmAt t.kids k).perm.length c1, .slice B1 (tmAt t.kids k).kids.length e1] 31)) := (Below.refl _ _).alloc (Nat.le_refl _) _
      have hct := ih k hlt _ _ ⟨A1, c1, _, rfl, hp1.below hbx, hk1.below hbx⟩
      have hb2 := hb.trans (hbx.mono hb.size)
      have hnx := szTs_next hlt
      have htk := szTs_take t.kids (k + 1)
      generalize tmAt t.kids k = u at d0 d1 d2 d3 hct hbx hb2 hnx
      generalize hs : szTs (t.kids.take k) = s at hnx
      have hse : Hid ((1 : Int) + ((szTs (t.kids.take (k + 1)) : Nat) : Int) = 1 + (s : Int) + (szT u : Nat)) := by show (1 : Int) + ((szTs (t.kids.take (k + 1)) : Nat) : Int) = 1 + (s : Int) + (szT u : Nat); omega
      have hbd : (1 : Int) + (s : Int) + (szT u : Nat) ≤ 9007199254740992 := by omega
      clear hget hp1 hk1 hbl hbx hb ih hk hs hnx htk
      generalize szT u = z at hct hse hbd
      go_wp2_with fail
      refine hct.mono ?_
      rintro e w2 ⟨rfl, hb3⟩
      have hb4 := hb2.trans (hb3.mono hb2.size)
      clear hct hb2 hb3 d0 d1 d2 d3
      go_wp2
      refine ⟨⟨k + 1, by omega, by go_num, by rw [hse.out], hb4⟩, ?_⟩
      simp only [intOf]
      omega
    · have hpost : IntPost (szT t) w (.returned (.int .i64 (1 + (szTs (t.kids.take k) : Nat)))) wr := ⟨by rw [HG.out, List.take_of_length_le (by omega)]; congr 2, hb⟩
      clear ih hk hb
      go_wp2
      go_ret
      exact hpost

theorem l2Size_any : ∀ (N : Nat) (t : Tm), szT t ≤ N → N ≤ 9007199254740992 → Fit t → ∀ (w : World) (x : Value), TmIn w x t → Calls Try.prog 58 #[x] w (IntPost (szT t) w) := by
  intro N
  induction N with
  | zero => intro t hN; rw [szT_eq] at hN; omega
  | succ N ih =>
    intro t hN hNb hf w x hx
    have h2 := (fit_eq _).1 hf
    refine l2Size_of t x w hx h2.2.1 (by omega) fun i hi w' y hy => ?_
    have h3 := szT_at hi
    rw [szT_eq] at hN
    exact ih _ (by omega) (by omega) (fits_at h2.2.2 hi) w' y hy

set_option maxRecDepth 100000 in
theorem isTerm_spec (t : Tm) (x : Value) (w : World) (hx : TmIn w x t) (hc : cntT t ≤ 1048576) :
    Calls Try.prog 32 #[x] w (BoolPost (isTermB t) w) := by
  have hle := szT_le t
  have hgd := fun W hW => l2Good_any _ t (Nat.le_refl _) (fit_of t hc) W x hW
  have hsz := fun W hW => l2Size_any (szT t) t (Nat.le_refl _) (by omega) (fit_of t hc) W x hW
  have hr0 : isTermB t = (goodT t && decide (szT t ≤ 60)) := rfl
  have hr := Lib.hid hr0
  clear hr0
  have hx' := hx
  obtain ⟨A, c, kv, rfl, hp, hk⟩ := hx
  obtain ⟨B, d, rfl⟩ := hk.form
  have hb0 : Below w.heap.size w (w.alloc (.cells #[.int .i64 t.op, .int .i64 t.num, .slice A t.perm.length c, .slice B t.kids.length d] 31)) := (Below.refl _ _).alloc (Nat.le_refl _) _
  have hg0 := hgd _ (hx'.below hb0)
  clear hgd
  by_cases h1 : goodT t = true
  · rw [h1] at hg0 hr
    rw [Bool.true_and] at hr
    clear h1
    go_enter Try.func32, Try.ntmps32
    go_wp2_with fail
    refine hg0.mono ?_
    rintro e w1 ⟨rfl, hb1⟩
    obtain ⟨b0, b1, b2, b3⟩ := box4 hb1
    have hs1 := hb0.trans (hb1.mono hb0.size)
    have hs0 := hsz _ (hx'.below hs1)
    clear hg0 hb0 hb1 hp hk hsz hx'
    generalize hz : szT t = z at hs0 hr hle
    clear hz
    go_wp2_with fail
    refine hs0.mono ?_
    rintro e w2 ⟨rfl, hb2⟩
    have hpost : BoolPost (isTermB t) w (.returned (.bool (decide (z ≤ 60)))) w2 := ⟨by rw [hr.out], hs1.trans (hb2.mono hs1.size)⟩
    clear hs0 hs1 hb2 hr b0 b1 b2 b3
    by_cases h2 : z ≤ 60
    · rw [decide_eq_true h2] at hpost
      have k2 : (z : Int) ≤ 60 := by omega
      go_wp2
      go_ret
      exact hpost
    · rw [decide_eq_false h2] at hpost
      have k2 : decide ((z : Int) ≤ 60) = false := by simp; omega
      go_wp2
      go_ret
      exact hpost
  · have h1' : goodT t = false := by simpa using h1
    rw [h1'] at hg0 hr
    rw [Bool.false_and] at hr
    clear h1 h1' hsz hx'
    go_enter Try.func32, Try.ntmps32
    go_wp2_with fail
    refine hg0.mono ?_
    rintro e w1 ⟨rfl, hb1⟩
    have hpost : BoolPost (isTermB t) w (.returned (.bool false)) w1 := ⟨by rw [hr.out], hb0.trans (hb1.mono hb0.size)⟩
    clear hg0 hb0 hb1 hp hk hr
    go_wp2
    go_ret
    exact hpost

end Go.Proofs.Ytbfkfklaplgebaa
end

section
namespace Go.Proofs.Ytbfkfklaplgebaa
open Go.RowKit Go.Sort

/-- Whether a list has a number. -/
def hasB (l : List Int) (a : Int) : Bool := l.contains a

set_option maxHeartbeats 400000 in
theorem l1Has_any (A : Option Addr) (c : Nat) (l : List Int) (a : Int) (w : World) (hA : IntsAt w A l) (hl : l.length ≤ 1099511627776) :
    Calls Try.prog 48 #[.slice A l.length c, .int .i64 a] w fun e w' => e = .returned (.bool (hasB l a)) ∧ w = w' := by
  go_enter Try.func48, Try.ntmps48
  go_wp2
  go_loop [5] (fun i => ∃ k : Nat, k ≤ l.length ∧ i = .int .i64 k ∧ Hid (∀ j, j < k → itAt l j ≠ a)) (fun i => l.length - (intOf i).toNat)
  case atStart => exact ⟨0, Nat.zero_le _, rfl, fun j hj => absurd hj (by omega)⟩
  case round =>
    obtain ⟨k, hk, rfl, hq⟩ := hrel
    by_cases hlt : k < l.length
    · obtain ⟨b1, o1, rfl, hb1, hc1⟩ := hA (by omega)
      have c1 := hc1 k hlt
      clear hc1 hA
      by_cases he : (itAt l k == a) = true
      · have hres : Hid (hasB l a = true) := by
          show hasB l a = true
          unfold hasB
          rw [List.contains_iff_mem]
          have e : itAt l k = a := by simpa using he
          rw [← e, itAt_get l k hlt]
          exact List.getElem_mem hlt
        generalize itAt l k = x at c1 he
        clear hq
        go_wp2
        go_ret
        exact ⟨bool_end hres.out.symm, rfl⟩
      · have he' : (itAt l k == a) = false := by simpa using he
        have hn : Hid (∀ j, j < k + 1 → itAt l j ≠ a) := by
          intro j hj
          by_cases e : j = k
          · rw [e]; simpa using he'
          · exact hq.out j (by omega)
        generalize itAt l k = x at c1 he he'
        clear hq he
        go_wp2
        go_round
        case rel => exact ⟨k + 1, by omega, by go_num, hn⟩
        case measure => simp [intOf]; omega
    · have hres : Hid (hasB l a = false) := by
        show hasB l a = false
        unfold hasB
        rw [← Bool.not_eq_true, List.contains_iff_mem]
        intro hmem
        obtain ⟨j, hj, e⟩ := List.getElem_of_mem hmem
        exact hq.out j (by omega) (by rw [itAt_get l j hj]; exact e)
      clear hq hA
      go_wp2
      go_ret
      exact ⟨bool_end hres.out.symm, rfl⟩

end Go.Proofs.Ytbfkfklaplgebaa
end

section
namespace Go.Proofs.Ytbfkfklaplgebaa
open Go.RowKit Go.Sort

theorem int_infoM : (Try.prog.info? 3).map (fun i => (i.zero, i.size, i.bytes)) = some (some (.int .i64 0), 1, 8) := by kernel_rfl

theorem int_one (x : Int) : ∀ u ∈ [Value.int .i64 x], u.oneCell' = true := by
  intro u hu
  simp at hu
  subst hu
  rfl

theorem one_cell {w : World} {g : Nat} {u : Value} (h : w.cell? ⟨g, 0, none⟩ = some u) : ∀ j x, [u][j]? = some x → w.cell? ((⟨g, 0, none⟩ : Addr).add j) = some x := by
  intro j x hj
  cases j with
  | zero => simp at hj; subst hj; simpa [Addr.add] using h
  | succ j => simp at hj

end Go.Proofs.Ytbfkfklaplgebaa
end

