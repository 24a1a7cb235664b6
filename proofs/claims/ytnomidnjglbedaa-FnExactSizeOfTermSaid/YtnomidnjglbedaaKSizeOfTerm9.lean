/-
  The shape of a term, in the program, as contracts.
-/
import Derived.Test.YtnomidnjglbedaaKSizeOfTerm8
namespace Go.Proofs.Ytnomidnjglbedaa
open Go.RowKit Go.Sort
set_option linter.unusedVariables false

theorem isSymbol_any (n : Int) (w : World) :
    Calls Try.prog 130 #[.int .i64 n] w fun e w' => e = .returned (.bool (decide (0 ≤ n ∧ n ≤ 11))) ∧ w = w' := by
  by_cases h1 : 0 ≤ n
  · by_cases h2 : n ≤ 11
    · have r : Hid (decide (0 ≤ n ∧ n ≤ 11) = true) := decide_eq_true ⟨h1, h2⟩
      go_enter Try.func130, Try.ntmps130
      go_wp2
      go_ret
      first | exact ⟨rfl, rfl⟩ | exact ⟨bool_end r.out.symm, rfl⟩
    · have r : Hid (decide (0 ≤ n ∧ n ≤ 11) = false) := decide_eq_false fun h => h2 h.2
      have k2 : decide (n ≤ 11) = false := decide_eq_false h2
      have k3 : 11 < n := by omega
      go_enter Try.func130, Try.ntmps130
      go_wp2
      go_ret
      first | exact ⟨rfl, rfl⟩ | exact ⟨bool_end r.out.symm, rfl⟩
  · have r : Hid (decide (0 ≤ n ∧ n ≤ 11) = false) := decide_eq_false fun h => h1 h.1
    have k1 : decide (0 ≤ n) = false := decide_eq_false h1
    have k3 : n < 0 := by omega
    go_enter Try.func130, Try.ntmps130
    go_wp2
    go_ret
    first | exact ⟨rfl, rfl⟩ | exact ⟨bool_end r.out.symm, rfl⟩

theorem isHole_any (n : Int) (w : World) :
    Calls Try.prog 82 #[.int .i64 n] w fun e w' => e = .returned (.bool (decide (0 ≤ n ∧ n ≤ 9))) ∧ w = w' := by
  by_cases h1 : 0 ≤ n
  · by_cases h2 : n ≤ 9
    · have r : Hid (decide (0 ≤ n ∧ n ≤ 9) = true) := decide_eq_true ⟨h1, h2⟩
      go_enter Try.func82, Try.ntmps82
      go_wp2
      go_ret
      first | exact ⟨rfl, rfl⟩ | exact ⟨bool_end r.out.symm, rfl⟩
    · have r : Hid (decide (0 ≤ n ∧ n ≤ 9) = false) := decide_eq_false fun h => h2 h.2
      have k2 : decide (n ≤ 9) = false := decide_eq_false h2
      have k3 : 9 < n := by omega
      go_enter Try.func82, Try.ntmps82
      go_wp2
      go_ret
      first | exact ⟨rfl, rfl⟩ | exact ⟨bool_end r.out.symm, rfl⟩
  · have r : Hid (decide (0 ≤ n ∧ n ≤ 9) = false) := decide_eq_false fun h => h1 h.1
    have k1 : decide (0 ≤ n) = false := decide_eq_false h1
    have k3 : n < 0 := by omega
    go_enter Try.func82, Try.ntmps82
    go_wp2
    go_ret
    first | exact ⟨rfl, rfl⟩ | exact ⟨bool_end r.out.symm, rfl⟩

theorem kidsOf_any (n : Int) (w : World) (h0 : 0 ≤ n) (h1 : n ≤ 11) :
    Calls Try.prog 131 #[.int .i64 n] w fun e w' => e = .returned (.int .i64 (n % 4)) ∧ w = w' := by
  go_enter Try.func131, Try.ntmps131
  go_wp2
  go_ret
  exact ⟨rfl, rfl⟩

set_option maxRecDepth 100000 in
set_option maxHeartbeats 1000000 in
theorem shape_impl_1_0 (n : Int) (A B : Option Addr) (pl c kl d : Nat) (w : World) (hpl : pl ≤ 1099511627776) (hkl : kl ≤ 9223372036854775807) (h0 : atomB n = false) :
    Calls Try.prog 110 #[.agg #[.int .i64 1, .int .i64 n, .slice A pl c, .slice B kl d]] w fun e w' => e = .returned (.bool false) ∧ Below w.heap.size w w' := by
  have hb0 : Below w.heap.size w (w.alloc (.cells #[.int .i64 1, .int .i64 n, .slice A pl c, .slice B kl d] 31)) := (Below.refl _ _).alloc (Nat.le_refl _) _
  have ca := fun W => isAtom_any n W
  rw [h0] at ca
  clear h0
  go_enter Try.func110, Try.ntmps110
  go_wp2_with (first | (go_at_call 120; refine (ca _).mono ?_; rintro e w' ⟨rfl, rfl⟩))
  go_ret
  exact ⟨rfl, hb0⟩

set_option maxRecDepth 100000 in
set_option maxHeartbeats 1000000 in
theorem shape_impl_1_1 (n : Int) (A B : Option Addr) (pl c kl d : Nat) (w : World) (hpl : pl ≤ 1099511627776) (hkl : kl ≤ 9223372036854775807) (h0 : atomB n = true) (h1 : ¬ pl = 0) :
    Calls Try.prog 110 #[.agg #[.int .i64 1, .int .i64 n, .slice A pl c, .slice B kl d]] w fun e w' => e = .returned (.bool false) ∧ Below w.heap.size w w' := by
  have hb0 : Below w.heap.size w (w.alloc (.cells #[.int .i64 1, .int .i64 n, .slice A pl c, .slice B kl d] 31)) := (Below.refl _ _).alloc (Nat.le_refl _) _
  have ca := fun W => isAtom_any n W
  rw [h0] at ca
  have tp : ((pl : Int) == 0) = false := by simp; omega
  clear h0 h1
  go_enter Try.func110, Try.ntmps110
  go_wp2_with (first | (go_at_call 120; refine (ca _).mono ?_; rintro e w' ⟨rfl, rfl⟩))
  go_ret
  exact ⟨rfl, hb0⟩

set_option maxRecDepth 100000 in
set_option maxHeartbeats 1000000 in
theorem shape_impl_1_2 (n : Int) (A B : Option Addr) (pl c kl d : Nat) (w : World) (hpl : pl ≤ 1099511627776) (hkl : kl ≤ 9223372036854775807) (h0 : atomB n = true) (h1 :  pl = 0) (h2 : ¬ kl = 0) :
    Calls Try.prog 110 #[.agg #[.int .i64 1, .int .i64 n, .slice A pl c, .slice B kl d]] w fun e w' => e = .returned (.bool false) ∧ Below w.heap.size w w' := by
  have hb0 : Below w.heap.size w (w.alloc (.cells #[.int .i64 1, .int .i64 n, .slice A pl c, .slice B kl d] 31)) := (Below.refl _ _).alloc (Nat.le_refl _) _
  have ca := fun W => isAtom_any n W
  rw [h0] at ca
  subst h1
  have tk : ((kl : Int) == 0) = false := by simp; omega
  clear h0 h2
  go_enter Try.func110, Try.ntmps110
  go_wp2_with (first | (go_at_call 120; refine (ca _).mono ?_; rintro e w' ⟨rfl, rfl⟩))
  go_ret
  exact ⟨rfl, hb0⟩

set_option maxRecDepth 100000 in
set_option maxHeartbeats 1000000 in
theorem shape_impl_1_3 (n : Int) (A B : Option Addr) (pl c kl d : Nat) (w : World) (hpl : pl ≤ 1099511627776) (hkl : kl ≤ 9223372036854775807) (h0 : atomB n = true) (h1 :  pl = 0) (h2 :  kl = 0) :
    Calls Try.prog 110 #[.agg #[.int .i64 1, .int .i64 n, .slice A pl c, .slice B kl d]] w fun e w' => e = .returned (.bool true) ∧ Below w.heap.size w w' := by
  have hb0 : Below w.heap.size w (w.alloc (.cells #[.int .i64 1, .int .i64 n, .slice A pl c, .slice B kl d] 31)) := (Below.refl _ _).alloc (Nat.le_refl _) _
  have ca := fun W => isAtom_any n W
  rw [h0] at ca
  subst h1
  subst h2
  clear h0
  go_enter Try.func110, Try.ntmps110
  go_wp2_with (first | (go_at_call 120; refine (ca _).mono ?_; rintro e w' ⟨rfl, rfl⟩))
  go_ret
  exact ⟨rfl, hb0⟩

set_option maxRecDepth 100000 in
set_option maxHeartbeats 1000000 in
theorem shape_impl_2_0 (n : Int) (A B : Option Addr) (pl c kl d : Nat) (w : World) (hpl : pl ≤ 1099511627776) (hkl : kl ≤ 9223372036854775807) (h0 : ¬ (0 ≤ n ∧ n ≤ 11)) :
    Calls Try.prog 110 #[.agg #[.int .i64 2, .int .i64 n, .slice A pl c, .slice B kl d]] w fun e w' => e = .returned (.bool false) ∧ Below w.heap.size w w' := by
  have hb0 : Below w.heap.size w (w.alloc (.cells #[.int .i64 2, .int .i64 n, .slice A pl c, .slice B kl d] 31)) := (Below.refl _ _).alloc (Nat.le_refl _) _
  have ca := fun W => isSymbol_any n W
  rw [decide_eq_false h0] at ca
  clear h0
  have b1 : (w.alloc (.cells #[.int .i64 2, .int .i64 n, .slice A pl c, .slice B kl d] 31)).cell? ⟨w.heap.size, 1, none⟩ = some (.int .i64 n) := by
    rw [cell_of_row _ w.heap.size 1 _ _ _ (heap_alloc_new w _)]; rfl
  have q1 := fun dq os => cell_regrown b1 dq os
  have b2 : (w.alloc (.cells #[.int .i64 2, .int .i64 n, .slice A pl c, .slice B kl d] 31)).cell? ⟨w.heap.size, 2, none⟩ = some (.slice A pl c) := by
    rw [cell_of_row _ w.heap.size 2 _ _ _ (heap_alloc_new w _)]; rfl
  have q2 := fun dq os => cell_regrown b2 dq os
  have b3 : (w.alloc (.cells #[.int .i64 2, .int .i64 n, .slice A pl c, .slice B kl d] 31)).cell? ⟨w.heap.size, 3, none⟩ = some (.slice B kl d) := by
    rw [cell_of_row _ w.heap.size 3 _ _ _ (heap_alloc_new w _)]; rfl
  have q3 := fun dq os => cell_regrown b3 dq os
  have rca := fun dq os => Calls.regrown_of ((ca (grow (redrawn (w.alloc (.cells #[.int .i64 2, .int .i64 n, .slice A pl c, .slice B kl d] 31)) dq) os)).mono fun e w9 (h9 : _ ∧ _) => (⟨h9.1, h9.2 ▸ Below.refl _ _⟩ : _ ∧ Below _ _ w9))
  clear b1 b2 b3 ca
  go_enter Try.func110, Try.ntmps110
  go_wp2
  refine wp_region_quiet_below (by kernel_rfl) (by kernel_rfl) ?_
  repeat (any_goals (first | go_big_quiet_step ((first | (go_at_call 130; exact rca _ _))) | quiet_step ((first | (go_at_call 130; exact rca _ _)))))
  refine wpQuiet_nil ?_
  intro _ hw'
  obtain ⟨⟨dq, osq⟩, hw''⟩ := hw'
  subst hw''
  have hb3 := hb0.trans ((below_regrown _ dq osq).mono hb0.size)
  generalize grow (redrawn (w.alloc (.cells #[.int .i64 2, .int .i64 n, .slice A pl c, .slice B kl d] 31)) dq) osq = w9 at hb3 ⊢
  clear q1 q2 q3 hb0
  go_wp2
  go_ret
  exact ⟨rfl, hb3⟩

set_option maxRecDepth 100000 in
set_option maxHeartbeats 1000000 in
theorem shape_impl_2_1 (n : Int) (A B : Option Addr) (pl c kl d : Nat) (w : World) (hpl : pl ≤ 1099511627776) (hkl : kl ≤ 9223372036854775807) (h0 :  (0 ≤ n ∧ n ≤ 11)) (h1 : ¬ pl = 0) :
    Calls Try.prog 110 #[.agg #[.int .i64 2, .int .i64 n, .slice A pl c, .slice B kl d]] w fun e w' => e = .returned (.bool false) ∧ Below w.heap.size w w' := by
  have hb0 : Below w.heap.size w (w.alloc (.cells #[.int .i64 2, .int .i64 n, .slice A pl c, .slice B kl d] 31)) := (Below.refl _ _).alloc (Nat.le_refl _) _
  have ca := fun W => isSymbol_any n W
  rw [decide_eq_true h0] at ca
  have tp : ((pl : Int) == 0) = false := by simp; omega
  clear h0 h1
  have b1 : (w.alloc (.cells #[.int .i64 2, .int .i64 n, .slice A pl c, .slice B kl d] 31)).cell? ⟨w.heap.size, 1, none⟩ = some (.int .i64 n) := by
    rw [cell_of_row _ w.heap.size 1 _ _ _ (heap_alloc_new w _)]; rfl
  have q1 := fun dq os => cell_regrown b1 dq os
  have b2 : (w.alloc (.cells #[.int .i64 2, .int .i64 n, .slice A pl c, .slice B kl d] 31)).cell? ⟨w.heap.size, 2, none⟩ = some (.slice A pl c) := by
    rw [cell_of_row _ w.heap.size 2 _ _ _ (heap_alloc_new w _)]; rfl
  have q2 := fun dq os => cell_regrown b2 dq os
  have b3 : (w.alloc (.cells #[.int .i64 2, .int .i64 n, .slice A pl c, .slice B kl d] 31)).cell? ⟨w.heap.size, 3, none⟩ = some (.slice B kl d) := by
    rw [cell_of_row _ w.heap.size 3 _ _ _ (heap_alloc_new w _)]; rfl
  have q3 := fun dq os => cell_regrown b3 dq os
  have rca := fun dq os => Calls.regrown_of ((ca (grow (redrawn (w.alloc (.cells #[.int .i64 2, .int .i64 n, .slice A pl c, .slice B kl d] 31)) dq) os)).mono fun e w9 (h9 : _ ∧ _) => (⟨h9.1, h9.2 ▸ Below.refl _ _⟩ : _ ∧ Below _ _ w9))
  clear b1 b2 b3 ca
  go_enter Try.func110, Try.ntmps110
  go_wp2
  refine wp_region_quiet_below (by kernel_rfl) (by kernel_rfl) ?_
  repeat (any_goals (first | go_big_quiet_step ((first | (go_at_call 130; exact rca _ _))) | quiet_step ((first | (go_at_call 130; exact rca _ _)))))
  refine wpQuiet_nil ?_
  intro _ hw'
  obtain ⟨⟨dq, osq⟩, hw''⟩ := hw'
  subst hw''
  have hb3 := hb0.trans ((below_regrown _ dq osq).mono hb0.size)
  generalize grow (redrawn (w.alloc (.cells #[.int .i64 2, .int .i64 n, .slice A pl c, .slice B kl d] 31)) dq) osq = w9 at hb3 ⊢
  clear q1 q2 q3 hb0
  go_wp2
  go_ret
  exact ⟨rfl, hb3⟩

set_option maxRecDepth 100000 in
set_option maxHeartbeats 1000000 in
theorem shape_impl_2_2 (n : Int) (A B : Option Addr) (pl c kl d : Nat) (w : World) (hpl : pl ≤ 1099511627776) (hkl : kl ≤ 9223372036854775807) (h0 :  (0 ≤ n ∧ n ≤ 11)) (h1 :  pl = 0) (h2 : ¬ (kl : Int) = n % 4) :
    Calls Try.prog 110 #[.agg #[.int .i64 2, .int .i64 n, .slice A pl c, .slice B kl d]] w fun e w' => e = .returned (.bool false) ∧ Below w.heap.size w w' := by
  have hb0 : Below w.heap.size w (w.alloc (.cells #[.int .i64 2, .int .i64 n, .slice A pl c, .slice B kl d] 31)) := (Below.refl _ _).alloc (Nat.le_refl _) _
  have ca := fun W => isSymbol_any n W
  rw [decide_eq_true h0] at ca
  subst h1
  have ck := fun W => kidsOf_any n W h0.1 h0.2
  have tn : 0 ≤ n := h0.1
  have tk : ((kl : Int) == n % 4) = false := by simp; omega
  clear h0 h2
  have b1 : (w.alloc (.cells #[.int .i64 2, .int .i64 n, .slice A 0 c, .slice B kl d] 31)).cell? ⟨w.heap.size, 1, none⟩ = some (.int .i64 n) := by
    rw [cell_of_row _ w.heap.size 1 _ _ _ (heap_alloc_new w _)]; rfl
  have q1 := fun dq os => cell_regrown b1 dq os
  have b2 : (w.alloc (.cells #[.int .i64 2, .int .i64 n, .slice A 0 c, .slice B kl d] 31)).cell? ⟨w.heap.size, 2, none⟩ = some (.slice A 0 c) := by
    rw [cell_of_row _ w.heap.size 2 _ _ _ (heap_alloc_new w _)]; rfl
  have q2 := fun dq os => cell_regrown b2 dq os
  have b3 : (w.alloc (.cells #[.int .i64 2, .int .i64 n, .slice A 0 c, .slice B kl d] 31)).cell? ⟨w.heap.size, 3, none⟩ = some (.slice B kl d) := by
    rw [cell_of_row _ w.heap.size 3 _ _ _ (heap_alloc_new w _)]; rfl
  have q3 := fun dq os => cell_regrown b3 dq os
  have rca := fun dq os => Calls.regrown_of ((ca (grow (redrawn (w.alloc (.cells #[.int .i64 2, .int .i64 n, .slice A 0 c, .slice B kl d] 31)) dq) os)).mono fun e w9 (h9 : _ ∧ _) => (⟨h9.1, h9.2 ▸ Below.refl _ _⟩ : _ ∧ Below _ _ w9))
  have rck := fun dq os => Calls.regrown_of ((ck (grow (redrawn (w.alloc (.cells #[.int .i64 2, .int .i64 n, .slice A 0 c, .slice B kl d] 31)) dq) os)).mono fun e w9 (h9 : _ ∧ _) => (⟨h9.1, h9.2 ▸ Below.refl _ _⟩ : _ ∧ Below _ _ w9))
  clear b1 b2 b3 ca ck
  go_enter Try.func110, Try.ntmps110
  go_wp2
  refine wp_region_quiet_below (by kernel_rfl) (by kernel_rfl) ?_
  repeat (any_goals (first | go_big_quiet_step ((first | (go_at_call 130; exact rca _ _) | (go_at_call 131; exact rck _ _))) | quiet_step ((first | (go_at_call 130; exact rca _ _) | (go_at_call 131; exact rck _ _)))))
  refine wpQuiet_nil ?_
  intro _ hw'
  obtain ⟨⟨dq, osq⟩, hw''⟩ := hw'
  subst hw''
  have hb3 := hb0.trans ((below_regrown _ dq osq).mono hb0.size)
  generalize grow (redrawn (w.alloc (.cells #[.int .i64 2, .int .i64 n, .slice A 0 c, .slice B kl d] 31)) dq) osq = w9 at hb3 ⊢
  clear q1 q2 q3 hb0
  go_wp2
  go_ret
  exact ⟨rfl, hb3⟩

set_option maxRecDepth 100000 in
set_option maxHeartbeats 1000000 in
theorem shape_impl_2_3 (n : Int) (A B : Option Addr) (pl c kl d : Nat) (w : World) (hpl : pl ≤ 1099511627776) (hkl : kl ≤ 9223372036854775807) (h0 :  (0 ≤ n ∧ n ≤ 11)) (h1 :  pl = 0) (h2 :  (kl : Int) = n % 4) :
    Calls Try.prog 110 #[.agg #[.int .i64 2, .int .i64 n, .slice A pl c, .slice B kl d]] w fun e w' => e = .returned (.bool true) ∧ Below w.heap.size w w' := by
  have hb0 : Below w.heap.size w (w.alloc (.cells #[.int .i64 2, .int .i64 n, .slice A pl c, .slice B kl d] 31)) := (Below.refl _ _).alloc (Nat.le_refl _) _
  have ca := fun W => isSymbol_any n W
  rw [decide_eq_true h0] at ca
  subst h1
  have ck := fun W => kidsOf_any n W h0.1 h0.2
  have tn : 0 ≤ n := h0.1
  have tk : ((kl : Int) == n % 4) = true := by simp; omega
  clear h0 h2
  have b1 : (w.alloc (.cells #[.int .i64 2, .int .i64 n, .slice A 0 c, .slice B kl d] 31)).cell? ⟨w.heap.size, 1, none⟩ = some (.int .i64 n) := by
    rw [cell_of_row _ w.heap.size 1 _ _ _ (heap_alloc_new w _)]; rfl
  have q1 := fun dq os => cell_regrown b1 dq os
  have b2 : (w.alloc (.cells #[.int .i64 2, .int .i64 n, .slice A 0 c, .slice B kl d] 31)).cell? ⟨w.heap.size, 2, none⟩ = some (.slice A 0 c) := by
    rw [cell_of_row _ w.heap.size 2 _ _ _ (heap_alloc_new w _)]; rfl
  have q2 := fun dq os => cell_regrown b2 dq os
  have b3 : (w.alloc (.cells #[.int .i64 2, .int .i64 n, .slice A 0 c, .slice B kl d] 31)).cell? ⟨w.heap.size, 3, none⟩ = some (.slice B kl d) := by
    rw [cell_of_row _ w.heap.size 3 _ _ _ (heap_alloc_new w _)]; rfl
  have q3 := fun dq os => cell_regrown b3 dq os
  have rca := fun dq os => Calls.regrown_of ((ca (grow (redrawn (w.alloc (.cells #[.int .i64 2, .int .i64 n, .slice A 0 c, .slice B kl d] 31)) dq) os)).mono fun e w9 (h9 : _ ∧ _) => (⟨h9.1, h9.2 ▸ Below.refl _ _⟩ : _ ∧ Below _ _ w9))
  have rck := fun dq os => Calls.regrown_of ((ck (grow (redrawn (w.alloc (.cells #[.int .i64 2, .int .i64 n, .slice A 0 c, .slice B kl d] 31)) dq) os)).mono fun e w9 (h9 : _ ∧ _) => (⟨h9.1, h9.2 ▸ Below.refl _ _⟩ : _ ∧ Below _ _ w9))
  clear b1 b2 b3 ca ck
  go_enter Try.func110, Try.ntmps110
  go_wp2
  refine wp_region_quiet_below (by kernel_rfl) (by kernel_rfl) ?_
  repeat (any_goals (first | go_big_quiet_step ((first | (go_at_call 130; exact rca _ _) | (go_at_call 131; exact rck _ _))) | quiet_step ((first | (go_at_call 130; exact rca _ _) | (go_at_call 131; exact rck _ _)))))
  refine wpQuiet_nil ?_
  intro _ hw'
  obtain ⟨⟨dq, osq⟩, hw''⟩ := hw'
  subst hw''
  have hb3 := hb0.trans ((below_regrown _ dq osq).mono hb0.size)
  generalize grow (redrawn (w.alloc (.cells #[.int .i64 2, .int .i64 n, .slice A 0 c, .slice B kl d] 31)) dq) osq = w9 at hb3 ⊢
  clear q1 q2 q3 hb0
  go_wp2
  go_ret
  exact ⟨rfl, hb3⟩

set_option maxRecDepth 100000 in
set_option maxHeartbeats 1000000 in
theorem shape_impl_3_0 (n : Int) (A B : Option Addr) (pl c kl d : Nat) (w : World) (hpl : pl ≤ 1099511627776) (hkl : kl ≤ 9223372036854775807) (h0 : atomB n = false) :
    Calls Try.prog 110 #[.agg #[.int .i64 3, .int .i64 n, .slice A pl c, .slice B kl d]] w fun e w' => e = .returned (.bool false) ∧ Below w.heap.size w w' := by
  have hb0 : Below w.heap.size w (w.alloc (.cells #[.int .i64 3, .int .i64 n, .slice A pl c, .slice B kl d] 31)) := (Below.refl _ _).alloc (Nat.le_refl _) _
  have ca := fun W => isAtom_any n W
  rw [h0] at ca
  clear h0
  go_enter Try.func110, Try.ntmps110
  go_wp2_with (first | (go_at_call 120; refine (ca _).mono ?_; rintro e w' ⟨rfl, rfl⟩))
  go_ret
  exact ⟨rfl, hb0⟩

set_option maxRecDepth 100000 in
set_option maxHeartbeats 1000000 in
theorem shape_impl_3_1 (n : Int) (A B : Option Addr) (pl c kl d : Nat) (w : World) (hpl : pl ≤ 1099511627776) (hkl : kl ≤ 9223372036854775807) (h0 : atomB n = true) (h1 : ¬ pl = 0) :
    Calls Try.prog 110 #[.agg #[.int .i64 3, .int .i64 n, .slice A pl c, .slice B kl d]] w fun e w' => e = .returned (.bool false) ∧ Below w.heap.size w w' := by
  have hb0 : Below w.heap.size w (w.alloc (.cells #[.int .i64 3, .int .i64 n, .slice A pl c, .slice B kl d] 31)) := (Below.refl _ _).alloc (Nat.le_refl _) _
  have ca := fun W => isAtom_any n W
  rw [h0] at ca
  have tp : ((pl : Int) == 0) = false := by simp; omega
  clear h0 h1
  go_enter Try.func110, Try.ntmps110
  go_wp2_with (first | (go_at_call 120; refine (ca _).mono ?_; rintro e w' ⟨rfl, rfl⟩))
  go_ret
  exact ⟨rfl, hb0⟩

set_option maxRecDepth 100000 in
set_option maxHeartbeats 1000000 in
theorem shape_impl_3_2 (n : Int) (A B : Option Addr) (pl c kl d : Nat) (w : World) (hpl : pl ≤ 1099511627776) (hkl : kl ≤ 9223372036854775807) (h0 : atomB n = true) (h1 :  pl = 0) (h2 : ¬ kl = 1) :
    Calls Try.prog 110 #[.agg #[.int .i64 3, .int .i64 n, .slice A pl c, .slice B kl d]] w fun e w' => e = .returned (.bool false) ∧ Below w.heap.size w w' := by
  have hb0 : Below w.heap.size w (w.alloc (.cells #[.int .i64 3, .int .i64 n, .slice A pl c, .slice B kl d] 31)) := (Below.refl _ _).alloc (Nat.le_refl _) _
  have ca := fun W => isAtom_any n W
  rw [h0] at ca
  subst h1
  have tk : ((kl : Int) == 1) = false := by simp; omega
  clear h0 h2
  go_enter Try.func110, Try.ntmps110
  go_wp2_with (first | (go_at_call 120; refine (ca _).mono ?_; rintro e w' ⟨rfl, rfl⟩))
  go_ret
  exact ⟨rfl, hb0⟩

set_option maxRecDepth 100000 in
set_option maxHeartbeats 1000000 in
theorem shape_impl_3_3 (n : Int) (A B : Option Addr) (pl c kl d : Nat) (w : World) (hpl : pl ≤ 1099511627776) (hkl : kl ≤ 9223372036854775807) (h0 : atomB n = true) (h1 :  pl = 0) (h2 :  kl = 1) :
    Calls Try.prog 110 #[.agg #[.int .i64 3, .int .i64 n, .slice A pl c, .slice B kl d]] w fun e w' => e = .returned (.bool true) ∧ Below w.heap.size w w' := by
  have hb0 : Below w.heap.size w (w.alloc (.cells #[.int .i64 3, .int .i64 n, .slice A pl c, .slice B kl d] 31)) := (Below.refl _ _).alloc (Nat.le_refl _) _
  have ca := fun W => isAtom_any n W
  rw [h0] at ca
  subst h1
  subst h2
  clear h0
  go_enter Try.func110, Try.ntmps110
  go_wp2_with (first | (go_at_call 120; refine (ca _).mono ?_; rintro e w' ⟨rfl, rfl⟩))
  go_ret
  exact ⟨rfl, hb0⟩

set_option maxRecDepth 100000 in
set_option maxHeartbeats 1000000 in
theorem shape_impl_4_0 (n : Int) (A B : Option Addr) (pl c kl d : Nat) (w : World) (hpl : pl ≤ 1099511627776) (hkl : kl ≤ 9223372036854775807) (h0 : ¬ (0 ≤ n ∧ n ≤ 9)) :
    Calls Try.prog 110 #[.agg #[.int .i64 4, .int .i64 n, .slice A pl c, .slice B kl d]] w fun e w' => e = .returned (.bool false) ∧ Below w.heap.size w w' := by
  have hb0 : Below w.heap.size w (w.alloc (.cells #[.int .i64 4, .int .i64 n, .slice A pl c, .slice B kl d] 31)) := (Below.refl _ _).alloc (Nat.le_refl _) _
  have ca := fun W => isHole_any n W
  rw [decide_eq_false h0] at ca
  clear h0
  go_enter Try.func110, Try.ntmps110
  go_wp2_with (first | (go_at_call 82; refine (ca _).mono ?_; rintro e w' ⟨rfl, rfl⟩))
  go_ret
  exact ⟨rfl, hb0⟩

set_option maxRecDepth 100000 in
set_option maxHeartbeats 1000000 in
theorem shape_impl_4_1 (n : Int) (A B : Option Addr) (pl c kl d : Nat) (w : World) (hpl : pl ≤ 1099511627776) (hkl : kl ≤ 9223372036854775807) (h0 :  (0 ≤ n ∧ n ≤ 9)) (p : List (Int × Int)) (hlp : p.length = pl) (hA : PairsAt w A p) (h1 : permB p = false) :
    Calls Try.prog 110 #[.agg #[.int .i64 4, .int .i64 n, .slice A pl c, .slice B kl d]] w fun e w' => e = .returned (.bool false) ∧ Below w.heap.size w w' := by
  have hb0 : Below w.heap.size w (w.alloc (.cells #[.int .i64 4, .int .i64 n, .slice A pl c, .slice B kl d] 31)) := (Below.refl _ _).alloc (Nat.le_refl _) _
  have k9 : (w.alloc (.cells #[.int .i64 4, .int .i64 n, .slice A pl c, .slice B kl d] 31)).cell? ⟨w.heap.size, 3, none⟩ = some (.slice B kl d) := by
    rw [cell_of_row _ w.heap.size 3 _ _ _ (heap_alloc_new w _)]; rfl
  have H9 := Lib.hid k9
  clear k9
  have ca := fun W => isHole_any n W
  rw [decide_eq_true h0] at ca
  have cp := fun W hW => isPerm_impl A c p W hW (by omega)
  rw [h1, hlp] at cp
  have cp' := cp _ (hA.below hb0)
  clear h0 h1
  go_enter Try.func110, Try.ntmps110
  go_wp2_with (first | (go_at_call 82; refine (ca _).mono ?_; rintro e w' ⟨rfl, rfl⟩) | (go_at_call 132; refine cp'.mono ?_; rintro e w2 ⟨rfl, hb2⟩; have hb9 := hb0.trans (hb2.mono hb0.size); have hs9 := (hb2.cell (p := ⟨w.heap.size, 3, none⟩) (by simp)).trans H9.out))
  go_ret
  exact ⟨rfl, hb9⟩

set_option maxRecDepth 100000 in
set_option maxHeartbeats 1000000 in
theorem shape_impl_4_2 (n : Int) (A B : Option Addr) (pl c kl d : Nat) (w : World) (hpl : pl ≤ 1099511627776) (hkl : kl ≤ 9223372036854775807) (h0 :  (0 ≤ n ∧ n ≤ 9)) (p : List (Int × Int)) (hlp : p.length = pl) (hA : PairsAt w A p) (h1 : permB p = true) (h2 : ¬ kl = 0) :
    Calls Try.prog 110 #[.agg #[.int .i64 4, .int .i64 n, .slice A pl c, .slice B kl d]] w fun e w' => e = .returned (.bool false) ∧ Below w.heap.size w w' := by
  have hb0 : Below w.heap.size w (w.alloc (.cells #[.int .i64 4, .int .i64 n, .slice A pl c, .slice B kl d] 31)) := (Below.refl _ _).alloc (Nat.le_refl _) _
  have k9 : (w.alloc (.cells #[.int .i64 4, .int .i64 n, .slice A pl c, .slice B kl d] 31)).cell? ⟨w.heap.size, 3, none⟩ = some (.slice B kl d) := by
    rw [cell_of_row _ w.heap.size 3 _ _ _ (heap_alloc_new w _)]; rfl
  have H9 := Lib.hid k9
  clear k9
  have ca := fun W => isHole_any n W
  rw [decide_eq_true h0] at ca
  have cp := fun W hW => isPerm_impl A c p W hW (by omega)
  rw [h1, hlp] at cp
  have cp' := cp _ (hA.below hb0)
  have tk : ((kl : Int) == 0) = false := by simp; omega
  clear h0 h1 h2
  go_enter Try.func110, Try.ntmps110
  go_wp2_with (first | (go_at_call 82; refine (ca _).mono ?_; rintro e w' ⟨rfl, rfl⟩) | (go_at_call 132; refine cp'.mono ?_; rintro e w2 ⟨rfl, hb2⟩; have hb9 := hb0.trans (hb2.mono hb0.size); have hs9 := (hb2.cell (p := ⟨w.heap.size, 3, none⟩) (by simp)).trans H9.out))
  go_ret
  exact ⟨rfl, hb9⟩

set_option maxRecDepth 100000 in
set_option maxHeartbeats 1000000 in
theorem shape_impl_4_3 (n : Int) (A B : Option Addr) (pl c kl d : Nat) (w : World) (hpl : pl ≤ 1099511627776) (hkl : kl ≤ 9223372036854775807) (h0 :  (0 ≤ n ∧ n ≤ 9)) (p : List (Int × Int)) (hlp : p.length = pl) (hA : PairsAt w A p) (h1 : permB p = true) (h2 :  kl = 0) :
    Calls Try.prog 110 #[.agg #[.int .i64 4, .int .i64 n, .slice A pl c, .slice B kl d]] w fun e w' => e = .returned (.bool true) ∧ Below w.heap.size w w' := by
  have hb0 : Below w.heap.size w (w.alloc (.cells #[.int .i64 4, .int .i64 n, .slice A pl c, .slice B kl d] 31)) := (Below.refl _ _).alloc (Nat.le_refl _) _
  have k9 : (w.alloc (.cells #[.int .i64 4, .int .i64 n, .slice A pl c, .slice B kl d] 31)).cell? ⟨w.heap.size, 3, none⟩ = some (.slice B kl d) := by
    rw [cell_of_row _ w.heap.size 3 _ _ _ (heap_alloc_new w _)]; rfl
  have H9 := Lib.hid k9
  clear k9
  have ca := fun W => isHole_any n W
  rw [decide_eq_true h0] at ca
  have cp := fun W hW => isPerm_impl A c p W hW (by omega)
  rw [h1, hlp] at cp
  have cp' := cp _ (hA.below hb0)
  subst h2
  clear h0 h1
  go_enter Try.func110, Try.ntmps110
  go_wp2_with (first | (go_at_call 82; refine (ca _).mono ?_; rintro e w' ⟨rfl, rfl⟩) | (go_at_call 132; refine cp'.mono ?_; rintro e w2 ⟨rfl, hb2⟩; have hb9 := hb0.trans (hb2.mono hb0.size); have hs9 := (hb2.cell (p := ⟨w.heap.size, 3, none⟩) (by simp)).trans H9.out))
  go_ret
  exact ⟨rfl, hb9⟩

set_option maxRecDepth 100000 in
theorem shape_impl_0 (o n : Int) (A B : Option Addr) (pl c kl d : Nat) (w : World) (h1 : ¬ o = 1) (h2 : ¬ o = 2) (h3 : ¬ o = 3) (h4 : ¬ o = 4) :
    Calls Try.prog 110 #[.agg #[.int .i64 o, .int .i64 n, .slice A pl c, .slice B kl d]] w fun e w' => e = .returned (.bool false) ∧ Below w.heap.size w w' := by
  have hb0 : Below w.heap.size w (w.alloc (.cells #[.int .i64 o, .int .i64 n, .slice A pl c, .slice B kl d] 31)) := (Below.refl _ _).alloc (Nat.le_refl _) _
  have t1 : (o == 1) = false := by simpa using h1
  have t2 : (o == 2) = false := by simpa using h2
  have t3 : (o == 3) = false := by simpa using h3
  have t4 : (o == 4) = false := by simpa using h4
  clear h1 h2 h3 h4
  go_enter Try.func110, Try.ntmps110
  go_wp2
  go_ret
  exact ⟨rfl, hb0⟩

theorem shape_impl_any (t : Tm) (x : Value) (w : World) (hx : TmIn w x t) (hpl : t.perm.length ≤ 1048576) (hkl : t.kids.length ≤ 1048576) :
    Calls Try.prog 110 #[x] w fun e w' => e = .returned (.bool (shapeB t)) ∧ Below w.heap.size w w' := by
  obtain ⟨A, c, kv, rfl, hp, hk⟩ := hx
  obtain ⟨B, d, rfl⟩ := hk.form
  unfold shapeB
  by_cases o1 : t.op = 1
  · rw [if_pos o1, o1]
    by_cases h0 : atomB t.num = true
    · by_cases h1 : t.perm.length = 0
      · by_cases h2 : t.kids.length = 0
        · rw [h0, decide_eq_true h1, decide_eq_true h2]; exact shape_impl_1_3 _ _ _ _ _ _ _ w (by omega) (by omega) h0 h1 h2
        · rw [h0, decide_eq_true h1, decide_eq_false h2]; exact shape_impl_1_2 _ _ _ _ _ _ _ w (by omega) (by omega) h0 h1 h2
      · rw [h0, decide_eq_false h1]; exact shape_impl_1_1 _ _ _ _ _ _ _ w (by omega) (by omega) h0 h1
    · rw [Bool.not_eq_true] at h0; rw [h0]; exact shape_impl_1_0 _ _ _ _ _ _ _ w (by omega) (by omega) h0
  · rw [if_neg o1]
    by_cases o2 : t.op = 2
    · rw [if_pos o2, o2]
      by_cases h0 : 0 ≤ t.num ∧ t.num ≤ 11
      · by_cases h1 : t.perm.length = 0
        · by_cases h2 : (t.kids.length : Int) = t.num % 4
          · rw [decide_eq_true h0, decide_eq_true h1, decide_eq_true h2]; exact shape_impl_2_3 _ _ _ _ _ _ _ w (by omega) (by omega) h0 h1 h2
          · rw [decide_eq_true h0, decide_eq_true h1, decide_eq_false h2]; exact shape_impl_2_2 _ _ _ _ _ _ _ w (by omega) (by omega) h0 h1 h2
        · rw [decide_eq_true h0, decide_eq_false h1]; exact shape_impl_2_1 _ _ _ _ _ _ _ w (by omega) (by omega) h0 h1
      · rw [decide_eq_false h0]; exact shape_impl_2_0 _ _ _ _ _ _ _ w (by omega) (by omega) h0
    · rw [if_neg o2]
      by_cases o3 : t.op = 3
      · rw [if_pos o3, o3]
        by_cases h0 : atomB t.num = true
        · by_cases h1 : t.perm.length = 0
          · by_cases h2 : t.kids.length = 1
            · rw [h0, decide_eq_true h1, decide_eq_true h2]; exact shape_impl_3_3 _ _ _ _ _ _ _ w (by omega) (by omega) h0 h1 h2
            · rw [h0, decide_eq_true h1, decide_eq_false h2]; exact shape_impl_3_2 _ _ _ _ _ _ _ w (by omega) (by omega) h0 h1 h2
          · rw [h0, decide_eq_false h1]; exact shape_impl_3_1 _ _ _ _ _ _ _ w (by omega) (by omega) h0 h1
        · rw [Bool.not_eq_true] at h0; rw [h0]; exact shape_impl_3_0 _ _ _ _ _ _ _ w (by omega) (by omega) h0
      · rw [if_neg o3]
        by_cases o4 : t.op = 4
        · rw [if_pos o4, o4]
          by_cases h0 : 0 ≤ t.num ∧ t.num ≤ 9
          · by_cases h1 : permB t.perm = true
            · by_cases h2 : t.kids.length = 0
              · rw [decide_eq_true h0, h1, decide_eq_true h2]; exact shape_impl_4_3 _ _ _ _ _ _ _ w (by omega) (by omega) h0 _ rfl hp h1 h2
              · rw [decide_eq_true h0, h1, decide_eq_false h2]; exact shape_impl_4_2 _ _ _ _ _ _ _ w (by omega) (by omega) h0 _ rfl hp h1 h2
            · rw [Bool.not_eq_true] at h1; rw [decide_eq_true h0, h1]; exact shape_impl_4_1 _ _ _ _ _ _ _ w (by omega) (by omega) h0 _ rfl hp h1
          · rw [decide_eq_false h0]; exact shape_impl_4_0 _ _ _ _ _ _ _ w (by omega) (by omega) h0
        · rw [if_neg o4]
          exact shape_impl_0 _ _ _ _ _ _ _ _ w o1 o2 o3 o4

end Go.Proofs.Ytnomidnjglbedaa
