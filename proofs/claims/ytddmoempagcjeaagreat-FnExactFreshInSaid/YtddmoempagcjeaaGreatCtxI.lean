/-
  Whether a list of elements is a context, as the program decides it: a contract.
-/
import Derived.Test.YtddmoempagcjeaaGreatCmpF
import Derived.Test.YtddmoempagcjeaaGreatFrs
import Derived.Test.YtddmoempagcjeaaGreatOrder
namespace Go.Proofs.YtddmoempagcjeaaGreat
open Go.RowKit Go.Sort
set_option linter.unusedVariables false

def holeB (n : Int) : Bool := decide (0 ≤ n ∧ n ≤ 9)
def lessB (x y : Int × Int) : Bool := decide (x.2 < y.2 ∨ (x.2 = y.2 ∧ x.1 < y.1))

theorem cmpI_three (a b : Int) : (a < b ∧ cmpI a b = -1) ∨ (a = b ∧ cmpI a b = 0) ∨ (b < a ∧ cmpI a b = 1) := by
  unfold cmpI
  by_cases h : a < b
  · rw [if_pos h]; exact Or.inl ⟨h, rfl⟩
  · rw [if_neg h]
    by_cases h' : b < a
    · rw [if_pos h']; exact Or.inr (Or.inr ⟨h', rfl⟩)
    · rw [if_neg h']; exact Or.inr (Or.inl ⟨by omega, rfl⟩)

theorem orZ_two (a b : Int) : (a = 0 ∧ orZ a b = b) ∨ (a ≠ 0 ∧ orZ a b = a) := by
  unfold orZ
  by_cases h : a = 0
  · rw [if_pos h]; exact Or.inl ⟨h, rfl⟩
  · rw [if_neg h]; exact Or.inr ⟨h, rfl⟩

theorem cmpF_less (x y : Int × Int) : (lessB x y = true ↔ cmpF x y < 0) := by
  simp only [lessB, cmpF, decide_eq_true_eq]
  have h1 := cmpI_three x.2 y.2
  have h2 := cmpI_three x.1 y.1
  have h3 := orZ_two (cmpI x.2 y.2) (cmpI x.1 y.1)
  omega

/-- What is asked of the element at a place. -/
def ctxAt (l : List (Int × Int)) (i : Nat) : Bool :=
  atomB (prAt l i).1 && (holeB (prAt l i).2 && (decide (i = 0) || lessB (prAt l (i - 1)) (prAt l i)))

def rightB (l : List (Int × Int)) : Bool := (List.range l.length).all (ctxAt l)
/-- Whether a list of elements is a context. -/
def ctxB (l : List (Int × Int)) : Bool := decide (l.length ≤ 40) && rightB l

theorem rightB_no {l : List (Int × Int)} {i : Nat} (hi : i < l.length) (h : ctxAt l i = false) : rightB l = false := by
  unfold rightB
  rw [List.all_eq_false]
  exact ⟨i, List.mem_range.2 hi, by simp [h]⟩

theorem rightB_yes {l : List (Int × Int)} (h : ∀ j, j < l.length → ctxAt l j = true) : rightB l = true := by
  unfold rightB
  rw [List.all_eq_true]
  exact fun x hx => h x (List.mem_range.1 hx)

theorem ctx_next {p : Nat → Bool} {k : Nat} (h : ∀ j, j < k → p j = true) (hk : p k = true) : ∀ j, j < k + 1 → p j = true := by
  intro j hj
  by_cases e : j = k
  · rw [e]; exact hk
  · exact h j (by omega)

theorem isHole_c (n : Int) (w : World) :
    Calls Tryz.prog 105 #[.int .i64 n] w fun e w' => e = .returned (.bool (holeB n)) ∧ w = w' := by
  by_cases h1 : 0 ≤ n
  · by_cases h2 : n ≤ 9
    · go_enter Tryz.func105, Tryz.ntmps105
      go_wp2
      go_ret
      exact ⟨bool_end (by simp [holeB, h1, h2]), rfl⟩
    · have k2 : decide (n ≤ 9) = false := by simpa using h2
      have k3 : 9 < n := by omega
      clear h2
      go_enter Tryz.func105, Tryz.ntmps105
      go_wp2
      go_ret
      exact ⟨bool_end (by simp [holeB]; omega), rfl⟩
  · have k1 : n < 0 := by omega
    clear h1
    go_enter Tryz.func105, Tryz.ntmps105
    go_wp2
    go_ret
    exact ⟨bool_end (by simp [holeB]; omega), rfl⟩

theorem compareFresh_b (x y : Int × Int) (w : World) :
    Calls Tryz.prog 83 #[.agg #[.int .i64 x.1, .int .i64 x.2], .agg #[.int .i64 y.1, .int .i64 y.2]] w
      fun e w' => e = .returned (.int .i64 (cmpF x y)) ∧ Below w.heap.size w w' := by
  refine (compareFresh_any x y w).mono ?_
  rintro e w' ⟨rfl, q, os, rfl⟩
  exact ⟨rfl, below_regrown w _ os⟩

set_option maxRecDepth 100000 in
set_option maxHeartbeats 2000000 in
theorem isContext_impl (A : Option Addr) (c : Nat) (l : List (Int × Int)) (w : World) (hA : PairsAt w A l) (hl : l.length ≤ 1099511627776) :
    Calls Tryz.prog 67 #[.slice A l.length c] w fun e w' => e = .returned (.bool (ctxB l)) ∧ Below w.heap.size w w' := by
  by_cases h40 : l.length ≤ 40
  case neg =>
    have k0 : 40 < (l.length : Int) := by omega
    have hn : Hid (ctxB l = false) := by show ctxB l = false; unfold ctxB; simp [h40]
    go_enter Tryz.func67, Tryz.ntmps67
    go_wp2
    go_ret
    exact ⟨bool_end hn.out.symm, Below.refl _ _⟩
  have k0 : ¬ 40 < (l.length : Int) := by omega
  have hcl : Hid (ctxB l = rightB l) := by show ctxB l = rightB l; unfold ctxB; simp [h40]
  rw [hcl.out]
  clear hcl
  go_enter Tryz.func67, Tryz.ntmps67
  go_wp2
  go_loopw [10] (fun i wr => ∃ k : Nat, k ≤ l.length ∧ i = .int .i64 k ∧ Hid (∀ j, j < k → ctxAt l j = true) ∧ Below w.heap.size w wr) (fun i _ => l.length - (intOf i).toNat)
  case atStart => exact ⟨0, Nat.zero_le _, rfl, fun j hj => absurd hj (by omega), Below.refl _ _⟩
  case round =>
    obtain ⟨k, hk, rfl, hq, hb⟩ := hrel
    by_cases hlt : k < l.length
    · obtain ⟨b1, o1, rfl, hb1, hc1⟩ := hA (by omega)
      obtain ⟨c1, c2⟩ := hc1 k hlt
      rw [← hb.cell (p := ⟨b1, _, none⟩) hb1] at c1 c2
      have hbs := hb.size
      by_cases hbad : (atomB (prAt l k).1 && holeB (prAt l k).2) = false
      · have hn : Hid (rightB l = false) := rightB_no hlt (by
          unfold ctxAt
          revert hbad
          cases atomB (prAt l k).1 <;> cases holeB (prAt l k).2 <;> simp)
        have hbW : Below w.heap.size w (wr.alloc (.cells #[.int .i64 (prAt l k).1, .int .i64 (prAt l k).2] 55)) := hb.alloc hb.size _
        generalize prAt l k = p1 at c1 c2 hbad hbW
        clear hq hc1 hA
        by_cases ha1 : atomB p1.1 = true
        · have ha2 : holeB p1.2 = false := by revert hbad; rw [ha1]; simp
          clear hbad
          go_wp2_with (first | (go_at_call 65; refine (isAtom_any _ _).mono ?_; rintro e w' ⟨rfl, rfl⟩) | (go_at_call 105; refine (isHole_c _ _).mono ?_; rintro e w' ⟨rfl, rfl⟩))
          go_ret
          exact ⟨bool_end hn.out.symm, hbW⟩
        · have ha1' : atomB p1.1 = false := by simpa using ha1
          clear hbad ha1
          go_wp2_with (first | (go_at_call 65; refine (isAtom_any _ _).mono ?_; rintro e w' ⟨rfl, rfl⟩) | (go_at_call 105; refine (isHole_c _ _).mono ?_; rintro e w' ⟨rfl, rfl⟩))
          go_ret
          exact ⟨bool_end hn.out.symm, hbW⟩
      · have ha1 : atomB (prAt l k).1 = true := by revert hbad; cases atomB (prAt l k).1 <;> simp
        have ha2 : holeB (prAt l k).2 = true := by revert hbad; cases holeB (prAt l k).2 <;> simp
        clear hbad
        by_cases hz : k = 0
        · subst hz
          have hn : Hid (∀ q, q < 0 + 1 → ctxAt l q = true) := ctx_next hq.out (by simp [ctxAt, ha1, ha2])
          rw [Nat.zero_mul, Nat.add_zero] at c1 c2
          generalize prAt l 0 = p1 at c1 c2 ha1 ha2
          clear hq hc1 hA
          go_wp2_with (first | (go_at_call 65; refine (isAtom_any _ _).mono ?_; rintro e w' ⟨rfl, rfl⟩) | (go_at_call 105; refine (isHole_c _ _).mono ?_; rintro e w' ⟨rfl, rfl⟩))
          have hbW : Below w.heap.size w (wr.alloc (.cells #[.int .i64 p1.1, .int .i64 p1.2] 55)) := hb.alloc hb.size _
          generalize wr.alloc (.cells #[.int .i64 p1.1, .int .i64 p1.2] 55) = W1 at hbW ⊢
          clear c1 c2
          refine wp_region_quiet_below (by kernel_rfl) (by kernel_rfl) ?_
          repeat (any_goals (first | go_big_quiet_step (fail) | quiet_step (fail)))
          refine wpQuiet_nil ?_
          intro _ hw'
          obtain ⟨⟨dq, osq⟩, hw''⟩ := hw'
          subst hw''
          have hb3 := hbW.trans ((below_regrown W1 dq osq).mono hbW.size)
          generalize grow (redrawn W1 dq) osq = w2 at hb3 ⊢
          clear hbW
          go_wp2
          refine ⟨⟨0 + 1, by omega, by go_num, hn, hb3⟩, ?_⟩
          simp only [intOf]
          omega
        · obtain ⟨j, rfl⟩ : ∃ j, k = j + 1 := ⟨k - 1, by omega⟩
          obtain ⟨c3, c4⟩ := hc1 j (by omega)
          rw [← hb.cell (p := ⟨b1, _, none⟩) hb1] at c3 c4
          clear hc1 hA hz
          by_cases hp : lessB (prAt l j) (prAt l (j + 1)) = true
          · have hn : Hid (∀ q, q < j + 1 + 1 → ctxAt l q = true) := ctx_next hq.out (by simp [ctxAt, ha1, ha2, hp])
            have hr : cmpF (prAt l j) (prAt l (j + 1)) < 0 := (cmpF_less _ _).1 hp
            have hcmp := fun W => compareFresh_b (prAt l j) (prAt l (j + 1)) W
            clear hp
            generalize prAt l (j + 1) = p1 at c1 c2 ha1 ha2 hr hcmp
            generalize prAt l j = p2 at c3 c4 hr hcmp
            generalize cmpF p2 p1 = r at hr hcmp
            clear hq
            go_wp2_with (first | (go_at_call 65; refine (isAtom_any _ _).mono ?_; rintro e w' ⟨rfl, rfl⟩) | (go_at_call 105; refine (isHole_c _ _).mono ?_; rintro e w' ⟨rfl, rfl⟩))
            have d0 : (wr.alloc (.cells #[.int .i64 p1.1, .int .i64 p1.2] 55)).cell? ⟨wr.heap.size, 0, none⟩ = some (.int .i64 p1.1) := by simp
            have d1 : (wr.alloc (.cells #[.int .i64 p1.1, .int .i64 p1.2] 55)).cell? ⟨wr.heap.size, 1, none⟩ = some (.int .i64 p1.2) := by simp
            have d3 : (wr.alloc (.cells #[.int .i64 p1.1, .int .i64 p1.2] 55)).cell? ⟨b1, o1 + j * 2, none⟩ = some (.int .i64 p2.1) := by
              rw [World.cell?_alloc_lt _ _ _ (by show b1 < _; omega)]; exact c3
            have d4 : (wr.alloc (.cells #[.int .i64 p1.1, .int .i64 p1.2] 55)).cell? ⟨b1, o1 + j * 2 + 1, none⟩ = some (.int .i64 p2.2) := by
              rw [World.cell?_alloc_lt _ _ _ (by show b1 < _; omega)]; exact c4
            have hbW : Below w.heap.size w (wr.alloc (.cells #[.int .i64 p1.1, .int .i64 p1.2] 55)) := hb.alloc hb.size _
            generalize wr.alloc (.cells #[.int .i64 p1.1, .int .i64 p1.2] 55) = W1 at d0 d1 d3 d4 hbW ⊢
            have q0 := fun d os => cell_regrown d0 d os
            have q1 := fun d os => cell_regrown d1 d os
            have q3 := fun d os => cell_regrown d3 d os
            have q4 := fun d os => cell_regrown d4 d os
            clear c1 c2 c3 c4 d0 d1 d3 d4
            refine wp_region_quiet_below (by kernel_rfl) (by kernel_rfl) ?_
            repeat (any_goals (first | go_big_quiet_step ((go_at_call 83; exact Calls.regrown_of (hcmp _))) | quiet_step ((go_at_call 83; exact Calls.regrown_of (hcmp _)))))
            refine wpQuiet_nil ?_
            intro _ hw'
            obtain ⟨⟨dq, osq⟩, hw''⟩ := hw'
            subst hw''
            have hb3 := hbW.trans ((below_regrown W1 dq osq).mono hbW.size)
            generalize grow (redrawn W1 dq) osq = w2 at hb3 ⊢
            clear q0 q1 q3 q4 hbW hcmp
            go_wp2
            refine ⟨⟨j + 1 + 1, by omega, by go_num, hn, hb3⟩, ?_⟩
            simp only [intOf]
            omega
          · have hn : Hid (rightB l = false) := rightB_no hlt (by simp [ctxAt, hp])
            have hr : 0 ≤ cmpF (prAt l j) (prAt l (j + 1)) := by
              rcases Int.lt_or_le (cmpF (prAt l j) (prAt l (j + 1))) 0 with h | h
              · exact absurd ((cmpF_less _ _).2 h) hp
              · exact h
            have hcmp := fun W => compareFresh_b (prAt l j) (prAt l (j + 1)) W
            clear hp
            generalize prAt l (j + 1) = p1 at c1 c2 ha1 ha2 hr hcmp
            generalize prAt l j = p2 at c3 c4 hr hcmp
            generalize cmpF p2 p1 = r at hr hcmp
            clear hq
            go_wp2_with (first | (go_at_call 65; refine (isAtom_any _ _).mono ?_; rintro e w' ⟨rfl, rfl⟩) | (go_at_call 105; refine (isHole_c _ _).mono ?_; rintro e w' ⟨rfl, rfl⟩))
            have d0 : (wr.alloc (.cells #[.int .i64 p1.1, .int .i64 p1.2] 55)).cell? ⟨wr.heap.size, 0, none⟩ = some (.int .i64 p1.1) := by simp
            have d1 : (wr.alloc (.cells #[.int .i64 p1.1, .int .i64 p1.2] 55)).cell? ⟨wr.heap.size, 1, none⟩ = some (.int .i64 p1.2) := by simp
            have d3 : (wr.alloc (.cells #[.int .i64 p1.1, .int .i64 p1.2] 55)).cell? ⟨b1, o1 + j * 2, none⟩ = some (.int .i64 p2.1) := by
              rw [World.cell?_alloc_lt _ _ _ (by show b1 < _; omega)]; exact c3
            have d4 : (wr.alloc (.cells #[.int .i64 p1.1, .int .i64 p1.2] 55)).cell? ⟨b1, o1 + j * 2 + 1, none⟩ = some (.int .i64 p2.2) := by
              rw [World.cell?_alloc_lt _ _ _ (by show b1 < _; omega)]; exact c4
            have hbW : Below w.heap.size w (wr.alloc (.cells #[.int .i64 p1.1, .int .i64 p1.2] 55)) := hb.alloc hb.size _
            generalize wr.alloc (.cells #[.int .i64 p1.1, .int .i64 p1.2] 55) = W1 at d0 d1 d3 d4 hbW ⊢
            have q0 := fun d os => cell_regrown d0 d os
            have q1 := fun d os => cell_regrown d1 d os
            have q3 := fun d os => cell_regrown d3 d os
            have q4 := fun d os => cell_regrown d4 d os
            clear c1 c2 c3 c4 d0 d1 d3 d4
            refine wp_region_quiet_below (by kernel_rfl) (by kernel_rfl) ?_
            repeat (any_goals (first | go_big_quiet_step ((go_at_call 83; exact Calls.regrown_of (hcmp _))) | quiet_step ((go_at_call 83; exact Calls.regrown_of (hcmp _)))))
            refine wpQuiet_nil ?_
            intro _ hw'
            obtain ⟨⟨dq, osq⟩, hw''⟩ := hw'
            subst hw''
            have hb3 := hbW.trans ((below_regrown W1 dq osq).mono hbW.size)
            generalize grow (redrawn W1 dq) osq = w2 at hb3 ⊢
            clear q0 q1 q3 q4 hbW hcmp
            go_wp2
            go_ret
            exact ⟨bool_end hn.out.symm, hb3⟩
    · have hn : Hid (rightB l = true) := rightB_yes fun j hj => hq.out j (by omega)
      clear hq
      go_wp2
      go_ret
      exact ⟨bool_end hn.out.symm, hb⟩

end Go.Proofs.YtddmoempagcjeaaGreat
