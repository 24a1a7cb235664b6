/-
  The comparison of two pairs, in the program, as a contract. The comparison of two elements of contexts, in the program, as a contract. Whether a list of elements is a context, as the program decides it: a contract. Lists of elements of contexts in order: an element put in its place, lists joined, what is told by its members alone. Whether a list of elements is a context, as the model decides it: a contract.
-/
import Derived.Test.YtlhjgjfnmejiaaaGreatKComesOf6
import Derived.StillTailTactics
import Derived.OwnWalk
import Derived.Laws.Pointers
import Derived.Sort.Grow
import Derived.Test.YtlhjgjfnmejiaaaGreatKComesOf7
section
namespace Go.Proofs.YtlhjgjfnmejiaaaGreat
section
open Go.RowKit Go.Sort

def orZ (a b : Int) : Int := if a = 0 then b else a

set_option maxHeartbeats 1000000 in
theorem cmpOr_any (g : Nat) (a b : Int) (w : World) (c0 : w.cell? ⟨g, 0, none⟩ = some (.int .i64 a)) (c1 : w.cell? ⟨g, 1, none⟩ = some (.int .i64 b)) :
    Calls Tryz.prog 165 #[.slice (some ⟨g, 0, none⟩) 2 2] w fun e w' => e = .returned (.int .i64 (orZ a b)) ∧ w' = w := by
  go_enter Tryz.func165, Tryz.ntmps165
  go_wp2
  go_loop [8] (fun i => ∃ k : Nat, k ≤ 2 ∧ i = .int .i64 k ∧ (1 ≤ k → a = 0) ∧ (2 ≤ k → b = 0)) (fun i => 2 - (intOf i).toNat)
  case atStart => exact ⟨0, by omega, rfl, by omega, by omega⟩
  case round =>
    obtain ⟨k, hk, rfl, ha, hb⟩ := hrel
    have hk' : k = 0 ∨ k = 1 ∨ k = 2 := by omega
    rcases hk' with rfl | rfl | rfl
    · clear ha hb
      by_cases hz : a = 0
      · have t0 : (a != 0) = false := by simp [hz]
        have HZ := Lib.hid hz
        clear hz
        go_wp2
        go_round
        case rel => exact ⟨1, by omega, rfl, fun _ => HZ.out, by omega⟩
        case measure => simp [intOf]
      · have t0 : (a != 0) = true := by simp [hz]
        have hr : Hid (a = orZ a b) := by show a = orZ a b; unfold orZ; rw [if_neg hz]
        clear hz
        go_wp2
        go_ret
        exact ⟨int_end hr.out, rfl⟩
    · have HA := Lib.hid (ha (by omega))
      clear ha hb
      by_cases hz : b = 0
      · have t0 : (b != 0) = false := by simp [hz]
        have HZ := Lib.hid hz
        clear hz
        go_wp2
        go_round
        case rel => exact ⟨2, by omega, rfl, fun _ => HA.out, fun _ => HZ.out⟩
        case measure => simp [intOf]
      · have t0 : (b != 0) = true := by simp [hz]
        have hr : Hid (b = orZ a b) := by show b = orZ a b; unfold orZ; rw [if_pos HA.out]
        clear hz
        go_wp2
        go_ret
        exact ⟨int_end hr.out, rfl⟩
    · have hr : Hid ((0 : Int) = orZ a b) := by show (0 : Int) = orZ a b; unfold orZ; rw [if_pos (ha (by omega)), hb (by omega)]
      clear ha hb
      go_wp2
      go_ret
      exact ⟨int_end hr.out, rfl⟩

theorem compare_still (a b : Int) (w : World) : Calls Tryz.prog 166 #[.int .i64 a, .int .i64 b] w fun e w' => e = .returned (.int .i64 (cmpI a b)) ∧ w' = w :=
  (compare_any a b w).mono fun _ _ ⟨he, hw⟩ => ⟨he, hw.symm⟩

/-- The answer, behind some draws and some new blocks. -/
def CmpPost (r : Int) (w : World) (e : Ending) (w' : World) : Prop := e = .returned (.int .i64 r) ∧ ∃ q os', w' = grow (w.drewN q) os'

end

section
open Go.RowKit Go.Sort
set_option linter.unusedVariables false

def cmpF (x y : Int × Int) : Int := orZ (cmpI x.2 y.2) (cmpI x.1 y.1)

set_option maxRecDepth 100000 in
set_option maxHeartbeats 400000 in
theorem compareFresh_any (x y : Int × Int) (w : World) :
    Calls Tryz.prog 135 #[.agg #[.int .i64 x.1, .int .i64 x.2], .agg #[.int .i64 y.1, .int .i64 y.2]] w
      (CmpPost (cmpF x y) w) := by
  have h1 := fun W => compare_still x.2 y.2 W
  have h2 := fun W => compare_still x.1 y.1 W
  have h3 := fun g W h0 h1 => cmpOr_any g (cmpI x.2 y.2) (cmpI x.1 y.1) W h0 h1
  have hr : Hid (cmpF x y = orZ (cmpI x.2 y.2) (cmpI x.1 y.1)) := rfl
  generalize cmpI x.2 y.2 = a at h1 h3 hr
  generalize cmpI x.1 y.1 = b at h2 h3 hr
  go_enter Tryz.func135, Tryz.ntmps135
  go_wp2
  have hx0 : ((w.alloc (.cells #[.int .i64 x.1, .int .i64 x.2] 119)).alloc (.cells #[.int .i64 y.1, .int .i64 y.2] 119)).cell? ⟨w.heap.size, 0, none⟩ = some (.int .i64 x.1) := by simp
  have hx1 : ((w.alloc (.cells #[.int .i64 x.1, .int .i64 x.2] 119)).alloc (.cells #[.int .i64 y.1, .int .i64 y.2] 119)).cell? ⟨w.heap.size, 1, none⟩ = some (.int .i64 x.2) := by simp
  have hy0 : ((w.alloc (.cells #[.int .i64 x.1, .int .i64 x.2] 119)).alloc (.cells #[.int .i64 y.1, .int .i64 y.2] 119)).cell? ⟨w.heap.size + 1, 0, none⟩ = some (.int .i64 y.1) := by simp
  have hy1 : ((w.alloc (.cells #[.int .i64 x.1, .int .i64 x.2] 119)).alloc (.cells #[.int .i64 y.1, .int .i64 y.2] 119)).cell? ⟨w.heap.size + 1, 1, none⟩ = some (.int .i64 y.2) := by simp
  have hgr : Hid ((w.alloc (.cells #[.int .i64 x.1, .int .i64 x.2] 119)).alloc (.cells #[.int .i64 y.1, .int .i64 y.2] 119) = grow w #[.cells #[.int .i64 x.1, .int .i64 x.2] 119, .cells #[.int .i64 y.1, .int .i64 y.2] 119]) := by
    show (w.alloc (.cells #[.int .i64 x.1, .int .i64 x.2] 119)).alloc (.cells #[.int .i64 y.1, .int .i64 y.2] 119) = grow w #[.cells #[.int .i64 x.1, .int .i64 x.2] 119, .cells #[.int .i64 y.1, .int .i64 y.2] 119]
    rw [alloc_eq_grow, alloc_eq_grow, grow_grow]; rfl
  have hwd : ((w.alloc (.cells #[.int .i64 x.1, .int .i64 x.2] 119)).alloc (.cells #[.int .i64 y.1, .int .i64 y.2] 119)).heap.size = w.heap.size + 2 := by simp
  generalize (w.alloc (.cells #[.int .i64 x.1, .int .i64 x.2] 119)).alloc (.cells #[.int .i64 y.1, .int .i64 y.2] 119) = W2 at hx0 hx1 hy0 hy1 hgr hwd ⊢
  have HW := Lib.hid hwd
  clear hwd
  refine wp_region_still_tail 10 (by kernel_rfl) (by kernel_rfl) ?_
  simp only [List.take_succ_cons, List.take_zero, List.drop_succ_cons, List.drop_zero]
  have hgr2 : Hid (({ W2 with drawn := W2.drawn + 1 } : World) = grow (w.drewN 1) #[.cells #[.int .i64 x.1, .int .i64 x.2] 119, .cells #[.int .i64 y.1, .int .i64 y.2] 119]) := by
    show ({ W2 with drawn := W2.drawn + 1 } : World) = grow (w.drewN 1) #[.cells #[.int .i64 x.1, .int .i64 x.2] 119, .cells #[.int .i64 y.1, .int .i64 y.2] 119]
    rw [hgr.out]; rfl
  have kx0 : ({ W2 with drawn := W2.drawn + 1 } : World).cell? ⟨w.heap.size, 0, none⟩ = some (.int .i64 x.1) := hx0
  have kx1 : ({ W2 with drawn := W2.drawn + 1 } : World).cell? ⟨w.heap.size, 1, none⟩ = some (.int .i64 x.2) := hx1
  have ky0 : ({ W2 with drawn := W2.drawn + 1 } : World).cell? ⟨w.heap.size + 1, 0, none⟩ = some (.int .i64 y.1) := hy0
  have ky1 : ({ W2 with drawn := W2.drawn + 1 } : World).cell? ⟨w.heap.size + 1, 1, none⟩ = some (.int .i64 y.2) := hy1
  clear hgr HW hx0 hx1 hy0 hy1
  generalize ({ W2 with drawn := W2.drawn + 1 } : World) = W3 at kx0 kx1 ky0 ky1 hgr2 ⊢
  have h1' := h1 W3
  have h2' := h2 W3
  clear h1 h2
  still_step
  still_step
  still_step
  still_step
  still_call h1'
  iterate 4 still_step
  still_call h2'
  refine wpStill_nil ?_
  have hs0 : (W3.alloc (.cells #[.int .i64 a, .int .i64 b] 3)).cell? ⟨W3.heap.size, 0, none⟩ = some (.int .i64 a) := by simp
  have hs1 : (W3.alloc (.cells #[.int .i64 a, .int .i64 b] 3)).cell? ⟨W3.heap.size, 1, none⟩ = some (.int .i64 b) := by simp
  have h4 := h3 W3.heap.size _ hs0 hs1
  clear h1' h2' h3 kx0 kx1 ky0 ky1 hs0 hs1
  go_wp2_with fail
  refine h4.mono ?_
  rintro e w' ⟨rfl, rfl⟩
  clear h4
  go_wp2
  go_ret
  exact ⟨int_end hr.out.symm, 1, _, by rw [hgr2.out, alloc_eq_grow, grow_grow]⟩
end
end Go.Proofs.YtlhjgjfnmejiaaaGreat
end

section
namespace Go.Proofs.YtlhjgjfnmejiaaaGreat
open Go.RowKit Go.Sort
set_option linter.unusedVariables false

def holeB (n : Int) : Bool := decide (0 ≤ n ∧ n ≤ 9)
def lessB (x y : Int × Int) : Bool := decide (x.2 < y.2 ∨ (x.2 = y.2 ∧ x.1 < y.1))

theorem cmpI_three (a b : Int) : (a < b ∧ cmpI a b = -1) ∨ (a = b ∧ cmpI a b = 0) ∨ (b < a ∧ cmpI a b = 1) := by
  unfold cmpI
  by_cases h : a < b
  · rw [if_pos h]; exact Or.inl ⟨h, rfl⟩
  · rw [if_neg h]
    by_cases h' : b < a
    · rw [if_pos h']; exact Or.inr (Or.inr ⟨h', rfl⟩)
    · rw [if_neg h']; exact Or.inr (Or.inl ⟨by omega, rfl⟩)

theorem orZ_two (a b : Int) : (a = 0 ∧ orZ a b = b) ∨ (a ≠ 0 ∧ orZ a b = a) := by
  unfold orZ
  by_cases h : a = 0
  · rw [if_pos h]; exact Or.inl ⟨h, rfl⟩
  · rw [if_neg h]; exact Or.inr ⟨h, rfl⟩

theorem cmpF_less (x y : Int × Int) : (lessB x y = true ↔ cmpF x y < 0) := by
  simp only [lessB, cmpF, decide_eq_true_eq]
  have h1 := cmpI_three x.2 y.2
  have h2 := cmpI_three x.1 y.1
  have h3 := orZ_two (cmpI x.2 y.2) (cmpI x.1 y.1)
  omega

/-- What is asked of the element at a place. -/
def ctxAt (l : List (Int × Int)) (i : Nat) : Bool :=
  atomB (prAt l i).1 && (holeB (prAt l i).2 && (decide (i = 0) || lessB (prAt l (i - 1)) (prAt l i)))

def rightB (l : List (Int × Int)) : Bool := (List.range l.length).all (ctxAt l)
/-- Whether a list of elements is a context. -/
def ctxB (l : List (Int × Int)) : Bool := decide (l.length ≤ 40) && rightB l

theorem rightB_no {l : List (Int × Int)} {i : Nat} (hi : i < l.length) (h : ctxAt l i = false) : rightB l = false := by
  unfold rightB
  rw [List.all_eq_false]
  exact ⟨i, List.mem_range.2 hi, by simp [h]⟩

theorem rightB_yes {l : List (Int × Int)} (h : ∀ j, j < l.length → ctxAt l j = true) : rightB l = true := by
  unfold rightB
  rw [List.all_eq_true]
  exact fun x hx => h x (List.mem_range.1 hx)

theorem ctx_next {p : Nat → Bool} {k : Nat} (h : ∀ j, j < k → p j = true) (hk : p k = true) : ∀ j, j < k + 1 → p j = true := by
  intro j hj
  by_cases e : j = k
  · rw [e]; exact hk
  · exact h j (by omega)

theorem isHole_c (n : Int) (w : World) :
    Calls Tryz.prog 96 #[.int .i64 n] w fun e w' => e = .returned (.bool (holeB n)) ∧ w = w' := by
  by_cases h1 : 0 ≤ n
  · by_cases h2 : n ≤ 9
    · go_enter Tryz.func96, Tryz.ntmps96
      go_wp2
      go_ret
      exact ⟨bool_end (by simp [holeB, h1, h2]), rfl⟩
    · have k2 : decide (n ≤ 9) = false := by simpa using h2
      have k3 : 9 < n := by omega
      clear h2
      go_enter Tryz.func96, Tryz.ntmps96
      go_wp2
      go_ret
      exact ⟨bool_end (by simp [holeB]; omega), rfl⟩
  · have k1 : n < 0 := by omega
    clear h1
    go_enter Tryz.func96, Tryz.ntmps96
    go_wp2
    go_ret
    exact ⟨bool_end (by simp [holeB]; omega), rfl⟩

theorem compareFresh_b (x y : Int × Int) (w : World) :
    Calls Tryz.prog 135 #[.agg #[.int .i64 x.1, .int .i64 x.2], .agg #[.int .i64 y.1, .int .i64 y.2]] w
      fun e w' => e = .returned (.int .i64 (cmpF x y)) ∧ Below w.heap.size w w' := by
  refine (compareFresh_any x y w).mono ?_
  rintro e w' ⟨rfl, q, os, rfl⟩
  exact ⟨rfl, below_regrown w _ os⟩

set_option maxRecDepth 100000 in
set_option maxHeartbeats 2000000 in
theorem isContext_impl (A : Option Addr) (c : Nat) (l : List (Int × Int)) (w : World) (hA : PairsAt w A l) (hl : l.length ≤ 1099511627776) :
    Calls Tryz.prog 91 #[.slice A l.length c] w fun e w' => e = .returned (.bool (ctxB l)) ∧ Below w.heap.size w w' := by
  by_cases h40 : l.length ≤ 40
  case neg =>
    have k0 : 40 < (l.length : Int) := by omega
    have hn : Hid (ctxB l = false) := by show ctxB l = false; unfold ctxB; simp [h40]
    go_enter Tryz.func91, Tryz.ntmps91
    go_wp2
    go_ret
    exact ⟨bool_end hn.out.symm, Below.refl _ _⟩
  have k0 : ¬ 40 < (l.length : Int) := by omega
  have hcl : Hid (ctxB l = rightB l) := by show ctxB l = rightB l; unfold ctxB; simp [h40]
  rw [hcl.out]
  clear hcl
  go_enter Tryz.func91, Tryz.ntmps91
  go_wp2
  go_loopw [10] (fun i wr => ∃ k : Nat, k ≤ l.length ∧ i = .int .i64 k ∧ Hid (∀ j, j < k → ctxAt l j = true) ∧ Below w.heap.size w wr) (fun i _ => l.length - (intOf i).toNat)
  case atStart => exact ⟨0, Nat.zero_le _, rfl, fun j hj => absurd hj (by omega), Below.refl _ _⟩
  case round =>
    obtain ⟨k, hk, rfl, hq, hb⟩ := hrel
    by_cases hlt : k < l.length
    · obtain ⟨b1, o1, rfl, hb1, hc1⟩ := hA (by omega)
      obtain ⟨c1, c2⟩ := hc1 k hlt
      rw [← hb.cell (p := ⟨b1, _, none⟩) hb1] at c1 c2
      have hbs := hb.size
      by_cases hbad : (atomB (prAt l k).1 && holeB (prAt l k).2) = false
      · have hn : Hid (rightB l = false) := rightB_no hlt (by
          unfold ctxAt
          revert hbad
          cases atomB (prAt l k).1 <;> cases holeB (prAt l k).2 <;> simp)
        have hbW : Below w.heap.size w (wr.alloc (.cells #[.int .i64 (prAt l k).1, .int .i64 (prAt l k).2] 119)) := hb.alloc hb.size _
        generalize prAt l k = p1 at c1 c2 hbad hbW
        clear hq hc1 hA
        by_cases ha1 : atomB p1.1 = true
        · have ha2 : holeB p1.2 = false := by revert hbad; rw [ha1]; simp
          clear hbad
          go_wp2_with (first | (go_at_call 57; refine (isAtom_any _ _).mono ?_; rintro e w' ⟨rfl, rfl⟩) | (go_at_call 96; refine (isHole_c _ _).mono ?_; rintro e w' ⟨rfl, rfl⟩))
          go_ret
          exact ⟨bool_end hn.out.symm, hbW⟩
        · have ha1' : atomB p1.1 = false := by simpa using ha1
          clear hbad ha1
          go_wp2_with (first | (go_at_call 57; refine (isAtom_any _ _).mono ?_; rintro e w' ⟨rfl, rfl⟩) | (go_at_call 96; refine (isHole_c _ _).mono ?_; rintro e w' ⟨rfl, rfl⟩))
          go_ret
          exact ⟨bool_end hn.out.symm, hbW⟩
      · have ha1 : atomB (prAt l k).1 = true := by revert hbad; cases atomB (prAt l k).1 <;> simp
        have ha2 : holeB (prAt l k).2 = true := by revert hbad; cases holeB (prAt l k).2 <;> simp
        clear hbad
        by_cases hz : k = 0
        · subst hz
          have hn : Hid (∀ q, q < 0 + 1 → ctxAt l q = true) := ctx_next hq.out (by simp [ctxAt, ha1, ha2])
          rw [Nat.zero_mul, Nat.add_zero] at c1 c2
          generalize prAt l 0 = p1 at c1 c2 ha1 ha2
          clear hq hc1 hA
          go_wp2_with (first | (go_at_call 57; refine (isAtom_any _ _).mono ?_; rintro e w' ⟨rfl, rfl⟩) | (go_at_call 96; refine (isHole_c _ _).mono ?_; rintro e w' ⟨rfl, rfl⟩))
          have hbW : Below w.heap.size w (wr.alloc (.cells #[.int .i64 p1.1, .int .i64 p1.2] 119)) := hb.alloc hb.size _
          generalize wr.alloc (.cells #[.int .i64 p1.1, .int .i64 p1.2] 119) = W1 at hbW ⊢
          clear c1 c2
          refine wp_region_quiet_below (by kernel_rfl) (by kernel_rfl) ?_
          repeat (any_goals (first | go_big_quiet_step (fail) | quiet_step (fail)))
          refine wpQuiet_nil ?_
          intro _ hw'
          obtain ⟨⟨dq, osq⟩, hw''⟩ := hw'
          subst hw''
          have hb3 := hbW.trans ((below_regrown W1 dq osq).mono hbW.size)
          generalize grow (redrawn W1 dq) osq = w2 at hb3 ⊢
          clear hbW
          go_wp2
          refine ⟨⟨0 + 1, by omega, by go_num, hn, hb3⟩, ?_⟩
          simp only [intOf]
          omega
        · obtain ⟨j, rfl⟩ : ∃ j, k = j + 1 := ⟨k - 1, by omega⟩
          obtain ⟨c3, c4⟩ := hc1 j (by omega)
          rw [← hb.cell (p := ⟨b1, _, none⟩) hb1] at c3 c4
          clear hc1 hA hz
          by_cases hp : lessB (prAt l j) (prAt l (j + 1)) = true
          · have hn : Hid (∀ q, q < j + 1 + 1 → ctxAt l q = true) := ctx_next hq.out (by simp [ctxAt, ha1, ha2, hp])
            have hr : cmpF (prAt l j) (prAt l (j + 1)) < 0 := (cmpF_less _ _).1 hp
            have hcmp := fun W => compareFresh_b (prAt l j) (prAt l (j + 1)) W
            clear hp
            generalize prAt l (j + 1) = p1 at c1 c2 ha1 ha2 hr hcmp
            generalize prAt l j = p2 at c3 c4 hr hcmp
            generalize cmpF p2 p1 = r at hr hcmp
            clear hq
            go_wp2_with (first | (go_at_call 57; refine (isAtom_any _ _).mono ?_; rintro e w' ⟨rfl, rfl⟩) | (go_at_call 96; refine (isHole_c _ _).mono ?_; rintro e w' ⟨rfl, rfl⟩))
            have d0 : (wr.alloc (.cells #[.int .i64 p1.1, .int .i64 p1.2] 119)).cell? ⟨wr.heap.size, 0, none⟩ = some (.int .i64 p1.1) := by simp
            have d1 : (wr.alloc (.cells #[.int .i64 p1.1, .int .i64 p1.2] 119)).cell? ⟨wr.heap.size, 1, none⟩ = some (.int .i64 p1.2) := by simp
            have d3 : (wr.alloc (.cells #[.int .i64 p1.1, .int .i64 p1.2] 119)).cell? ⟨b1, o1 + j * 2, none⟩ = some (.int .i64 p2.1) := by
              rw [World.cell?_alloc_lt _ _ _ (by show b1 < _; omega)]; exact c3
            have d4 : (wr.alloc (.cells #[.int .i64 p1.1, .int .i64 p1.2] 119)).cell? ⟨b1, o1 + j * 2 + 1, none⟩ = some (.int .i64 p2.2) := by
              rw [World.cell?_alloc_lt _ _ _ (by show b1 < _; omega)]; exact c4
            have hbW : Below w.heap.size w (wr.alloc (.cells #[.int .i64 p1.1, .int .i64 p1.2] 119)) := hb.alloc hb.size _
            generalize wr.alloc (.cells #[.int .i64 p1.1, .int .i64 p1.2] 119) = W1 at d0 d1 d3 d4 hbW ⊢
            have q0 := fun d os => cell_regrown d0 d os
            have q1 := fun d os => cell_regrown d1 d os
            have q3 := fun d os => cell_regrown d3 d os
            have q4 := fun d os => cell_regrown d4 d os
            clear c1 c2 c3 c4 d0 d1 d3 d4
            refine wp_region_quiet_below (by kernel_rfl) (by kernel_rfl) ?_
            repeat (any_goals (first | go_big_quiet_step ((go_at_call 135; exact Calls.regrown_of (hcmp _))) | quiet_step ((go_at_call 135; exact Calls.regrown_of (hcmp _)))))
            refine wpQuiet_nil ?_
            intro _ hw'
            obtain ⟨⟨dq, osq⟩, hw''⟩ := hw'
            subst hw''
            have hb3 := hbW.trans ((below_regrown W1 dq osq).mono hbW.size)
            generalize grow (redrawn W1 dq) osq = w2 at hb3 ⊢
            clear q0 q1 q3 q4 hbW hcmp
            go_wp2
            refine ⟨⟨j + 1 + 1, by omega, by go_num, hn, hb3⟩, ?_⟩
            simp only [intOf]
            omega
          · have hn : Hid (rightB l = false) := rightB_no hlt (by simp [ctxAt, hp])
            have hr : 0 ≤ cmpF (prAt l j) (prAt l (j + 1)) := by
              rcases Int.lt_or_le (cmpF (prAt l j) (prAt l (j + 1))) 0 with h | h
              · exact absurd ((cmpF_less _ _).2 h) hp
              · exact h
            have hcmp := fun W => compareFresh_b (prAt l j) (prAt l (j + 1)) W
            clear hp
            generalize prAt l (j + 1) = p1 at c1 c2 ha1 ha2 hr hcmp
            generalize prAt l j = p2 at c3 c4 hr hcmp
            generalize cmpF p2 p1 = r at hr hcmp
            clear hq
            go_wp2_with (first | (go_at_call 57; refine (isAtom_any _ _).mono ?_; rintro e w' ⟨rfl, rfl⟩) | (go_at_call 96; refine (isHole_c _ _).mono ?_; rintro e w' ⟨rfl, rfl⟩))
            have d0 : (wr.alloc (.cells #[.int .i64 p1.1, .int .i64 p1.2] 119)).cell? ⟨wr.heap.size, 0, none⟩ = some (.int .i64 p1.1) := by simp
            have d1 : (wr.alloc (.cells #[.int .i64 p1.1, .int .i64 p1.2] 119)).cell? ⟨wr.heap.size, 1, none⟩ = some (.int .i64 p1.2) := by simp
            have d3 : (wr.alloc (.cells #[.int .i64 p1.1, .int .i64 p1.2] 119)).cell? ⟨b1, o1 + j * 2, none⟩ = some (.int .i64 p2.1) := by
              rw [World.cell?_alloc_lt _ _ _ (by show b1 < _; omega)]; exact c3
            have d4 : (wr.alloc (.cells #[.int .i64 p1.1, .int .i64 p1.2] 119)).cell? ⟨b1, o1 + j * 2 + 1, none⟩ = some (.int .i64 p2.2) := by
              rw [World.cell?_alloc_lt _ _ _ (by show b1 < _; omega)]; exact c4
            have hbW : Below w.heap.size w (wr.alloc (.cells #[.int .i64 p1.1, .int .i64 p1.2] 119)) := hb.alloc hb.size _
            generalize wr.alloc (.cells #[.int .i64 p1.1, .int .i64 p1.2] 119) = W1 at d0 d1 d3 d4 hbW ⊢
            have q0 := fun d os => cell_regrown d0 d os
            have q1 := fun d os => cell_regrown d1 d os
            have q3 := fun d os => cell_regrown d3 d os
            have q4 := fun d os => cell_regrown d4 d os
            clear c1 c2 c3 c4 d0 d1 d3 d4
            refine wp_region_quiet_below (by kernel_rfl) (by kernel_rfl) ?_
            repeat (any_goals (first | go_big_quiet_step ((go_at_call 135; exact Calls.regrown_of (hcmp _))) | quiet_step ((go_at_call 135; exact Calls.regrown_of (hcmp _)))))
            refine wpQuiet_nil ?_
            intro _ hw'
            obtain ⟨⟨dq, osq⟩, hw''⟩ := hw'
            subst hw''
            have hb3 := hbW.trans ((below_regrown W1 dq osq).mono hbW.size)
            generalize grow (redrawn W1 dq) osq = w2 at hb3 ⊢
            clear q0 q1 q3 q4 hbW hcmp
            go_wp2
            go_ret
            exact ⟨bool_end hn.out.symm, hb3⟩
    · have hn : Hid (rightB l = true) := rightB_yes fun j hj => hq.out j (by omega)
      clear hq
      go_wp2
      go_ret
      exact ⟨bool_end hn.out.symm, hb⟩

end Go.Proofs.YtlhjgjfnmejiaaaGreat
end

section
namespace Go.Proofs.YtlhjgjfnmejiaaaGreat
open Go.RowKit Go.Sort
set_option linter.unusedVariables false

def hasF (S : List (Int × Int)) (x : Int × Int) : Bool := decide (x ∈ S)

def insF (x : Int × Int) : List (Int × Int) → List (Int × Int)
  | [] => [x]
  | y :: r => if lessB x y then x :: y :: r else y :: insF x r
def putF (l : List (Int × Int)) (x : Int × Int) : List (Int × Int) := if hasF l x then l else insF x l
def joinF (l m : List (Int × Int)) : List (Int × Int) := m.foldl putF l
def sortF (S : List (Int × Int)) : List (Int × Int) := joinF [] S
def AscF (l : List (Int × Int)) : Prop := l.Pairwise fun a b => lessB a b = true

theorem lessB_iff (x y : Int × Int) : lessB x y = true ↔ (x.2 < y.2 ∨ (x.2 = y.2 ∧ x.1 < y.1)) := by simp [lessB]
theorem lessB_irrefl (x : Int × Int) : lessB x x = false := by simp [lessB]
theorem lessB_trans {x y z : Int × Int} (h1 : lessB x y = true) (h2 : lessB y z = true) : lessB x z = true := by
  rw [lessB_iff] at *; omega
theorem lessB_other {x y : Int × Int} (h : lessB x y = false) (hne : x ≠ y) : lessB y x = true := by
  rw [lessB_iff]
  have h' : ¬ (x.2 < y.2 ∨ (x.2 = y.2 ∧ x.1 < y.1)) := by rw [← lessB_iff, h]; simp
  have h2 : ¬ (x.1 = y.1 ∧ x.2 = y.2) := fun e => hne (Prod.ext e.1 e.2)
  omega
theorem lessB_asym {x y : Int × Int} (h1 : lessB x y = true) (h2 : lessB y x = true) : False := by
  rw [lessB_iff] at *; omega

theorem hasF_iff {S : List (Int × Int)} {x : Int × Int} : hasF S x = true ↔ x ∈ S := by simp [hasF]
theorem hasF_not {S : List (Int × Int)} {x : Int × Int} : hasF S x = false ↔ x ∉ S := by simp [hasF]

theorem mem_insF {x z : Int × Int} : ∀ l : List (Int × Int), z ∈ insF x l ↔ z = x ∨ z ∈ l
  | [] => by simp [insF]
  | y :: r => by
    unfold insF
    split
    · simp
    · simp only [List.mem_cons, mem_insF r]
      constructor
      · rintro (h | h | h)
        · exact .inr (.inl h)
        · exact .inl h
        · exact .inr (.inr h)
      · rintro (h | h | h)
        · exact .inr (.inl h)
        · exact .inl h
        · exact .inr (.inr h)

theorem insF_asc {x : Int × Int} : ∀ {l : List (Int × Int)}, AscF l → x ∉ l → AscF (insF x l)
  | [], _, _ => by simp [insF, AscF]
  | y :: r, h, hx => by
    have h' := List.pairwise_cons.1 h
    have hne : x ≠ y := fun e => hx (by simp [e])
    unfold insF
    split
    · rename_i hl
      refine List.pairwise_cons.2 ⟨fun z hz => ?_, h⟩
      rcases List.mem_cons.1 hz with rfl | hz
      · exact hl
      · exact lessB_trans hl (h'.1 z hz)
    · rename_i hl
      have hl' : lessB y x = true := lessB_other (by simpa using hl) hne
      refine List.pairwise_cons.2 ⟨fun z hz => ?_, insF_asc h'.2 (fun hr => hx (List.mem_cons_of_mem _ hr))⟩
      rcases (mem_insF r).1 hz with rfl | hz
      · exact hl'
      · exact h'.1 z hz

theorem mem_putF {x z : Int × Int} {l : List (Int × Int)} : z ∈ putF l x ↔ z ∈ l ∨ z = x := by
  unfold putF
  by_cases h : hasF l x = true
  · rw [if_pos h]
    have hm := hasF_iff.1 h
    exact ⟨.inl, fun h => h.elim id (fun e => e ▸ hm)⟩
  · rw [if_neg h, mem_insF]
    exact or_comm

theorem putF_asc {x : Int × Int} {l : List (Int × Int)} (h : AscF l) : AscF (putF l x) := by
  unfold putF
  by_cases hh : hasF l x = true
  · rw [if_pos hh]; exact h
  · rw [if_neg hh]; exact insF_asc h (hasF_not.1 (by simpa using hh))

theorem joinF_snoc (l m : List (Int × Int)) (x : Int × Int) : joinF l (m ++ [x]) = putF (joinF l m) x := by simp [joinF]

theorem joinF_asc {l : List (Int × Int)} (h : AscF l) (m : List (Int × Int)) : AscF (joinF l m) := by
  unfold joinF
  induction m generalizing l with
  | nil => exact h
  | cons x r ih => exact ih (putF_asc h)

theorem mem_joinF {z : Int × Int} {l : List (Int × Int)} (m : List (Int × Int)) : z ∈ joinF l m ↔ z ∈ l ∨ z ∈ m := by
  unfold joinF
  induction m generalizing l with
  | nil => simp
  | cons x r ih =>
    rw [List.foldl_cons, ih, mem_putF]
    simp [or_assoc]

theorem sortF_asc (S : List (Int × Int)) : AscF (sortF S) := joinF_asc List.Pairwise.nil S
theorem mem_sortF {S : List (Int × Int)} {z : Int × Int} : z ∈ sortF S ↔ z ∈ S := by unfold sortF; rw [mem_joinF]; simp
theorem sortF_snoc (S : List (Int × Int)) (x : Int × Int) : sortF (S ++ [x]) = putF (sortF S) x := joinF_snoc _ _ _

/-- Lists in order that have the same members are the same. -/
theorem ascF_same : ∀ {l m : List (Int × Int)}, AscF l → AscF m → (∀ z, z ∈ l ↔ z ∈ m) → l = m
  | [], [], _, _, _ => rfl
  | [], y :: m, _, _, h => absurd ((h y).2 (by simp)) (by simp)
  | x :: l, [], _, _, h => absurd ((h x).1 (by simp)) (by simp)
  | x :: l, y :: m, hl, hm, h => by
    have hl' := List.pairwise_cons.1 hl
    have hm' := List.pairwise_cons.1 hm
    have e : x = y := by
      rcases List.mem_cons.1 ((h x).1 (by simp)) with e | hx
      · exact e
      · rcases List.mem_cons.1 ((h y).2 (by simp)) with e | hy
        · exact e.symm
        · exact (lessB_asym (hm'.1 x hx) (hl'.1 y hy)).elim
    subst e
    congr 1
    refine ascF_same hl'.2 hm'.2 fun z => ?_
    constructor
    · intro hz
      rcases List.mem_cons.1 ((h z).1 (List.mem_cons_of_mem _ hz)) with e | hz'
      · subst e
        have := hl'.1 z hz
        rw [lessB_irrefl] at this; cases this
      · exact hz'
    · intro hz
      rcases List.mem_cons.1 ((h z).2 (List.mem_cons_of_mem _ hz)) with e | hz'
      · subst e
        have := hm'.1 z hz
        rw [lessB_irrefl] at this; cases this
      · exact hz'

theorem insF_len (x : Int × Int) : ∀ l : List (Int × Int), (insF x l).length = l.length + 1
  | [] => rfl
  | y :: r => by
    unfold insF
    split
    · rfl
    · simp [insF_len x r]
theorem putF_len (l : List (Int × Int)) (x : Int × Int) : (putF l x).length = if hasF l x then l.length else l.length + 1 := by
  unfold putF
  split
  · rfl
  · exact insF_len x l
theorem joinF_len_le (l m : List (Int × Int)) : (joinF l m).length ≤ l.length + m.length := by
  unfold joinF
  induction m generalizing l with
  | nil => simp
  | cons x r ih =>
    rw [List.foldl_cons]
    refine Nat.le_trans (ih _) ?_
    rw [putF_len, List.length_cons]
    split <;> omega
theorem sortF_len_le (S : List (Int × Int)) : (sortF S).length ≤ S.length := by have h := joinF_len_le [] S; simp at h; exact h
/-- Each element is one of a context's, and each comes before the next one: in order. -/
theorem rightB_parts {l : List (Int × Int)} (h : rightB l = true) : (∀ x ∈ l, atomB x.1 = true ∧ holeB x.2 = true) ∧ AscF l := by
  have hat : ∀ i, i < l.length → ctxAt l i = true := by
    unfold rightB at h
    rw [List.all_eq_true] at h
    exact fun i hi => h i (List.mem_range.2 hi)
  constructor
  · intro x hx
    obtain ⟨i, hi, e⟩ := List.getElem_of_mem hx
    have h1 := hat i hi
    unfold ctxAt at h1
    rw [Bool.and_eq_true, Bool.and_eq_true] at h1
    have e' : prAt l i = x := by simp [prAt, hi, e]
    rw [e'] at h1
    exact ⟨h1.1, h1.2.1⟩
  · unfold AscF
    rw [List.pairwise_iff_getElem]
    have step : ∀ i, i + 1 < l.length → lessB (prAt l i) (prAt l (i + 1)) = true := by
      intro i hi
      have h1 := hat (i + 1) hi
      unfold ctxAt at h1
      rw [Bool.and_eq_true, Bool.and_eq_true, Bool.or_eq_true] at h1
      rcases h1.2.2 with h2 | h2
      · simp at h2
      · simpa using h2
    have far : ∀ d i, i + (d + 1) < l.length → lessB (prAt l i) (prAt l (i + (d + 1))) = true := by
      intro d
      induction d with
      | zero => exact fun i hi => step i hi
      | succ d ih => exact fun i hi => lessB_trans (ih i (by omega)) (step (i + (d + 1)) (by omega))
    intro i j hi hj hij
    have h3 := far (j - i - 1) i (by omega)
    rw [show i + (j - i - 1 + 1) = j by omega] at h3
    simpa [prAt, hi, hj] using h3

theorem rightB_of {l : List (Int × Int)} (h1 : ∀ x ∈ l, atomB x.1 = true ∧ holeB x.2 = true) (h2 : AscF l) : rightB l = true := by
  refine rightB_yes fun j hj => ?_
  have e : prAt l j = l[j] := by simp [prAt, hj]
  have hm := h1 _ (List.getElem_mem hj)
  unfold ctxAt
  rw [e, hm.1, hm.2]
  simp only [Bool.true_and, Bool.or_eq_true, decide_eq_true_eq]
  by_cases h0 : j = 0
  · exact .inl h0
  · refine .inr ?_
    have e' : prAt l (j - 1) = l[j - 1] := by simp [prAt, show j - 1 < l.length by omega]
    rw [e']
    exact List.pairwise_iff_getElem.1 h2 (j - 1) j (by omega) hj (by omega)

theorem len_of_ctx {l : List (Int × Int)} (h : ctxB l = true) : l.length ≤ 40 := by
  unfold ctxB at h
  rw [Bool.and_eq_true] at h
  simpa using h.1
theorem right_of_ctx {l : List (Int × Int)} (h : ctxB l = true) : rightB l = true := by
  unfold ctxB at h
  rw [Bool.and_eq_true] at h
  exact h.2

end Go.Proofs.YtlhjgjfnmejiaaaGreat
end

section
namespace Go.Proofs.YtlhjgjfnmejiaaaGreat
open Go.RowKit Go.Sort
set_option linter.unusedVariables false

theorem l1In_is (a lo hi : Int) (b : Bool) (h : b = decide (lo ≤ a ∧ a ≤ hi)) (w : World) :
    Calls Tryz.prog 80 #[.int .i64 a, .int .i64 lo, .int .i64 hi] w fun e w' => e = .returned (.bool b) ∧ Below w.heap.size w w' := by
  by_cases h1 : lo ≤ a
  · by_cases h2 : a ≤ hi
    · have hb : Hid (b = true) := by rw [h]; show decide _ = true; simp [h1, h2]
      clear h
      go_enter Tryz.func80, Tryz.ntmps80
      go_wp2
      go_ret
      exact ⟨bool_end hb.out.symm, Below.refl _ _⟩
    · have k3 : hi < a := by omega
      have hb : Hid (b = false) := by rw [h]; show decide _ = false; simp; omega
      clear h2 h
      go_enter Tryz.func80, Tryz.ntmps80
      go_wp2
      go_ret
      exact ⟨bool_end ((decide_eq_false (by omega)).trans hb.out.symm), Below.refl _ _⟩
  · have k1 : a < lo := by omega
    have hb : Hid (b = false) := by rw [h]; show decide _ = false; simp; omega
    clear h1 h
    go_enter Tryz.func80, Tryz.ntmps80
    go_wp2
    go_ret
    exact ⟨bool_end hb.out.symm, Below.refl _ _⟩

theorem l1Atom_is (a : Int) (b : Bool) (h : b = atomB a) (w : World) :
    Calls Tryz.prog 51 #[.int .i64 a] w fun e w' => e = .returned (.bool b) ∧ Below w.heap.size w w' := by
  rw [h]
  by_cases h1 : 0 ≤ a
  · by_cases h2 : a ≤ 999
    · go_enter Tryz.func51, Tryz.ntmps51
      go_wp2
      go_ret
      exact ⟨bool_end (by simp [atomB, h1, h2]), Below.refl _ _⟩
    · have k3 : 999 < a := by omega
      clear h2
      go_enter Tryz.func51, Tryz.ntmps51
      go_wp2
      go_ret
      exact ⟨bool_end (by simp [atomB]; omega), Below.refl _ _⟩
  · have k1 : a < 0 := by omega
    clear h1
    go_enter Tryz.func51, Tryz.ntmps51
    go_wp2
    go_ret
    exact ⟨bool_end (by simp [atomB]; omega), Below.refl _ _⟩

theorem l3Less_is (x y : Int × Int) (b : Bool) (h : b = lessB x y) (w : World) :
    Calls Tryz.prog 162 #[.agg #[.int .i64 x.1, .int .i64 x.2], .agg #[.int .i64 y.1, .int .i64 y.2]] w
      fun e w' => e = .returned (.bool b) ∧ Below w.heap.size w w' := by
  have hend : Below w.heap.size w ((w.alloc (.cells #[.int .i64 x.1, .int .i64 x.2] 119)).alloc (.cells #[.int .i64 y.1, .int .i64 y.2] 119)) :=
    ((Below.refl _ _).alloc (Nat.le_refl _) _).alloc (by simp) _
  obtain ⟨a, c⟩ := x
  obtain ⟨d, f⟩ := y
  simp only [lessB] at h
  rcases Int.lt_trichotomy c f with h1 | h1 | h1
  · have hb : Hid (b = true) := by rw [h]; show decide _ = true; simp; omega
    clear h
    go_enter Tryz.func162, Tryz.ntmps162
    go_wp2
    go_ret
    exact ⟨bool_end hb.out.symm, hend⟩
  · subst h1
    have k0 : ¬ c < c := by omega
    have k1 : (c == c) = true := by simp
    by_cases h2 : a < d
    · have hb : Hid (b = true) := by rw [h]; show decide _ = true; simp; omega
      clear h
      go_enter Tryz.func162, Tryz.ntmps162
      go_wp2
      go_ret
      exact ⟨bool_end hb.out.symm, hend⟩
    · have k2 : d ≤ a := by omega
      have hb : Hid (b = false) := by rw [h]; show decide _ = false; simp; omega
      clear h h2
      go_enter Tryz.func162, Tryz.ntmps162
      go_wp2
      go_ret
      exact ⟨bool_end ((decide_eq_false (by omega)).trans hb.out.symm), hend⟩
  · have k0 : f ≤ c := by omega
    have k1 : (c == f) = false := by simp; omega
    have hb : Hid (b = false) := by rw [h]; show decide _ = false; simp; omega
    clear h
    go_enter Tryz.func162, Tryz.ntmps162
    go_wp2
    go_ret
    exact ⟨bool_end ((decide_eq_false (by omega)).trans hb.out.symm), hend⟩

set_option maxRecDepth 100000 in
set_option maxHeartbeats 2000000 in
theorem l3Right_any (A : Option Addr) (c : Nat) (l : List (Int × Int)) (w : World) (hA : PairsAt w A l) (hl : l.length ≤ 1099511627776) :
    Calls Tryz.prog 130 #[.slice A l.length c] w fun e w' => e = .returned (.bool (rightB l)) ∧ Below w.heap.size w w' := by
  go_enter Tryz.func130, Tryz.ntmps130
  go_wp2
  go_loopw [7] (fun i wr => ∃ k : Nat, k ≤ l.length ∧ i = .int .i64 k ∧ Hid (∀ j, j < k → ctxAt l j = true) ∧ Below w.heap.size w wr) (fun i _ => l.length - (intOf i).toNat)
  case atStart => exact ⟨0, Nat.zero_le _, rfl, fun j hj => absurd hj (by omega), Below.refl _ _⟩
  case round =>
    obtain ⟨k, hk, rfl, hq, hb⟩ := hrel
    by_cases hlt : k < l.length
    · obtain ⟨b1, o1, rfl, hb1, hc1⟩ := hA (by omega)
      obtain ⟨c1, c2⟩ := hc1 k hlt
      rw [← hb.cell (p := ⟨b1, _, none⟩) hb1] at c1 c2
      have hbs := hb.size
      by_cases ha1 : atomB (prAt l k).1 = true
      · have hat := fun W => l1Atom_is (prAt l k).1 true ha1.symm W
        by_cases ha2 : holeB (prAt l k).2 = true
        · have hho := fun W => l1In_is (prAt l k).2 0 9 true ha2.symm W
          by_cases hz : k = 0
          · subst hz
            have hn : Hid (∀ q, q < 0 + 1 → ctxAt l q = true) := ctx_next hq.out (by simp [ctxAt, ha1, ha2])
            rw [Nat.zero_mul, Nat.add_zero] at c1 c2
            clear ha1 ha2
            generalize prAt l 0 = p1 at c1 c2 hat hho
            clear hq hc1 hA
            go_wp2_with fail
            have d0 : (wr.alloc (.cells #[.int .i64 p1.1, .int .i64 p1.2] 119)).cell? ⟨wr.heap.size, 0, none⟩ = some (.int .i64 p1.1) := by simp
            have d1 : (wr.alloc (.cells #[.int .i64 p1.1, .int .i64 p1.2] 119)).cell? ⟨wr.heap.size, 1, none⟩ = some (.int .i64 p1.2) := by simp
            have hbW : Below w.heap.size w (wr.alloc (.cells #[.int .i64 p1.1, .int .i64 p1.2] 119)) := hb.alloc hb.size _
            generalize wr.alloc (.cells #[.int .i64 p1.1, .int .i64 p1.2] 119) = W1 at d0 d1 hbW ⊢
            have q0 := fun d os => cell_regrown d0 d os
            have q1 := fun d os => cell_regrown d1 d os
            clear c1 c2 d0 d1
            refine wp_region_quiet_below (by kernel_rfl) (by kernel_rfl) ?_
            repeat (any_goals (first | go_big_quiet_step ((first | (go_at_call 51; exact Calls.regrown_of (hat _)) | (go_at_call 80; exact Calls.regrown_of (hho _)) | (go_at_call 162; exact Calls.regrown_of (hle _)))) | quiet_step ((first | (go_at_call 51; exact Calls.regrown_of (hat _)) | (go_at_call 80; exact Calls.regrown_of (hho _)) | (go_at_call 162; exact Calls.regrown_of (hle _))))))
            refine wpQuiet_nil ?_
            intro _ hw'
            obtain ⟨⟨dq, osq⟩, hw''⟩ := hw'
            subst hw''
            have hb3 := hbW.trans ((below_regrown W1 dq osq).mono hbW.size)
            generalize grow (redrawn W1 dq) osq = w2 at hb3 ⊢
            clear q0 q1 hbW hat
            go_wp2
            refine ⟨⟨0 + 1, by omega, by go_num, hn, hb3⟩, ?_⟩
            simp only [intOf]
            omega
          · obtain ⟨j, rfl⟩ : ∃ j, k = j + 1 := ⟨k - 1, by omega⟩
            obtain ⟨c3, c4⟩ := hc1 j (by omega)
            rw [← hb.cell (p := ⟨b1, _, none⟩) hb1] at c3 c4
            clear hc1 hA hz
            by_cases hp : lessB (prAt l j) (prAt l (j + 1)) = true
            · have hn : Hid (∀ q, q < j + 1 + 1 → ctxAt l q = true) := ctx_next hq.out (by simp [ctxAt, ha1, ha2, hp])
              have hle := fun W => l3Less_is (prAt l j) (prAt l (j + 1)) true hp.symm W
              clear hp ha1 ha2
              generalize prAt l (j + 1) = p1 at c1 c2 hat hho hle
              generalize prAt l j = p2 at c3 c4 hle
              clear hq
              go_wp2_with fail
              have d0 : (wr.alloc (.cells #[.int .i64 p1.1, .int .i64 p1.2] 119)).cell? ⟨wr.heap.size, 0, none⟩ = some (.int .i64 p1.1) := by simp
              have d1 : (wr.alloc (.cells #[.int .i64 p1.1, .int .i64 p1.2] 119)).cell? ⟨wr.heap.size, 1, none⟩ = some (.int .i64 p1.2) := by simp
              have d3 : (wr.alloc (.cells #[.int .i64 p1.1, .int .i64 p1.2] 119)).cell? ⟨b1, o1 + j * 2, none⟩ = some (.int .i64 p2.1) := by rw [World.cell?_alloc_lt _ _ _ (by show b1 < _; omega)]; exact c3
              have d4 : (wr.alloc (.cells #[.int .i64 p1.1, .int .i64 p1.2] 119)).cell? ⟨b1, o1 + j * 2 + 1, none⟩ = some (.int .i64 p2.2) := by rw [World.cell?_alloc_lt _ _ _ (by show b1 < _; omega)]; exact c4
              have hbW : Below w.heap.size w (wr.alloc (.cells #[.int .i64 p1.1, .int .i64 p1.2] 119)) := hb.alloc hb.size _
              generalize wr.alloc (.cells #[.int .i64 p1.1, .int .i64 p1.2] 119) = W1 at d0 d1 d3 d4 hbW ⊢
              have q0 := fun d os => cell_regrown d0 d os
              have q1 := fun d os => cell_regrown d1 d os
              have q3 := fun d os => cell_regrown d3 d os
              have q4 := fun d os => cell_regrown d4 d os
              clear c1 c2 d0 d1 c3 c4 d3 d4
              refine wp_region_quiet_below (by kernel_rfl) (by kernel_rfl) ?_
              repeat (any_goals (first | go_big_quiet_step ((first | (go_at_call 51; exact Calls.regrown_of (hat _)) | (go_at_call 80; exact Calls.regrown_of (hho _)) | (go_at_call 162; exact Calls.regrown_of (hle _)))) | quiet_step ((first | (go_at_call 51; exact Calls.regrown_of (hat _)) | (go_at_call 80; exact Calls.regrown_of (hho _)) | (go_at_call 162; exact Calls.regrown_of (hle _))))))
              refine wpQuiet_nil ?_
              intro _ hw'
              obtain ⟨⟨dq, osq⟩, hw''⟩ := hw'
              subst hw''
              have hb3 := hbW.trans ((below_regrown W1 dq osq).mono hbW.size)
              generalize grow (redrawn W1 dq) osq = w2 at hb3 ⊢
              clear q0 q1 hbW hat q3 q4
              go_wp2
              refine ⟨⟨j + 1 + 1, by omega, by go_num, hn, hb3⟩, ?_⟩
              simp only [intOf]
              omega
            · have hn : Hid (rightB l = false) := rightB_no hlt (by simp [ctxAt, hp])
              have hle := fun W => l3Less_is (prAt l j) (prAt l (j + 1)) false (by simpa using hp) W
              clear hp ha1 ha2
              generalize prAt l (j + 1) = p1 at c1 c2 hat hho hle
              generalize prAt l j = p2 at c3 c4 hle
              clear hq
              go_wp2_with fail
              have d0 : (wr.alloc (.cells #[.int .i64 p1.1, .int .i64 p1.2] 119)).cell? ⟨wr.heap.size, 0, none⟩ = some (.int .i64 p1.1) := by simp
              have d1 : (wr.alloc (.cells #[.int .i64 p1.1, .int .i64 p1.2] 119)).cell? ⟨wr.heap.size, 1, none⟩ = some (.int .i64 p1.2) := by simp
              have d3 : (wr.alloc (.cells #[.int .i64 p1.1, .int .i64 p1.2] 119)).cell? ⟨b1, o1 + j * 2, none⟩ = some (.int .i64 p2.1) := by rw [World.cell?_alloc_lt _ _ _ (by show b1 < _; omega)]; exact c3
              have d4 : (wr.alloc (.cells #[.int .i64 p1.1, .int .i64 p1.2] 119)).cell? ⟨b1, o1 + j * 2 + 1, none⟩ = some (.int .i64 p2.2) := by rw [World.cell?_alloc_lt _ _ _ (by show b1 < _; omega)]; exact c4
              have hbW : Below w.heap.size w (wr.alloc (.cells #[.int .i64 p1.1, .int .i64 p1.2] 119)) := hb.alloc hb.size _
              generalize wr.alloc (.cells #[.int .i64 p1.1, .int .i64 p1.2] 119) = W1 at d0 d1 d3 d4 hbW ⊢
              have q0 := fun d os => cell_regrown d0 d os
              have q1 := fun d os => cell_regrown d1 d os
              have q3 := fun d os => cell_regrown d3 d os
              have q4 := fun d os => cell_regrown d4 d os
              clear c1 c2 d0 d1 c3 c4 d3 d4
              refine wp_region_quiet_below (by kernel_rfl) (by kernel_rfl) ?_
              repeat (any_goals (first | go_big_quiet_step ((first | (go_at_call 51; exact Calls.regrown_of (hat _)) | (go_at_call 80; exact Calls.regrown_of (hho _)) | (go_at_call 162; exact Calls.regrown_of (hle _)))) | quiet_step ((first | (go_at_call 51; exact Calls.regrown_of (hat _)) | (go_at_call 80; exact Calls.regrown_of (hho _)) | (go_at_call 162; exact Calls.regrown_of (hle _))))))
              refine wpQuiet_nil ?_
              intro _ hw'
              obtain ⟨⟨dq, osq⟩, hw''⟩ := hw'
              subst hw''
              have hb3 := hbW.trans ((below_regrown W1 dq osq).mono hbW.size)
              generalize grow (redrawn W1 dq) osq = w2 at hb3 ⊢
              clear q0 q1 hbW hat q3 q4
              go_wp2
              go_ret
              exact ⟨bool_end hn.out.symm, hb3⟩
        · have hho := fun W => l1In_is (prAt l k).2 0 9 false (by simpa [holeB] using ha2) W
          have hn : Hid (rightB l = false) := rightB_no hlt (by simp [ctxAt, ha2])
          clear ha1 ha2
          generalize prAt l k = p1 at c1 c2 hat hho
          clear hq hc1 hA
          go_wp2_with fail
          have d0 : (wr.alloc (.cells #[.int .i64 p1.1, .int .i64 p1.2] 119)).cell? ⟨wr.heap.size, 0, none⟩ = some (.int .i64 p1.1) := by simp
          have d1 : (wr.alloc (.cells #[.int .i64 p1.1, .int .i64 p1.2] 119)).cell? ⟨wr.heap.size, 1, none⟩ = some (.int .i64 p1.2) := by simp
          have hbW : Below w.heap.size w (wr.alloc (.cells #[.int .i64 p1.1, .int .i64 p1.2] 119)) := hb.alloc hb.size _
          generalize wr.alloc (.cells #[.int .i64 p1.1, .int .i64 p1.2] 119) = W1 at d0 d1 hbW ⊢
          have q0 := fun d os => cell_regrown d0 d os
          have q1 := fun d os => cell_regrown d1 d os
          clear c1 c2 d0 d1
          refine wp_region_quiet_below (by kernel_rfl) (by kernel_rfl) ?_
          repeat (any_goals (first | go_big_quiet_step ((first | (go_at_call 51; exact Calls.regrown_of (hat _)) | (go_at_call 80; exact Calls.regrown_of (hho _)) | (go_at_call 162; exact Calls.regrown_of (hle _)))) | quiet_step ((first | (go_at_call 51; exact Calls.regrown_of (hat _)) | (go_at_call 80; exact Calls.regrown_of (hho _)) | (go_at_call 162; exact Calls.regrown_of (hle _))))))
          refine wpQuiet_nil ?_
          intro _ hw'
          obtain ⟨⟨dq, osq⟩, hw''⟩ := hw'
          subst hw''
          have hb3 := hbW.trans ((below_regrown W1 dq osq).mono hbW.size)
          generalize grow (redrawn W1 dq) osq = w2 at hb3 ⊢
          clear q0 q1 hbW hat
          go_wp2
          go_ret
          exact ⟨bool_end hn.out.symm, hb3⟩
      · have hat := fun W => l1Atom_is (prAt l k).1 false (by simpa using ha1) W
        have hn : Hid (rightB l = false) := rightB_no hlt (by simp [ctxAt, ha1])
        clear ha1
        generalize prAt l k = p1 at c1 c2 hat
        clear hq hc1 hA
        go_wp2_with fail
        have d0 : (wr.alloc (.cells #[.int .i64 p1.1, .int .i64 p1.2] 119)).cell? ⟨wr.heap.size, 0, none⟩ = some (.int .i64 p1.1) := by simp
        have d1 : (wr.alloc (.cells #[.int .i64 p1.1, .int .i64 p1.2] 119)).cell? ⟨wr.heap.size, 1, none⟩ = some (.int .i64 p1.2) := by simp
        have hbW : Below w.heap.size w (wr.alloc (.cells #[.int .i64 p1.1, .int .i64 p1.2] 119)) := hb.alloc hb.size _
        generalize wr.alloc (.cells #[.int .i64 p1.1, .int .i64 p1.2] 119) = W1 at d0 d1 hbW ⊢
        have q0 := fun d os => cell_regrown d0 d os
        have q1 := fun d os => cell_regrown d1 d os
        clear c1 c2 d0 d1
        refine wp_region_quiet_below (by kernel_rfl) (by kernel_rfl) ?_
        repeat (any_goals (first | go_big_quiet_step ((first | (go_at_call 51; exact Calls.regrown_of (hat _)) | (go_at_call 80; exact Calls.regrown_of (hho _)) | (go_at_call 162; exact Calls.regrown_of (hle _)))) | quiet_step ((first | (go_at_call 51; exact Calls.regrown_of (hat _)) | (go_at_call 80; exact Calls.regrown_of (hho _)) | (go_at_call 162; exact Calls.regrown_of (hle _))))))
        refine wpQuiet_nil ?_
        intro _ hw'
        obtain ⟨⟨dq, osq⟩, hw''⟩ := hw'
        subst hw''
        have hb3 := hbW.trans ((below_regrown W1 dq osq).mono hbW.size)
        generalize grow (redrawn W1 dq) osq = w2 at hb3 ⊢
        clear q0 q1 hbW hat
        go_wp2
        go_ret
        exact ⟨bool_end hn.out.symm, hb3⟩
    · have hn : Hid (rightB l = true) := rightB_yes fun j hj => hq.out j (by omega)
      clear hq
      go_wp2
      go_ret
      exact ⟨bool_end hn.out.symm, hb⟩

theorem isContext_spec (A : Option Addr) (c : Nat) (l : List (Int × Int)) (w : World) (hA : PairsAt w A l) (hl : l.length ≤ 1099511627776) :
    Calls Tryz.prog 83 #[.slice A l.length c] w fun e w' => e = .returned (.bool (ctxB l)) ∧ Below w.heap.size w w' := by
  have hr := l3Right_any A c l w hA hl
  by_cases hb : rightB l = true
  · rw [hb] at hr
    by_cases h40 : l.length ≤ 40
    · have k0 : (l.length : Int) ≤ 40 := by omega
      have hn : Hid (ctxB l = true) := by show ctxB l = true; unfold ctxB; simp [h40, hb]
      go_enter Tryz.func83, Tryz.ntmps83
      go_wp2_with fail
      refine hr.mono ?_
      rintro e w1 ⟨rfl, hb1⟩
      go_wp2
      go_ret
      exact ⟨bool_end hn.out.symm, hb1⟩
    · have k0 : ¬ (l.length : Int) ≤ 40 := by omega
      have k1 : 40 < (l.length : Int) := by omega
      have hn : Hid (ctxB l = false) := by show ctxB l = false; unfold ctxB; simp [h40]
      clear h40
      go_enter Tryz.func83, Tryz.ntmps83
      go_wp2_with fail
      refine hr.mono ?_
      rintro e w1 ⟨rfl, hb1⟩
      go_wp2
      go_ret
      exact ⟨bool_end ((decide_eq_false (by omega)).trans hn.out.symm), hb1⟩
  · have hb' : rightB l = false := by simpa using hb
    rw [hb'] at hr
    have hn : Hid (ctxB l = false) := by show ctxB l = false; unfold ctxB; simp [hb']
    clear hb hb'
    go_enter Tryz.func83, Tryz.ntmps83
    go_wp2_with fail
    refine hr.mono ?_
    rintro e w1 ⟨rfl, hb1⟩
    go_wp2
    go_ret
    exact ⟨bool_end hn.out.symm, hb1⟩

end Go.Proofs.YtlhjgjfnmejiaaaGreat
end

