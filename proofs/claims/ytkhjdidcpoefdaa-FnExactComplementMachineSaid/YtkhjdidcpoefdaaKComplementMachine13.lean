/-
  Whether a machine is valid, as the model decides it: a contract.
-/
import Derived.Test.YtkhjdidcpoefdaaKComplementMachine12
namespace Go.Proofs.Ytkhjdidcpoefdaa
open Go.RowKit Go.Sort
set_option linter.unusedVariables false

set_option maxRecDepth 100000 in
set_option maxHeartbeats 4000000 in
theorem isMachine_specA (t : Mach) (hs : t.ac.length ≤ 1099511627776 ∧ t.mv.length ≤ 1099511627776) (x : Value) (w : World) (hx : MachIn w x t) (hst1 : ¬ (1 ≤ t.st ∧ t.st ≤ 9)) :
    Calls Try.prog 16 #[x] w fun e w' => e = .returned (.bool (machB t)) ∧ Below w.heap.size w w' := by
  obtain ⟨A, c, B, d, rfl, hA, hB⟩ := hx
  obtain ⟨hs1, hs2⟩ := hs
  have hn := Lib.hid (headB_no (t := t) (fun h => hst1 h.1))
  have hst := fun W => inR_below t.st 1 9 false (decide_eq_false hst1).symm W
  have hrg := hst
  have hca := hst
  clear hA hB
  obtain ⟨st, rg, l, p⟩ := t
  dsimp only at *
  have hbW : Below w.heap.size w (w.alloc (.cells #[.int .i64 st, .int .i64 rg, .slice A l.length c, .slice B p.length d] 30)) := (Below.refl _ _).alloc (Nat.le_refl _) _
  have hbx := heap_alloc_new w (.cells #[.int .i64 st, .int .i64 rg, .slice A l.length c, .slice B p.length d] 30)
  obtain ⟨d0, d1, d2, d3⟩ := MachK.row4 hbx
  have q0 := fun d os => cell_regrown d0 d os
  have q1 := fun d os => cell_regrown d1 d os
  have q2 := fun d os => cell_regrown d2 d os
  have q3 := fun d os => cell_regrown d3 d os
  clear d0 d1 d2 d3 hbx
  clear hst1
  go_enter Try.func16, Try.ntmps16
  go_wp2
  generalize (w.alloc (.cells #[.int .i64 st, .int .i64 rg, .slice A l.length c, .slice B p.length d] 30)) = W1 at hbW q0 q1 q2 q3 ⊢
  refine wp_region_quiet_below (by kernel_rfl) (by kernel_rfl) ?_
  repeat (any_goals (first | go_big_quiet_step ((first | (go_at_call 53; (first | (with_reducible exact Calls.regrown_of (hst _)) | (with_reducible exact Calls.regrown_of (hrg _)))) | (go_at_call 54; exact Calls.regrown_of (hca _)))) | quiet_step ((first | (go_at_call 53; (first | (with_reducible exact Calls.regrown_of (hst _)) | (with_reducible exact Calls.regrown_of (hrg _)))) | (go_at_call 54; exact Calls.regrown_of (hca _))))))
  refine wpQuiet_nil ?_
  intro _ hw'
  obtain ⟨⟨dq, osq⟩, hw''⟩ := hw'
  subst hw''
  have hb3 := hbW.trans ((below_regrown W1 dq osq).mono hbW.size)
  generalize grow (redrawn W1 dq) osq = w2 at hb3 ⊢
  clear hbW q0 q1 q2 q3
  go_wp2
  go_ret
  exact ⟨bool_end hn.out.symm, hb3⟩
set_option maxRecDepth 100000 in
set_option maxHeartbeats 4000000 in
theorem isMachine_specB (t : Mach) (hs : t.ac.length ≤ 1099511627776 ∧ t.mv.length ≤ 1099511627776) (x : Value) (w : World) (hx : MachIn w x t) (hst1 : 1 ≤ t.st ∧ t.st ≤ 9) (hrg1 : ¬ (0 ≤ t.rg ∧ t.rg ≤ 3)) :
    Calls Try.prog 16 #[x] w fun e w' => e = .returned (.bool (machB t)) ∧ Below w.heap.size w w' := by
  obtain ⟨A, c, B, d, rfl, hA, hB⟩ := hx
  obtain ⟨hs1, hs2⟩ := hs
  have hst := fun W => inR_below t.st 1 9 true (decide_eq_true hst1).symm W
  have hn := Lib.hid (headB_no (t := t) (fun h => hrg1 h.2))
  have hrg := fun W => inR_below t.rg 0 3 false (decide_eq_false hrg1).symm W
  have hca := hst
  clear hA hB
  obtain ⟨st, rg, l, p⟩ := t
  dsimp only at *
  have hbW : Below w.heap.size w (w.alloc (.cells #[.int .i64 st, .int .i64 rg, .slice A l.length c, .slice B p.length d] 30)) := (Below.refl _ _).alloc (Nat.le_refl _) _
  have hbx := heap_alloc_new w (.cells #[.int .i64 st, .int .i64 rg, .slice A l.length c, .slice B p.length d] 30)
  obtain ⟨d0, d1, d2, d3⟩ := MachK.row4 hbx
  have q0 := fun d os => cell_regrown d0 d os
  have q1 := fun d os => cell_regrown d1 d os
  have q2 := fun d os => cell_regrown d2 d os
  have q3 := fun d os => cell_regrown d3 d os
  clear d0 d1 d2 d3 hbx
  clear hst1 hrg1
  go_enter Try.func16, Try.ntmps16
  go_wp2
  generalize (w.alloc (.cells #[.int .i64 st, .int .i64 rg, .slice A l.length c, .slice B p.length d] 30)) = W1 at hbW q0 q1 q2 q3 ⊢
  refine wp_region_quiet_below (by kernel_rfl) (by kernel_rfl) ?_
  repeat (any_goals (first | go_big_quiet_step ((first | (go_at_call 53; (first | (with_reducible exact Calls.regrown_of (hst _)) | (with_reducible exact Calls.regrown_of (hrg _)))) | (go_at_call 54; exact Calls.regrown_of (hca _)))) | quiet_step ((first | (go_at_call 53; (first | (with_reducible exact Calls.regrown_of (hst _)) | (with_reducible exact Calls.regrown_of (hrg _)))) | (go_at_call 54; exact Calls.regrown_of (hca _))))))
  refine wpQuiet_nil ?_
  intro _ hw'
  obtain ⟨⟨dq, osq⟩, hw''⟩ := hw'
  subst hw''
  have hb3 := hbW.trans ((below_regrown W1 dq osq).mono hbW.size)
  generalize grow (redrawn W1 dq) osq = w2 at hb3 ⊢
  clear hbW q0 q1 q2 q3
  go_wp2
  go_ret
  exact ⟨bool_end hn.out.symm, hb3⟩
set_option maxRecDepth 100000 in
set_option maxHeartbeats 4000000 in
theorem isMachine_specC (t : Mach) (hs : t.ac.length ≤ 1099511627776 ∧ t.mv.length ≤ 1099511627776) (x : Value) (w : World) (hx : MachIn w x t) (hst1 : 1 ≤ t.st ∧ t.st ≤ 9) (hrg1 : 0 ≤ t.rg ∧ t.rg ≤ 3) (hl : ¬ (t.ac.length : Int) = t.st) :
    Calls Try.prog 16 #[x] w fun e w' => e = .returned (.bool (machB t)) ∧ Below w.heap.size w w' := by
  obtain ⟨A, c, B, d, rfl, hA, hB⟩ := hx
  obtain ⟨hs1, hs2⟩ := hs
  have hst := fun W => inR_below t.st 1 9 true (decide_eq_true hst1).symm W
  have hrg := fun W => inR_below t.rg 0 3 true (decide_eq_true (by omega)).symm W
  have hca := fun W => l7Cases_any t.st t.rg (.slice A t.ac.length c) (.slice B t.mv.length d) W (by omega) (by omega)
  have hn := Lib.hid (lenB_no (t := t) (fun h => hl h.1))
  clear hA hB
  obtain ⟨st, rg, l, p⟩ := t
  dsimp only at *
  have hbW : Below w.heap.size w (w.alloc (.cells #[.int .i64 st, .int .i64 rg, .slice A l.length c, .slice B p.length d] 30)) := (Below.refl _ _).alloc (Nat.le_refl _) _
  have hbx := heap_alloc_new w (.cells #[.int .i64 st, .int .i64 rg, .slice A l.length c, .slice B p.length d] 30)
  obtain ⟨d0, d1, d2, d3⟩ := MachK.row4 hbx
  have q0 := fun d os => cell_regrown d0 d os
  have q1 := fun d os => cell_regrown d1 d os
  have q2 := fun d os => cell_regrown d2 d os
  have q3 := fun d os => cell_regrown d3 d os
  clear d0 d1 d2 d3 hbx
  have ha2 : ((l.length : Int) != st) = true := by simp [hl]
  clear hst1 hrg1 hl
  go_enter Try.func16, Try.ntmps16
  go_wp2
  generalize (w.alloc (.cells #[.int .i64 st, .int .i64 rg, .slice A l.length c, .slice B p.length d] 30)) = W1 at hbW q0 q1 q2 q3 ⊢
  refine wp_region_quiet_below (by kernel_rfl) (by kernel_rfl) ?_
  repeat (any_goals (first | go_big_quiet_step ((first | (go_at_call 53; (first | (with_reducible exact Calls.regrown_of (hst _)) | (with_reducible exact Calls.regrown_of (hrg _)))) | (go_at_call 54; exact Calls.regrown_of (hca _)))) | quiet_step ((first | (go_at_call 53; (first | (with_reducible exact Calls.regrown_of (hst _)) | (with_reducible exact Calls.regrown_of (hrg _)))) | (go_at_call 54; exact Calls.regrown_of (hca _))))))
  refine wpQuiet_nil ?_
  intro _ hw'
  obtain ⟨⟨dq, osq⟩, hw''⟩ := hw'
  subst hw''
  have hb3 := hbW.trans ((below_regrown W1 dq osq).mono hbW.size)
  generalize grow (redrawn W1 dq) osq = w2 at hb3 ⊢
  clear hbW q0 q1 q2 q3
  go_wp2
  go_ret
  exact ⟨bool_end hn.out.symm, hb3⟩
set_option maxRecDepth 100000 in
set_option maxHeartbeats 4000000 in
theorem isMachine_specD0 (t : Mach) (hs : t.ac.length ≤ 1099511627776 ∧ t.mv.length ≤ 1099511627776) (x : Value) (w : World) (hx : MachIn w x t) (hst1 : 1 ≤ t.st ∧ t.st ≤ 9) (hk : t.rg = 0) (ha : (t.ac.length : Int) = t.st) (hl : ¬ (t.mv.length : Int) = t.st * casZ t.rg) :
    Calls Try.prog 16 #[x] w fun e w' => e = .returned (.bool (machB t)) ∧ Below w.heap.size w w' := by
  obtain ⟨A, c, B, d, rfl, hA, hB⟩ := hx
  obtain ⟨hs1, hs2⟩ := hs
  have hst := fun W => inR_below t.st 1 9 true (decide_eq_true hst1).symm W
  have hrg := fun W => inR_below t.rg 0 3 true (decide_eq_true (by omega)).symm W
  have hca := fun W => l7Cases_any t.st t.rg (.slice A t.ac.length c) (.slice B t.mv.length d) W (by omega) (by omega)
  have hn := Lib.hid (lenB_no (t := t) (fun h => hl h.2))
  clear hA hB
  obtain ⟨st, rg, l, p⟩ := t
  dsimp only at *
  have hbW : Below w.heap.size w (w.alloc (.cells #[.int .i64 st, .int .i64 rg, .slice A l.length c, .slice B p.length d] 30)) := (Below.refl _ _).alloc (Nat.le_refl _) _
  have hbx := heap_alloc_new w (.cells #[.int .i64 st, .int .i64 rg, .slice A l.length c, .slice B p.length d] 30)
  obtain ⟨d0, d1, d2, d3⟩ := MachK.row4 hbx
  have q0 := fun d os => cell_regrown d0 d os
  have q1 := fun d os => cell_regrown d1 d os
  have q2 := fun d os => cell_regrown d2 d os
  have q3 := fun d os => cell_regrown d3 d os
  clear d0 d1 d2 d3 hbx
  obtain ⟨s1, s9⟩ := hst1
  subst hk
  have hcz : casZ 0 = 1 := rfl
  rw [hcz] at hca hl
  have ha2 : ((l.length : Int) != st) = false := by simp [ha]
  have hm2 : ((p.length : Int) != st) = true := by simp only [bne_iff_ne]; omega
  clear hl ha
  go_enter Try.func16, Try.ntmps16
  go_wp2
  generalize (w.alloc (.cells #[.int .i64 st, .int .i64 0, .slice A l.length c, .slice B p.length d] 30)) = W1 at hbW q0 q1 q2 q3 ⊢
  refine wp_region_quiet_below (by kernel_rfl) (by kernel_rfl) ?_
  repeat (any_goals (first | go_big_quiet_step ((first | (go_at_call 53; (first | (with_reducible exact Calls.regrown_of (hst _)) | (with_reducible exact Calls.regrown_of (hrg _)))) | (go_at_call 54; exact Calls.regrown_of (hca _)))) | quiet_step ((first | (go_at_call 53; (first | (with_reducible exact Calls.regrown_of (hst _)) | (with_reducible exact Calls.regrown_of (hrg _)))) | (go_at_call 54; exact Calls.regrown_of (hca _))))))
  refine wpQuiet_nil ?_
  intro _ hw'
  obtain ⟨⟨dq, osq⟩, hw''⟩ := hw'
  subst hw''
  have hb3 := hbW.trans ((below_regrown W1 dq osq).mono hbW.size)
  generalize grow (redrawn W1 dq) osq = w2 at hb3 ⊢
  clear hbW q0 q1 q2 q3
  go_wp2
  go_ret
  exact ⟨bool_end hn.out.symm, hb3⟩
set_option maxRecDepth 100000 in
set_option maxHeartbeats 4000000 in
theorem isMachine_specE0 (t : Mach) (hs : t.ac.length ≤ 1099511627776 ∧ t.mv.length ≤ 1099511627776) (x : Value) (w : World) (hx : MachIn w x t) (hst1 : 1 ≤ t.st ∧ t.st ≤ 9) (hk : t.rg = 0) (ha : (t.ac.length : Int) = t.st) (hl : (t.mv.length : Int) = t.st * casZ t.rg) :
    Calls Try.prog 16 #[x] w fun e w' => e = .returned (.bool (machB t)) ∧ Below w.heap.size w w' := by
  obtain ⟨A, c, B, d, rfl, hA, hB⟩ := hx
  obtain ⟨hs1, hs2⟩ := hs
  have hst := fun W => inR_below t.st 1 9 true (decide_eq_true hst1).symm W
  have hrg := fun W => inR_below t.rg 0 3 true (decide_eq_true (by omega)).symm W
  have hca := fun W => l7Cases_any t.st t.rg (.slice A t.ac.length c) (.slice B t.mv.length d) W (by omega) (by omega)
  have hcl := Lib.hid (machB_mov (t := t) ⟨hst1, by omega⟩ ⟨ha, hl⟩)
  have hq0 := Lib.hid (show (∀ j, j < t.mv.length → mvB t.st t.rg (prAt t.mv j) = true) → machB t = true from fun h => hcl.out.trans (movB_yes h))
  have hq1 := Lib.hid (fun i (hi : i < t.mv.length) (h : mvB t.st t.rg (prAt t.mv i) = false) => movB_no hi h)
  clear hcl hA
  obtain ⟨st, rg, l, p⟩ := t
  dsimp only at *
  have hbW : Below w.heap.size w (w.alloc (.cells #[.int .i64 st, .int .i64 rg, .slice A l.length c, .slice B p.length d] 30)) := (Below.refl _ _).alloc (Nat.le_refl _) _
  have hbx := heap_alloc_new w (.cells #[.int .i64 st, .int .i64 rg, .slice A l.length c, .slice B p.length d] 30)
  obtain ⟨d0, d1, d2, d3⟩ := MachK.row4 hbx
  have q0 := fun d os => cell_regrown d0 d os
  have q1 := fun d os => cell_regrown d1 d os
  have q2 := fun d os => cell_regrown d2 d os
  have q3 := fun d os => cell_regrown d3 d os
  clear d0 d1 d2 d3 hbx
  obtain ⟨s1, s9⟩ := hst1
  subst hk
  have hcz : casZ 0 = 1 := rfl
  rw [hcz] at hca hl
  have hm := hl
  have ha2 : ((l.length : Int) != st) = false := by simp [ha]
  have hm2 : ((p.length : Int) != st) = false := by simp only [bne_eq_false_iff_eq]; omega
  have h0W : w.heap.size < (w.alloc (.cells #[.int .i64 st, .int .i64 0, .slice A l.length c, .slice B p.length d] 30)).heap.size := by simp
  clear hl ha
  go_enter Try.func16, Try.ntmps16
  go_wp2
  generalize (w.alloc (.cells #[.int .i64 st, .int .i64 0, .slice A l.length c, .slice B p.length d] 30)) = W1 at hbW q0 q1 q2 q3 h0W ⊢
  refine wp_region_quiet_below (by kernel_rfl) (by kernel_rfl) ?_
  repeat (any_goals (first | go_big_quiet_step ((first | (go_at_call 53; (first | (with_reducible exact Calls.regrown_of (hst _)) | (with_reducible exact Calls.regrown_of (hrg _)))) | (go_at_call 54; exact Calls.regrown_of (hca _)))) | quiet_step ((first | (go_at_call 53; (first | (with_reducible exact Calls.regrown_of (hst _)) | (with_reducible exact Calls.regrown_of (hrg _)))) | (go_at_call 54; exact Calls.regrown_of (hca _))))))
  refine wpQuiet_nil ?_
  intro _ hw'
  obtain ⟨⟨dq, osq⟩, hw''⟩ := hw'
  subst hw''
  have hb3 := hbW.trans ((below_regrown W1 dq osq).mono hbW.size)
  have d0 := q0 dq osq
  have d1 := q1 dq osq
  have d2 := q2 dq osq
  have d3 := q3 dq osq
  have hlt0 : w.heap.size < (grow (redrawn W1 dq) osq).heap.size := by have := (below_regrown W1 dq osq).size; omega
  generalize grow (redrawn W1 dq) osq = w2 at hb3 d0 d1 d2 d3 hlt0 ⊢
  clear hbW q0 q1 q2 q3 h0W hst hrg hca
  go_wp2
  go_loopw [37] (fun i wr => ∃ k : Nat, k ≤ p.length ∧ i = .int .i64 k ∧ Hid (∀ j, j < k → mvB st 0 (prAt p j) = true) ∧ Below w2.heap.size w2 wr) (fun i _ => p.length - (intOf i).toNat)
  case atStart => exact ⟨0, Nat.zero_le _, rfl, fun j hj => absurd hj (by omega), Below.refl _ _⟩
  case round =>
    obtain ⟨k, hk, rfl, hq, hb⟩ := hrel
    have hbw := hb3.trans (hb.mono hb3.size)
    by_cases hlt : k < p.length
    · obtain ⟨b1, o1, rfl, hb1, hc1⟩ := hB (by omega)
      obtain ⟨c1, c2⟩ := hc1 k hlt
      rw [← hbw.cell (p := ⟨b1, _, none⟩) hb1] at c1 c2
      have hbs := hbw.size
      have e0 := (hb.cell (p := ⟨w.heap.size, 0, none⟩) hlt0).trans d0
      have e1 := (hb.cell (p := ⟨w.heap.size, 1, none⟩) hlt0).trans d1
      have e3 := (hb.cell (p := ⟨w.heap.size, 3, none⟩) hlt0).trans d3
      have hltX : (k : Int) < st := by omega
      have hlt1 : w.heap.size < wr.heap.size := by have := hb.size; omega
      have hbn := hb.alloc hb.size (.cells #[.int .i64 (prAt p k).1, .int .i64 (prAt p k).2] 70)
      have hq1k := Lib.hid (hq1.out k hlt)
      have hqn := Lib.hid (show mvB st 0 (prAt p k) = true → ∀ j, j < k + 1 → mvB st 0 (prAt p j) = true from fun h j hj => if e : j = k then e ▸ h else hq.out j (by omega))
      generalize prAt p k = m at c1 c2 hq1k hqn hbn
      obtain ⟨m1, m2⟩ := m
      dsimp only at c1 c2 hbn
      clear hq hc1 hB hq0 hq1 d0 d1 d2 d3 hm ha2
      by_cases h1 : 0 ≤ m1 ∧ m1 ≤ st - 1
      · have hi1 := fun W => inR_is m1 0 (st - 1) true (decide_eq_true h1).symm W
        by_cases h2 : -1 ≤ m2 ∧ m2 ≤ 0 - 1
        · have hi2 := fun W => inR_is m2 (-1) (-1) true (decide_eq_true (by omega)).symm W
          have hgo := Lib.hid (hqn.out (by unfold mvB; simp; omega))
          clear hqn hq1k h1 h2
          go_wp2_with ((first | ((with_reducible refine (hi1 _).mono ?_); rintro e w9 ⟨rfl, rfl⟩) | ((with_reducible refine (hi2 _).mono ?_); rintro e w9 ⟨rfl, rfl⟩)))
          refine ⟨⟨k + 1, by omega, by go_num, hgo, hbn⟩, ?_⟩
          simp only [intOf]
          omega
        · have hi2 := fun W => inR_is m2 (-1) (-1) false (decide_eq_false (by omega)).symm W
          have hn := Lib.hid (hq1k.out (by unfold mvB; simp; omega))
          have hend := hb3.trans (hbn.mono hb3.size)
          clear hqn hq1k hbn h1 h2
          go_wp2_with ((first | ((with_reducible refine (hi1 _).mono ?_); rintro e w9 ⟨rfl, rfl⟩) | ((with_reducible refine (hi2 _).mono ?_); rintro e w9 ⟨rfl, rfl⟩)))
          go_ret
          exact ⟨bool_end hn.out.symm, hend⟩
      · have hi1 := fun W => inR_is m1 0 (st - 1) false (decide_eq_false h1).symm W
        have hn := Lib.hid (hq1k.out (by unfold mvB; simp; omega))
        have hend := hb3.trans (hbn.mono hb3.size)
        clear hqn hq1k hbn h1
        go_wp2_with ((with_reducible refine (hi1 _).mono ?_); rintro e w9 ⟨rfl, rfl⟩)
        go_ret
        exact ⟨bool_end hn.out.symm, hend⟩
    · have hn := Lib.hid (hq0.out fun j hj => hq.out j (by omega))
      have hltX : ¬ (k : Int) < st := by omega
      clear hq hq1 hq0 d0 d1 d2 d3 hB
      go_wp2
      go_ret
      exact ⟨bool_end hn.out.symm, hbw⟩
set_option maxRecDepth 100000 in
set_option maxHeartbeats 4000000 in
theorem isMachine_specD1 (t : Mach) (hs : t.ac.length ≤ 1099511627776 ∧ t.mv.length ≤ 1099511627776) (x : Value) (w : World) (hx : MachIn w x t) (hst1 : 1 ≤ t.st ∧ t.st ≤ 9) (hk : t.rg = 1) (ha : (t.ac.length : Int) = t.st) (hl : ¬ (t.mv.length : Int) = t.st * casZ t.rg) :
    Calls Try.prog 16 #[x] w fun e w' => e = .returned (.bool (machB t)) ∧ Below w.heap.size w w' := by
  obtain ⟨A, c, B, d, rfl, hA, hB⟩ := hx
  obtain ⟨hs1, hs2⟩ := hs
  have hst := fun W => inR_below t.st 1 9 true (decide_eq_true hst1).symm W
  have hrg := fun W => inR_below t.rg 0 3 true (decide_eq_true (by omega)).symm W
  have hca := fun W => l7Cases_any t.st t.rg (.slice A t.ac.length c) (.slice B t.mv.length d) W (by omega) (by omega)
  have hn := Lib.hid (lenB_no (t := t) (fun h => hl h.2))
  clear hA hB
  obtain ⟨st, rg, l, p⟩ := t
  dsimp only at *
  have hbW : Below w.heap.size w (w.alloc (.cells #[.int .i64 st, .int .i64 rg, .slice A l.length c, .slice B p.length d] 30)) := (Below.refl _ _).alloc (Nat.le_refl _) _
  have hbx := heap_alloc_new w (.cells #[.int .i64 st, .int .i64 rg, .slice A l.length c, .slice B p.length d] 30)
  obtain ⟨d0, d1, d2, d3⟩ := MachK.row4 hbx
  have q0 := fun d os => cell_regrown d0 d os
  have q1 := fun d os => cell_regrown d1 d os
  have q2 := fun d os => cell_regrown d2 d os
  have q3 := fun d os => cell_regrown d3 d os
  clear d0 d1 d2 d3 hbx
  obtain ⟨s1, s9⟩ := hst1
  subst hk
  have hcz : casZ 1 = 2 := rfl
  rw [hcz] at hca hl
  have ha2 : ((l.length : Int) != st) = false := by simp [ha]
  have hm2 : ((p.length : Int) != st * 2) = true := by simp only [bne_iff_ne]; omega
  clear hl ha
  go_enter Try.func16, Try.ntmps16
  go_wp2
  generalize (w.alloc (.cells #[.int .i64 st, .int .i64 1, .slice A l.length c, .slice B p.length d] 30)) = W1 at hbW q0 q1 q2 q3 ⊢
  refine wp_region_quiet_below (by kernel_rfl) (by kernel_rfl) ?_
  repeat (any_goals (first | go_big_quiet_step ((first | (go_at_call 53; (first | (with_reducible exact Calls.regrown_of (hst _)) | (with_reducible exact Calls.regrown_of (hrg _)))) | (go_at_call 54; exact Calls.regrown_of (hca _)))) | quiet_step ((first | (go_at_call 53; (first | (with_reducible exact Calls.regrown_of (hst _)) | (with_reducible exact Calls.regrown_of (hrg _)))) | (go_at_call 54; exact Calls.regrown_of (hca _))))))
  refine wpQuiet_nil ?_
  intro _ hw'
  obtain ⟨⟨dq, osq⟩, hw''⟩ := hw'
  subst hw''
  have hb3 := hbW.trans ((below_regrown W1 dq osq).mono hbW.size)
  generalize grow (redrawn W1 dq) osq = w2 at hb3 ⊢
  clear hbW q0 q1 q2 q3
  go_wp2
  go_ret
  exact ⟨bool_end hn.out.symm, hb3⟩
set_option maxRecDepth 100000 in
set_option maxHeartbeats 4000000 in
theorem isMachine_specE1 (t : Mach) (hs : t.ac.length ≤ 1099511627776 ∧ t.mv.length ≤ 1099511627776) (x : Value) (w : World) (hx : MachIn w x t) (hst1 : 1 ≤ t.st ∧ t.st ≤ 9) (hk : t.rg = 1) (ha : (t.ac.length : Int) = t.st) (hl : (t.mv.length : Int) = t.st * casZ t.rg) :
    Calls Try.prog 16 #[x] w fun e w' => e = .returned (.bool (machB t)) ∧ Below w.heap.size w w' := by
  obtain ⟨A, c, B, d, rfl, hA, hB⟩ := hx
  obtain ⟨hs1, hs2⟩ := hs
  have hst := fun W => inR_below t.st 1 9 true (decide_eq_true hst1).symm W
  have hrg := fun W => inR_below t.rg 0 3 true (decide_eq_true (by omega)).symm W
  have hca := fun W => l7Cases_any t.st t.rg (.slice A t.ac.length c) (.slice B t.mv.length d) W (by omega) (by omega)
  have hcl := Lib.hid (machB_mov (t := t) ⟨hst1, by omega⟩ ⟨ha, hl⟩)
  have hq0 := Lib.hid (show (∀ j, j < t.mv.length → mvB t.st t.rg (prAt t.mv j) = true) → machB t = true from fun h => hcl.out.trans (movB_yes h))
  have hq1 := Lib.hid (fun i (hi : i < t.mv.length) (h : mvB t.st t.rg (prAt t.mv i) = false) => movB_no hi h)
  clear hcl hA
  obtain ⟨st, rg, l, p⟩ := t
  dsimp only at *
  have hbW : Below w.heap.size w (w.alloc (.cells #[.int .i64 st, .int .i64 rg, .slice A l.length c, .slice B p.length d] 30)) := (Below.refl _ _).alloc (Nat.le_refl _) _
  have hbx := heap_alloc_new w (.cells #[.int .i64 st, .int .i64 rg, .slice A l.length c, .slice B p.length d] 30)
  obtain ⟨d0, d1, d2, d3⟩ := MachK.row4 hbx
  have q0 := fun d os => cell_regrown d0 d os
  have q1 := fun d os => cell_regrown d1 d os
  have q2 := fun d os => cell_regrown d2 d os
  have q3 := fun d os => cell_regrown d3 d os
  clear d0 d1 d2 d3 hbx
  obtain ⟨s1, s9⟩ := hst1
  subst hk
  have hcz : casZ 1 = 2 := rfl
  rw [hcz] at hca hl
  have hm := hl
  have ha2 : ((l.length : Int) != st) = false := by simp [ha]
  have hm2 : ((p.length : Int) != st * 2) = false := by simp only [bne_eq_false_iff_eq]; omega
  have h0W : w.heap.size < (w.alloc (.cells #[.int .i64 st, .int .i64 1, .slice A l.length c, .slice B p.length d] 30)).heap.size := by simp
  clear hl ha
  go_enter Try.func16, Try.ntmps16
  go_wp2
  generalize (w.alloc (.cells #[.int .i64 st, .int .i64 1, .slice A l.length c, .slice B p.length d] 30)) = W1 at hbW q0 q1 q2 q3 h0W ⊢
  refine wp_region_quiet_below (by kernel_rfl) (by kernel_rfl) ?_
  repeat (any_goals (first | go_big_quiet_step ((first | (go_at_call 53; (first | (with_reducible exact Calls.regrown_of (hst _)) | (with_reducible exact Calls.regrown_of (hrg _)))) | (go_at_call 54; exact Calls.regrown_of (hca _)))) | quiet_step ((first | (go_at_call 53; (first | (with_reducible exact Calls.regrown_of (hst _)) | (with_reducible exact Calls.regrown_of (hrg _)))) | (go_at_call 54; exact Calls.regrown_of (hca _))))))
  refine wpQuiet_nil ?_
  intro _ hw'
  obtain ⟨⟨dq, osq⟩, hw''⟩ := hw'
  subst hw''
  have hb3 := hbW.trans ((below_regrown W1 dq osq).mono hbW.size)
  have d0 := q0 dq osq
  have d1 := q1 dq osq
  have d2 := q2 dq osq
  have d3 := q3 dq osq
  have hlt0 : w.heap.size < (grow (redrawn W1 dq) osq).heap.size := by have := (below_regrown W1 dq osq).size; omega
  generalize grow (redrawn W1 dq) osq = w2 at hb3 d0 d1 d2 d3 hlt0 ⊢
  clear hbW q0 q1 q2 q3 h0W hst hrg hca
  go_wp2
  go_loopw [37] (fun i wr => ∃ k : Nat, k ≤ p.length ∧ i = .int .i64 k ∧ Hid (∀ j, j < k → mvB st 1 (prAt p j) = true) ∧ Below w2.heap.size w2 wr) (fun i _ => p.length - (intOf i).toNat)
  case atStart => exact ⟨0, Nat.zero_le _, rfl, fun j hj => absurd hj (by omega), Below.refl _ _⟩
  case round =>
    obtain ⟨k, hk, rfl, hq, hb⟩ := hrel
    have hbw := hb3.trans (hb.mono hb3.size)
    by_cases hlt : k < p.length
    · obtain ⟨b1, o1, rfl, hb1, hc1⟩ := hB (by omega)
      obtain ⟨c1, c2⟩ := hc1 k hlt
      rw [← hbw.cell (p := ⟨b1, _, none⟩) hb1] at c1 c2
      have hbs := hbw.size
      have e0 := (hb.cell (p := ⟨w.heap.size, 0, none⟩) hlt0).trans d0
      have e1 := (hb.cell (p := ⟨w.heap.size, 1, none⟩) hlt0).trans d1
      have e3 := (hb.cell (p := ⟨w.heap.size, 3, none⟩) hlt0).trans d3
      have hltX : (k : Int) < st * 2 := by omega
      have hlt1 : w.heap.size < wr.heap.size := by have := hb.size; omega
      have hbn := hb.alloc hb.size (.cells #[.int .i64 (prAt p k).1, .int .i64 (prAt p k).2] 70)
      have hq1k := Lib.hid (hq1.out k hlt)
      have hqn := Lib.hid (show mvB st 1 (prAt p k) = true → ∀ j, j < k + 1 → mvB st 1 (prAt p j) = true from fun h j hj => if e : j = k then e ▸ h else hq.out j (by omega))
      generalize prAt p k = m at c1 c2 hq1k hqn hbn
      obtain ⟨m1, m2⟩ := m
      dsimp only at c1 c2 hbn
      clear hq hc1 hB hq0 hq1 d0 d1 d2 d3 hm ha2
      by_cases h1 : 0 ≤ m1 ∧ m1 ≤ st - 1
      · have hi1 := fun W => inR_is m1 0 (st - 1) true (decide_eq_true h1).symm W
        by_cases h2 : -1 ≤ m2 ∧ m2 ≤ 1 - 1
        · have hi2 := fun W => inR_is m2 (-1) (0) true (decide_eq_true (by omega)).symm W
          have hgo := Lib.hid (hqn.out (by unfold mvB; simp; omega))
          clear hqn hq1k h1 h2
          go_wp2_with ((first | ((with_reducible refine (hi1 _).mono ?_); rintro e w9 ⟨rfl, rfl⟩) | ((with_reducible refine (hi2 _).mono ?_); rintro e w9 ⟨rfl, rfl⟩)))
          refine ⟨⟨k + 1, by omega, by go_num, hgo, hbn⟩, ?_⟩
          simp only [intOf]
          omega
        · have hi2 := fun W => inR_is m2 (-1) (0) false (decide_eq_false (by omega)).symm W
          have hn := Lib.hid (hq1k.out (by unfold mvB; simp; omega))
          have hend := hb3.trans (hbn.mono hb3.size)
          clear hqn hq1k hbn h1 h2
          go_wp2_with ((first | ((with_reducible refine (hi1 _).mono ?_); rintro e w9 ⟨rfl, rfl⟩) | ((with_reducible refine (hi2 _).mono ?_); rintro e w9 ⟨rfl, rfl⟩)))
          go_ret
          exact ⟨bool_end hn.out.symm, hend⟩
      · have hi1 := fun W => inR_is m1 0 (st - 1) false (decide_eq_false h1).symm W
        have hn := Lib.hid (hq1k.out (by unfold mvB; simp; omega))
        have hend := hb3.trans (hbn.mono hb3.size)
        clear hqn hq1k hbn h1
        go_wp2_with ((with_reducible refine (hi1 _).mono ?_); rintro e w9 ⟨rfl, rfl⟩)
        go_ret
        exact ⟨bool_end hn.out.symm, hend⟩
    · have hn := Lib.hid (hq0.out fun j hj => hq.out j (by omega))
      have hltX : ¬ (k : Int) < st * 2 := by omega
      clear hq hq1 hq0 d0 d1 d2 d3 hB
      go_wp2
      go_ret
      exact ⟨bool_end hn.out.symm, hbw⟩
set_option maxRecDepth 100000 in
set_option maxHeartbeats 4000000 in
theorem isMachine_specD2 (t : Mach) (hs : t.ac.length ≤ 1099511627776 ∧ t.mv.length ≤ 1099511627776) (x : Value) (w : World) (hx : MachIn w x t) (hst1 : 1 ≤ t.st ∧ t.st ≤ 9) (hk : t.rg = 2) (ha : (t.ac.length : Int) = t.st) (hl : ¬ (t.mv.length : Int) = t.st * casZ t.rg) :
    Calls Try.prog 16 #[x] w fun e w' => e = .returned (.bool (machB t)) ∧ Below w.heap.size w w' := by
  obtain ⟨A, c, B, d, rfl, hA, hB⟩ := hx
  obtain ⟨hs1, hs2⟩ := hs
  have hst := fun W => inR_below t.st 1 9 true (decide_eq_true hst1).symm W
  have hrg := fun W => inR_below t.rg 0 3 true (decide_eq_true (by omega)).symm W
  have hca := fun W => l7Cases_any t.st t.rg (.slice A t.ac.length c) (.slice B t.mv.length d) W (by omega) (by omega)
  have hn := Lib.hid (lenB_no (t := t) (fun h => hl h.2))
  clear hA hB
  obtain ⟨st, rg, l, p⟩ := t
  dsimp only at *
  have hbW : Below w.heap.size w (w.alloc (.cells #[.int .i64 st, .int .i64 rg, .slice A l.length c, .slice B p.length d] 30)) := (Below.refl _ _).alloc (Nat.le_refl _) _
  have hbx := heap_alloc_new w (.cells #[.int .i64 st, .int .i64 rg, .slice A l.length c, .slice B p.length d] 30)
  obtain ⟨d0, d1, d2, d3⟩ := MachK.row4 hbx
  have q0 := fun d os => cell_regrown d0 d os
  have q1 := fun d os => cell_regrown d1 d os
  have q2 := fun d os => cell_regrown d2 d os
  have q3 := fun d os => cell_regrown d3 d os
  clear d0 d1 d2 d3 hbx
  obtain ⟨s1, s9⟩ := hst1
  subst hk
  have hcz : casZ 2 = 4 := rfl
  rw [hcz] at hca hl
  have ha2 : ((l.length : Int) != st) = false := by simp [ha]
  have hm2 : ((p.length : Int) != st * 4) = true := by simp only [bne_iff_ne]; omega
  clear hl ha
  go_enter Try.func16, Try.ntmps16
  go_wp2
  generalize (w.alloc (.cells #[.int .i64 st, .int .i64 2, .slice A l.length c, .slice B p.length d] 30)) = W1 at hbW q0 q1 q2 q3 ⊢
  refine wp_region_quiet_below (by kernel_rfl) (by kernel_rfl) ?_
  repeat (any_goals (first | go_big_quiet_step ((first | (go_at_call 53; (first | (with_reducible exact Calls.regrown_of (hst _)) | (with_reducible exact Calls.regrown_of (hrg _)))) | (go_at_call 54; exact Calls.regrown_of (hca _)))) | quiet_step ((first | (go_at_call 53; (first | (with_reducible exact Calls.regrown_of (hst _)) | (with_reducible exact Calls.regrown_of (hrg _)))) | (go_at_call 54; exact Calls.regrown_of (hca _))))))
  refine wpQuiet_nil ?_
  intro _ hw'
  obtain ⟨⟨dq, osq⟩, hw''⟩ := hw'
  subst hw''
  have hb3 := hbW.trans ((below_regrown W1 dq osq).mono hbW.size)
  generalize grow (redrawn W1 dq) osq = w2 at hb3 ⊢
  clear hbW q0 q1 q2 q3
  go_wp2
  go_ret
  exact ⟨bool_end hn.out.symm, hb3⟩
set_option maxRecDepth 100000 in
set_option maxHeartbeats 4000000 in
theorem isMachine_specE2 (t : Mach) (hs : t.ac.length ≤ 1099511627776 ∧ t.mv.length ≤ 1099511627776) (x : Value) (w : World) (hx : MachIn w x t) (hst1 : 1 ≤ t.st ∧ t.st ≤ 9) (hk : t.rg = 2) (ha : (t.ac.length : Int) = t.st) (hl : (t.mv.length : Int) = t.st * casZ t.rg) :
    Calls Try.prog 16 #[x] w fun e w' => e = .returned (.bool (machB t)) ∧ Below w.heap.size w w' := by
  obtain ⟨A, c, B, d, rfl, hA, hB⟩ := hx
  obtain ⟨hs1, hs2⟩ := hs
  have hst := fun W => inR_below t.st 1 9 true (decide_eq_true hst1).symm W
  have hrg := fun W => inR_below t.rg 0 3 true (decide_eq_true (by omega)).symm W
  have hca := fun W => l7Cases_any t.st t.rg (.slice A t.ac.length c) (.slice B t.mv.length d) W (by omega) (by omega)
  have hcl := Lib.hid (machB_mov (t := t) ⟨hst1, by omega⟩ ⟨ha, hl⟩)
  have hq0 := Lib.hid (show (∀ j, j < t.mv.length → mvB t.st t.rg (prAt t.mv j) = true) → machB t = true from fun h => hcl.out.trans (movB_yes h))
  have hq1 := Lib.hid (fun i (hi : i < t.mv.length) (h : mvB t.st t.rg (prAt t.mv i) = false) => movB_no hi h)
  clear hcl hA
  obtain ⟨st, rg, l, p⟩ := t
  dsimp only at *
  have hbW : Below w.heap.size w (w.alloc (.cells #[.int .i64 st, .int .i64 rg, .slice A l.length c, .slice B p.length d] 30)) := (Below.refl _ _).alloc (Nat.le_refl _) _
  have hbx := heap_alloc_new w (.cells #[.int .i64 st, .int .i64 rg, .slice A l.length c, .slice B p.length d] 30)
  obtain ⟨d0, d1, d2, d3⟩ := MachK.row4 hbx
  have q0 := fun d os => cell_regrown d0 d os
  have q1 := fun d os => cell_regrown d1 d os
  have q2 := fun d os => cell_regrown d2 d os
  have q3 := fun d os => cell_regrown d3 d os
  clear d0 d1 d2 d3 hbx
  obtain ⟨s1, s9⟩ := hst1
  subst hk
  have hcz : casZ 2 = 4 := rfl
  rw [hcz] at hca hl
  have hm := hl
  have ha2 : ((l.length : Int) != st) = false := by simp [ha]
  have hm2 : ((p.length : Int) != st * 4) = false := by simp only [bne_eq_false_iff_eq]; omega
  have h0W : w.heap.size < (w.alloc (.cells #[.int .i64 st, .int .i64 2, .slice A l.length c, .slice B p.length d] 30)).heap.size := by simp
  clear hl ha
  go_enter Try.func16, Try.ntmps16
  go_wp2
  generalize (w.alloc (.cells #[.int .i64 st, .int .i64 2, .slice A l.length c, .slice B p.length d] 30)) = W1 at hbW q0 q1 q2 q3 h0W ⊢
  refine wp_region_quiet_below (by kernel_rfl) (by kernel_rfl) ?_
  repeat (any_goals (first | go_big_quiet_step ((first | (go_at_call 53; (first | (with_reducible exact Calls.regrown_of (hst _)) | (with_reducible exact Calls.regrown_of (hrg _)))) | (go_at_call 54; exact Calls.regrown_of (hca _)))) | quiet_step ((first | (go_at_call 53; (first | (with_reducible exact Calls.regrown_of (hst _)) | (with_reducible exact Calls.regrown_of (hrg _)))) | (go_at_call 54; exact Calls.regrown_of (hca _))))))
  refine wpQuiet_nil ?_
  intro _ hw'
  obtain ⟨⟨dq, osq⟩, hw''⟩ := hw'
  subst hw''
  have hb3 := hbW.trans ((below_regrown W1 dq osq).mono hbW.size)
  have d0 := q0 dq osq
  have d1 := q1 dq osq
  have d2 := q2 dq osq
  have d3 := q3 dq osq
  have hlt0 : w.heap.size < (grow (redrawn W1 dq) osq).heap.size := by have := (below_regrown W1 dq osq).size; omega
  generalize grow (redrawn W1 dq) osq = w2 at hb3 d0 d1 d2 d3 hlt0 ⊢
  clear hbW q0 q1 q2 q3 h0W hst hrg hca
  go_wp2
  go_loopw [37] (fun i wr => ∃ k : Nat, k ≤ p.length ∧ i = .int .i64 k ∧ Hid (∀ j, j < k → mvB st 2 (prAt p j) = true) ∧ Below w2.heap.size w2 wr) (fun i _ => p.length - (intOf i).toNat)
  case atStart => exact ⟨0, Nat.zero_le _, rfl, fun j hj => absurd hj (by omega), Below.refl _ _⟩
  case round =>
    obtain ⟨k, hk, rfl, hq, hb⟩ := hrel
    have hbw := hb3.trans (hb.mono hb3.size)
    by_cases hlt : k < p.length
    · obtain ⟨b1, o1, rfl, hb1, hc1⟩ := hB (by omega)
      obtain ⟨c1, c2⟩ := hc1 k hlt
      rw [← hbw.cell (p := ⟨b1, _, none⟩) hb1] at c1 c2
      have hbs := hbw.size
      have e0 := (hb.cell (p := ⟨w.heap.size, 0, none⟩) hlt0).trans d0
      have e1 := (hb.cell (p := ⟨w.heap.size, 1, none⟩) hlt0).trans d1
      have e3 := (hb.cell (p := ⟨w.heap.size, 3, none⟩) hlt0).trans d3
      have hltX : (k : Int) < st * 4 := by omega
      have hlt1 : w.heap.size < wr.heap.size := by have := hb.size; omega
      have hbn := hb.alloc hb.size (.cells #[.int .i64 (prAt p k).1, .int .i64 (prAt p k).2] 70)
      have hq1k := Lib.hid (hq1.out k hlt)
      have hqn := Lib.hid (show mvB st 2 (prAt p k) = true → ∀ j, j < k + 1 → mvB st 2 (prAt p j) = true from fun h j hj => if e : j = k then e ▸ h else hq.out j (by omega))
      generalize prAt p k = m at c1 c2 hq1k hqn hbn
      obtain ⟨m1, m2⟩ := m
      dsimp only at c1 c2 hbn
      clear hq hc1 hB hq0 hq1 d0 d1 d2 d3 hm ha2
      by_cases h1 : 0 ≤ m1 ∧ m1 ≤ st - 1
      · have hi1 := fun W => inR_is m1 0 (st - 1) true (decide_eq_true h1).symm W
        by_cases h2 : -1 ≤ m2 ∧ m2 ≤ 2 - 1
        · have hi2 := fun W => inR_is m2 (-1) (1) true (decide_eq_true (by omega)).symm W
          have hgo := Lib.hid (hqn.out (by unfold mvB; simp; omega))
          clear hqn hq1k h1 h2
          go_wp2_with ((first | ((with_reducible refine (hi1 _).mono ?_); rintro e w9 ⟨rfl, rfl⟩) | ((with_reducible refine (hi2 _).mono ?_); rintro e w9 ⟨rfl, rfl⟩)))
          refine ⟨⟨k + 1, by omega, by go_num, hgo, hbn⟩, ?_⟩
          simp only [intOf]
          omega
        · have hi2 := fun W => inR_is m2 (-1) (1) false (decide_eq_false (by omega)).symm W
          have hn := Lib.hid (hq1k.out (by unfold mvB; simp; omega))
          have hend := hb3.trans (hbn.mono hb3.size)
          clear hqn hq1k hbn h1 h2
          go_wp2_with ((first | ((with_reducible refine (hi1 _).mono ?_); rintro e w9 ⟨rfl, rfl⟩) | ((with_reducible refine (hi2 _).mono ?_); rintro e w9 ⟨rfl, rfl⟩)))
          go_ret
          exact ⟨bool_end hn.out.symm, hend⟩
      · have hi1 := fun W => inR_is m1 0 (st - 1) false (decide_eq_false h1).symm W
        have hn := Lib.hid (hq1k.out (by unfold mvB; simp; omega))
        have hend := hb3.trans (hbn.mono hb3.size)
        clear hqn hq1k hbn h1
        go_wp2_with ((with_reducible refine (hi1 _).mono ?_); rintro e w9 ⟨rfl, rfl⟩)
        go_ret
        exact ⟨bool_end hn.out.symm, hend⟩
    · have hn := Lib.hid (hq0.out fun j hj => hq.out j (by omega))
      have hltX : ¬ (k : Int) < st * 4 := by omega
      clear hq hq1 hq0 d0 d1 d2 d3 hB
      go_wp2
      go_ret
      exact ⟨bool_end hn.out.symm, hbw⟩
set_option maxRecDepth 100000 in
set_option maxHeartbeats 4000000 in
theorem isMachine_specD3 (t : Mach) (hs : t.ac.length ≤ 1099511627776 ∧ t.mv.length ≤ 1099511627776) (x : Value) (w : World) (hx : MachIn w x t) (hst1 : 1 ≤ t.st ∧ t.st ≤ 9) (hk : t.rg = 3) (ha : (t.ac.length : Int) = t.st) (hl : ¬ (t.mv.length : Int) = t.st * casZ t.rg) :
    Calls Try.prog 16 #[x] w fun e w' => e = .returned (.bool (machB t)) ∧ Below w.heap.size w w' := by
  obtain ⟨A, c, B, d, rfl, hA, hB⟩ := hx
  obtain ⟨hs1, hs2⟩ := hs
  have hst := fun W => inR_below t.st 1 9 true (decide_eq_true hst1).symm W
  have hrg := fun W => inR_below t.rg 0 3 true (decide_eq_true (by omega)).symm W
  have hca := fun W => l7Cases_any t.st t.rg (.slice A t.ac.length c) (.slice B t.mv.length d) W (by omega) (by omega)
  have hn := Lib.hid (lenB_no (t := t) (fun h => hl h.2))
  clear hA hB
  obtain ⟨st, rg, l, p⟩ := t
  dsimp only at *
  have hbW : Below w.heap.size w (w.alloc (.cells #[.int .i64 st, .int .i64 rg, .slice A l.length c, .slice B p.length d] 30)) := (Below.refl _ _).alloc (Nat.le_refl _) _
  have hbx := heap_alloc_new w (.cells #[.int .i64 st, .int .i64 rg, .slice A l.length c, .slice B p.length d] 30)
  obtain ⟨d0, d1, d2, d3⟩ := MachK.row4 hbx
  have q0 := fun d os => cell_regrown d0 d os
  have q1 := fun d os => cell_regrown d1 d os
  have q2 := fun d os => cell_regrown d2 d os
  have q3 := fun d os => cell_regrown d3 d os
  clear d0 d1 d2 d3 hbx
  obtain ⟨s1, s9⟩ := hst1
  subst hk
  have hcz : casZ 3 = 8 := rfl
  rw [hcz] at hca hl
  have ha2 : ((l.length : Int) != st) = false := by simp [ha]
  have hm2 : ((p.length : Int) != st * 8) = true := by simp only [bne_iff_ne]; omega
  clear hl ha
  go_enter Try.func16, Try.ntmps16
  go_wp2
  generalize (w.alloc (.cells #[.int .i64 st, .int .i64 3, .slice A l.length c, .slice B p.length d] 30)) = W1 at hbW q0 q1 q2 q3 ⊢
  refine wp_region_quiet_below (by kernel_rfl) (by kernel_rfl) ?_
  repeat (any_goals (first | go_big_quiet_step ((first | (go_at_call 53; (first | (with_reducible exact Calls.regrown_of (hst _)) | (with_reducible exact Calls.regrown_of (hrg _)))) | (go_at_call 54; exact Calls.regrown_of (hca _)))) | quiet_step ((first | (go_at_call 53; (first | (with_reducible exact Calls.regrown_of (hst _)) | (with_reducible exact Calls.regrown_of (hrg _)))) | (go_at_call 54; exact Calls.regrown_of (hca _))))))
  refine wpQuiet_nil ?_
  intro _ hw'
  obtain ⟨⟨dq, osq⟩, hw''⟩ := hw'
  subst hw''
  have hb3 := hbW.trans ((below_regrown W1 dq osq).mono hbW.size)
  generalize grow (redrawn W1 dq) osq = w2 at hb3 ⊢
  clear hbW q0 q1 q2 q3
  go_wp2
  go_ret
  exact ⟨bool_end hn.out.symm, hb3⟩
set_option maxRecDepth 100000 in
set_option maxHeartbeats 4000000 in
theorem isMachine_specE3 (t : Mach) (hs : t.ac.length ≤ 1099511627776 ∧ t.mv.length ≤ 1099511627776) (x : Value) (w : World) (hx : MachIn w x t) (hst1 : 1 ≤ t.st ∧ t.st ≤ 9) (hk : t.rg = 3) (ha : (t.ac.length : Int) = t.st) (hl : (t.mv.length : Int) = t.st * casZ t.rg) :
    Calls Try.prog 16 #[x] w fun e w' => e = .returned (.bool (machB t)) ∧ Below w.heap.size w w' := by
  obtain ⟨A, c, B, d, rfl, hA, hB⟩ := hx
  obtain ⟨hs1, hs2⟩ := hs
  have hst := fun W => inR_below t.st 1 9 true (decide_eq_true hst1).symm W
  have hrg := fun W => inR_below t.rg 0 3 true (decide_eq_true (by omega)).symm W
  have hca := fun W => l7Cases_any t.st t.rg (.slice A t.ac.length c) (.slice B t.mv.length d) W (by omega) (by omega)
  have hcl := Lib.hid (machB_mov (t := t) ⟨hst1, by omega⟩ ⟨ha, hl⟩)
  have hq0 := Lib.hid (show (∀ j, j < t.mv.length → mvB t.st t.rg (prAt t.mv j) = true) → machB t = true from fun h => hcl.out.trans (movB_yes h))
  have hq1 := Lib.hid (fun i (hi : i < t.mv.length) (h : mvB t.st t.rg (prAt t.mv i) = false) => movB_no hi h)
  clear hcl hA
  obtain ⟨st, rg, l, p⟩ := t
  dsimp only at *
  have hbW : Below w.heap.size w (w.alloc (.cells #[.int .i64 st, .int .i64 rg, .slice A l.length c, .slice B p.length d] 30)) := (Below.refl _ _).alloc (Nat.le_refl _) _
  have hbx := heap_alloc_new w (.cells #[.int .i64 st, .int .i64 rg, .slice A l.length c, .slice B p.length d] 30)
  obtain ⟨d0, d1, d2, d3⟩ := MachK.row4 hbx
  have q0 := fun d os => cell_regrown d0 d os
  have q1 := fun d os => cell_regrown d1 d os
  have q2 := fun d os => cell_regrown d2 d os
  have q3 := fun d os => cell_regrown d3 d os
  clear d0 d1 d2 d3 hbx
  obtain ⟨s1, s9⟩ := hst1
  subst hk
  have hcz : casZ 3 = 8 := rfl
  rw [hcz] at hca hl
  have hm := hl
  have ha2 : ((l.length : Int) != st) = false := by simp [ha]
  have hm2 : ((p.length : Int) != st * 8) = false := by simp only [bne_eq_false_iff_eq]; omega
  have h0W : w.heap.size < (w.alloc (.cells #[.int .i64 st, .int .i64 3, .slice A l.length c, .slice B p.length d] 30)).heap.size := by simp
  clear hl ha
  go_enter Try.func16, Try.ntmps16
  go_wp2
  generalize (w.alloc (.cells #[.int .i64 st, .int .i64 3, .slice A l.length c, .slice B p.length d] 30)) = W1 at hbW q0 q1 q2 q3 h0W ⊢
  refine wp_region_quiet_below (by kernel_rfl) (by kernel_rfl) ?_
  repeat (any_goals (first | go_big_quiet_step ((first | (go_at_call 53; (first | (with_reducible exact Calls.regrown_of (hst _)) | (with_reducible exact Calls.regrown_of (hrg _)))) | (go_at_call 54; exact Calls.regrown_of (hca _)))) | quiet_step ((first | (go_at_call 53; (first | (with_reducible exact Calls.regrown_of (hst _)) | (with_reducible exact Calls.regrown_of (hrg _)))) | (go_at_call 54; exact Calls.regrown_of (hca _))))))
  refine wpQuiet_nil ?_
  intro _ hw'
  obtain ⟨⟨dq, osq⟩, hw''⟩ := hw'
  subst hw''
  have hb3 := hbW.trans ((below_regrown W1 dq osq).mono hbW.size)
  have d0 := q0 dq osq
  have d1 := q1 dq osq
  have d2 := q2 dq osq
  have d3 := q3 dq osq
  have hlt0 : w.heap.size < (grow (redrawn W1 dq) osq).heap.size := by have := (below_regrown W1 dq osq).size; omega
  generalize grow (redrawn W1 dq) osq = w2 at hb3 d0 d1 d2 d3 hlt0 ⊢
  clear hbW q0 q1 q2 q3 h0W hst hrg hca
  go_wp2
  go_loopw [37] (fun i wr => ∃ k : Nat, k ≤ p.length ∧ i = .int .i64 k ∧ Hid (∀ j, j < k → mvB st 3 (prAt p j) = true) ∧ Below w2.heap.size w2 wr) (fun i _ => p.length - (intOf i).toNat)
  case atStart => exact ⟨0, Nat.zero_le _, rfl, fun j hj => absurd hj (by omega), Below.refl _ _⟩
  case round =>
    obtain ⟨k, hk, rfl, hq, hb⟩ := hrel
    have hbw := hb3.trans (hb.mono hb3.size)
    by_cases hlt : k < p.length
    · obtain ⟨b1, o1, rfl, hb1, hc1⟩ := hB (by omega)
      obtain ⟨c1, c2⟩ := hc1 k hlt
      rw [← hbw.cell (p := ⟨b1, _, none⟩) hb1] at c1 c2
      have hbs := hbw.size
      have e0 := (hb.cell (p := ⟨w.heap.size, 0, none⟩) hlt0).trans d0
      have e1 := (hb.cell (p := ⟨w.heap.size, 1, none⟩) hlt0).trans d1
      have e3 := (hb.cell (p := ⟨w.heap.size, 3, none⟩) hlt0).trans d3
      have hltX : (k : Int) < st * 8 := by omega
      have hlt1 : w.heap.size < wr.heap.size := by have := hb.size; omega
      have hbn := hb.alloc hb.size (.cells #[.int .i64 (prAt p k).1, .int .i64 (prAt p k).2] 70)
      have hq1k := Lib.hid (hq1.out k hlt)
      have hqn := Lib.hid (show mvB st 3 (prAt p k) = true → ∀ j, j < k + 1 → mvB st 3 (prAt p j) = true from fun h j hj => if e : j = k then e ▸ h else hq.out j (by omega))
      generalize prAt p k = m at c1 c2 hq1k hqn hbn
      obtain ⟨m1, m2⟩ := m
      dsimp only at c1 c2 hbn
      clear hq hc1 hB hq0 hq1 d0 d1 d2 d3 hm ha2
      by_cases h1 : 0 ≤ m1 ∧ m1 ≤ st - 1
      · have hi1 := fun W => inR_is m1 0 (st - 1) true (decide_eq_true h1).symm W
        by_cases h2 : -1 ≤ m2 ∧ m2 ≤ 3 - 1
        · have hi2 := fun W => inR_is m2 (-1) (2) true (decide_eq_true (by omega)).symm W
          have hgo := Lib.hid (hqn.out (by unfold mvB; simp; omega))
          clear hqn hq1k h1 h2
          go_wp2_with ((first | ((with_reducible refine (hi1 _).mono ?_); rintro e w9 ⟨rfl, rfl⟩) | ((with_reducible refine (hi2 _).mono ?_); rintro e w9 ⟨rfl, rfl⟩)))
          refine ⟨⟨k + 1, by omega, by go_num, hgo, hbn⟩, ?_⟩
          simp only [intOf]
          omega
        · have hi2 := fun W => inR_is m2 (-1) (2) false (decide_eq_false (by omega)).symm W
          have hn := Lib.hid (hq1k.out (by unfold mvB; simp; omega))
          have hend := hb3.trans (hbn.mono hb3.size)
          clear hqn hq1k hbn h1 h2
          go_wp2_with ((first | ((with_reducible refine (hi1 _).mono ?_); rintro e w9 ⟨rfl, rfl⟩) | ((with_reducible refine (hi2 _).mono ?_); rintro e w9 ⟨rfl, rfl⟩)))
          go_ret
          exact ⟨bool_end hn.out.symm, hend⟩
      · have hi1 := fun W => inR_is m1 0 (st - 1) false (decide_eq_false h1).symm W
        have hn := Lib.hid (hq1k.out (by unfold mvB; simp; omega))
        have hend := hb3.trans (hbn.mono hb3.size)
        clear hqn hq1k hbn h1
        go_wp2_with ((with_reducible refine (hi1 _).mono ?_); rintro e w9 ⟨rfl, rfl⟩)
        go_ret
        exact ⟨bool_end hn.out.symm, hend⟩
    · have hn := Lib.hid (hq0.out fun j hj => hq.out j (by omega))
      have hltX : ¬ (k : Int) < st * 8 := by omega
      clear hq hq1 hq0 d0 d1 d2 d3 hB
      go_wp2
      go_ret
      exact ⟨bool_end hn.out.symm, hbw⟩
theorem isMachine_spec (t : Mach) (hs : t.ac.length ≤ 1099511627776 ∧ t.mv.length ≤ 1099511627776) (x : Value) (w : World) (hx : MachIn w x t) :
    Calls Try.prog 16 #[x] w fun e w' => e = .returned (.bool (machB t)) ∧ Below w.heap.size w w' := by
  by_cases hst1 : 1 ≤ t.st ∧ t.st ≤ 9
  case neg => exact isMachine_specA t hs x w hx hst1
  by_cases hrg1 : 0 ≤ t.rg ∧ t.rg ≤ 3
  case neg => exact isMachine_specB t hs x w hx hst1 hrg1
  by_cases ha : (t.ac.length : Int) = t.st
  case neg => exact isMachine_specC t hs x w hx hst1 hrg1 ha
  have h4 : t.rg = 0 ∨ t.rg = 1 ∨ t.rg = 2 ∨ t.rg = 3 := by omega
  by_cases hl : (t.mv.length : Int) = t.st * casZ t.rg
  · rcases h4 with h | h | h | h
    · exact isMachine_specE0 t hs x w hx hst1 h ha hl
    · exact isMachine_specE1 t hs x w hx hst1 h ha hl
    · exact isMachine_specE2 t hs x w hx hst1 h ha hl
    · exact isMachine_specE3 t hs x w hx hst1 h ha hl
  · rcases h4 with h | h | h | h
    · exact isMachine_specD0 t hs x w hx hst1 h ha hl
    · exact isMachine_specD1 t hs x w hx hst1 h ha hl
    · exact isMachine_specD2 t hs x w hx hst1 h ha hl
    · exact isMachine_specD3 t hs x w hx hst1 h ha hl
end Go.Proofs.Ytkhjdidcpoefdaa
