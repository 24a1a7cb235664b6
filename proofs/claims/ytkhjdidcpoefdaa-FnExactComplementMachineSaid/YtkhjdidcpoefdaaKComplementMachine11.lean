/-
  Whether a machine is valid, as the program decides it: a contract.
-/
import Derived.Test.YtkhjdidcpoefdaaKComplementMachine10
namespace Go.Proofs.Ytkhjdidcpoefdaa
open Go.RowKit Go.Sort
set_option linter.unusedVariables false

set_option maxRecDepth 100000 in
set_option maxHeartbeats 4000000 in
theorem isMachine_impl (t : Mach) (hs : t.ac.length ≤ 1099511627776 ∧ t.mv.length ≤ 1099511627776) (x : Value) (w : World) (hx : MachIn w x t) :
    Calls Try.prog 18 #[x] w fun e w' => e = .returned (.bool (machB t)) ∧ Below w.heap.size w w' := by
  obtain ⟨A, c, B, d, rfl, hA, hB⟩ := hx
  obtain ⟨hs1, hs2⟩ := hs
  by_cases hh : (1 ≤ t.st ∧ t.st ≤ 9) ∧ 0 ≤ t.rg ∧ t.rg ≤ 3
  case neg =>
    have hn := Lib.hid (headB_no hh)
    obtain ⟨st, rg, l, p⟩ := t
    dsimp only at *
    have hbW : Below w.heap.size w (w.alloc (.cells #[.int .i64 st, .int .i64 rg, .slice A l.length c, .slice B p.length d] 30)) := (Below.refl _ _).alloc (Nat.le_refl _) _
    clear hA hB
    have h4 : st < 1 ∨ (¬ st < 1 ∧ 9 < st) ∨ (¬ st < 1 ∧ ¬ 9 < st ∧ rg < 0) ∨ (¬ st < 1 ∧ ¬ 9 < st ∧ ¬ rg < 0 ∧ 3 < rg) := by omega
    clear hh
    rcases h4 with h1 | ⟨h1, h2⟩ | ⟨h1, h2, h3⟩ | ⟨h1, h2, h3, h4⟩
    all_goals
      go_enter Try.func18, Try.ntmps18
      go_wp2
      go_ret
      exact ⟨bool_end hn.out.symm, hbW⟩
  have hcl := Lib.hid (fun h => machB_mov (t := t) hh h)
  by_cases hl : (t.ac.length : Int) = t.st ∧ (t.mv.length : Int) = t.st * casZ t.rg
  case neg =>
    have hn := Lib.hid (lenB_no hl)
    clear hcl
    obtain ⟨st, rg, l, p⟩ := t
    dsimp only at *
    obtain ⟨⟨s1, s9⟩, r0, r3⟩ := hh
    have k1 : ¬ st < 1 := by omega
    have k2 : ¬ 9 < st := by omega
    have k3 : ¬ rg < 0 := by omega
    have k4 : ¬ 3 < rg := by omega
    have hbW : Below w.heap.size w (w.alloc (.cells #[.int .i64 st, .int .i64 rg, .slice A l.length c, .slice B p.length d] 30)) := (Below.refl _ _).alloc (Nat.le_refl _) _
    have hbx := heap_alloc_new w (.cells #[.int .i64 st, .int .i64 rg, .slice A l.length c, .slice B p.length d] 30)
    obtain ⟨d0, d1, d2, d3⟩ := MachK.row4 hbx
    have q0 := fun d os => cell_regrown d0 d os
    have q1 := fun d os => cell_regrown d1 d os
    have q2 := fun d os => cell_regrown d2 d os
    have q3 := fun d os => cell_regrown d3 d os
    clear d0 d1 d2 d3 hbx
    have hc := casZ_of r0 r3
    generalize casZ rg = cz at *
    clear hA hB
    by_cases ha : (l.length : Int) = st
    · have hm : ¬ (p.length : Int) = st * cz := fun h => hl ⟨ha, h⟩
      have ha2 : ((l.length : Int) != st) = false := by simp [ha]
      clear hl ha
      rcases hc with ⟨rfl, rfl⟩ | ⟨rfl, rfl⟩ | ⟨rfl, rfl⟩ | ⟨rfl, rfl⟩
      · have hm2 : ((p.length : Int) != st) = true := by simp only [bne_iff_ne]; omega
        clear hm
        go_enter Try.func18, Try.ntmps18
        go_wp2
        generalize (w.alloc (.cells #[.int .i64 st, .int .i64 0, .slice A l.length c, .slice B p.length d] 30)) = W1 at hbW q0 q1 q2 q3 ⊢
        refine wp_region_quiet_below (by kernel_rfl) (by kernel_rfl) ?_
        repeat (any_goals (first | go_big_quiet_step (fail) | quiet_step (fail)))
        refine wpQuiet_nil ?_
        intro _ hw'
        obtain ⟨⟨dq, osq⟩, hw''⟩ := hw'
        subst hw''
        have hb3 := hbW.trans ((below_regrown W1 dq osq).mono hbW.size)
        generalize grow (redrawn W1 dq) osq = w2 at hb3 ⊢
        clear hbW q0 q1 q2 q3
        go_wp2
        go_ret
        exact ⟨bool_end hn.out.symm, hb3⟩
      · have hm2 : ((p.length : Int) != st * 2) = true := by simp only [bne_iff_ne]; omega
        clear hm
        go_enter Try.func18, Try.ntmps18
        go_wp2
        generalize (w.alloc (.cells #[.int .i64 st, .int .i64 1, .slice A l.length c, .slice B p.length d] 30)) = W1 at hbW q0 q1 q2 q3 ⊢
        refine wp_region_quiet_below (by kernel_rfl) (by kernel_rfl) ?_
        repeat (any_goals (first | go_big_quiet_step (fail) | quiet_step (fail)))
        refine wpQuiet_nil ?_
        intro _ hw'
        obtain ⟨⟨dq, osq⟩, hw''⟩ := hw'
        subst hw''
        have hb3 := hbW.trans ((below_regrown W1 dq osq).mono hbW.size)
        generalize grow (redrawn W1 dq) osq = w2 at hb3 ⊢
        clear hbW q0 q1 q2 q3
        go_wp2
        go_ret
        exact ⟨bool_end hn.out.symm, hb3⟩
      · have hm2 : ((p.length : Int) != st * 4) = true := by simp only [bne_iff_ne]; omega
        clear hm
        go_enter Try.func18, Try.ntmps18
        go_wp2
        generalize (w.alloc (.cells #[.int .i64 st, .int .i64 2, .slice A l.length c, .slice B p.length d] 30)) = W1 at hbW q0 q1 q2 q3 ⊢
        refine wp_region_quiet_below (by kernel_rfl) (by kernel_rfl) ?_
        repeat (any_goals (first | go_big_quiet_step (fail) | quiet_step (fail)))
        refine wpQuiet_nil ?_
        intro _ hw'
        obtain ⟨⟨dq, osq⟩, hw''⟩ := hw'
        subst hw''
        have hb3 := hbW.trans ((below_regrown W1 dq osq).mono hbW.size)
        generalize grow (redrawn W1 dq) osq = w2 at hb3 ⊢
        clear hbW q0 q1 q2 q3
        go_wp2
        go_ret
        exact ⟨bool_end hn.out.symm, hb3⟩
      · have hm2 : ((p.length : Int) != st * 8) = true := by simp only [bne_iff_ne]; omega
        clear hm
        go_enter Try.func18, Try.ntmps18
        go_wp2
        generalize (w.alloc (.cells #[.int .i64 st, .int .i64 3, .slice A l.length c, .slice B p.length d] 30)) = W1 at hbW q0 q1 q2 q3 ⊢
        refine wp_region_quiet_below (by kernel_rfl) (by kernel_rfl) ?_
        repeat (any_goals (first | go_big_quiet_step (fail) | quiet_step (fail)))
        refine wpQuiet_nil ?_
        intro _ hw'
        obtain ⟨⟨dq, osq⟩, hw''⟩ := hw'
        subst hw''
        have hb3 := hbW.trans ((below_regrown W1 dq osq).mono hbW.size)
        generalize grow (redrawn W1 dq) osq = w2 at hb3 ⊢
        clear hbW q0 q1 q2 q3
        go_wp2
        go_ret
        exact ⟨bool_end hn.out.symm, hb3⟩
    · have ha2 : ((l.length : Int) != st) = true := by simp [ha]
      clear hl ha hc
      go_enter Try.func18, Try.ntmps18
      go_wp2
      generalize (w.alloc (.cells #[.int .i64 st, .int .i64 rg, .slice A l.length c, .slice B p.length d] 30)) = W1 at hbW q0 q1 q2 q3 ⊢
      refine wp_region_quiet_below (by kernel_rfl) (by kernel_rfl) ?_
      repeat (any_goals (first | go_big_quiet_step (fail) | quiet_step (fail)))
      refine wpQuiet_nil ?_
      intro _ hw'
      obtain ⟨⟨dq, osq⟩, hw''⟩ := hw'
      subst hw''
      have hb3 := hbW.trans ((below_regrown W1 dq osq).mono hbW.size)
      generalize grow (redrawn W1 dq) osq = w2 at hb3 ⊢
      clear hbW q0 q1 q2 q3
      go_wp2
      go_ret
      exact ⟨bool_end hn.out.symm, hb3⟩
  · have hq0 := Lib.hid (show (∀ j, j < t.mv.length → mvB t.st t.rg (prAt t.mv j) = true) → machB t = true from fun h => (hcl.out hl).trans (movB_yes h))
    have hq1 := Lib.hid (fun i (hi : i < t.mv.length) (h : mvB t.st t.rg (prAt t.mv i) = false) => movB_no hi h)
    clear hcl
    obtain ⟨st, rg, l, p⟩ := t
    dsimp only at *
    obtain ⟨⟨s1, s9⟩, r0, r3⟩ := hh
    have k1 : ¬ st < 1 := by omega
    have k2 : ¬ 9 < st := by omega
    have k3 : ¬ rg < 0 := by omega
    have k4 : ¬ 3 < rg := by omega
    have hbW : Below w.heap.size w (w.alloc (.cells #[.int .i64 st, .int .i64 rg, .slice A l.length c, .slice B p.length d] 30)) := (Below.refl _ _).alloc (Nat.le_refl _) _
    have hbx := heap_alloc_new w (.cells #[.int .i64 st, .int .i64 rg, .slice A l.length c, .slice B p.length d] 30)
    obtain ⟨d0, d1, d2, d3⟩ := MachK.row4 hbx
    have q0 := fun d os => cell_regrown d0 d os
    have q1 := fun d os => cell_regrown d1 d os
    have q2 := fun d os => cell_regrown d2 d os
    have q3 := fun d os => cell_regrown d3 d os
    clear d0 d1 d2 d3 hbx
    have hc := casZ_of r0 r3
    generalize casZ rg = cz at *
    obtain ⟨ha, hm⟩ := hl
    have ha2 : ((l.length : Int) != st) = false := by simp [ha]
    clear ha hA
    rcases hc with ⟨rfl, rfl⟩ | ⟨rfl, rfl⟩ | ⟨rfl, rfl⟩ | ⟨rfl, rfl⟩
    · have hm2 : ((p.length : Int) != st) = false := by simp only [bne_eq_false_iff_eq]; omega
      have h0W : w.heap.size < (w.alloc (.cells #[.int .i64 st, .int .i64 0, .slice A l.length c, .slice B p.length d] 30)).heap.size := by simp
      go_enter Try.func18, Try.ntmps18
      go_wp2
      generalize (w.alloc (.cells #[.int .i64 st, .int .i64 0, .slice A l.length c, .slice B p.length d] 30)) = W1 at hbW q0 q1 q2 q3 h0W ⊢
      refine wp_region_quiet_below (by kernel_rfl) (by kernel_rfl) ?_
      repeat (any_goals (first | go_big_quiet_step (fail) | quiet_step (fail)))
      refine wpQuiet_nil ?_
      intro _ hw'
      obtain ⟨⟨dq, osq⟩, hw''⟩ := hw'
      subst hw''
      have hb3 := hbW.trans ((below_regrown W1 dq osq).mono hbW.size)
      have d0 := q0 dq osq
      have d1 := q1 dq osq
      have d2 := q2 dq osq
      have d3 := q3 dq osq
      have hlt0 : w.heap.size < (grow (redrawn W1 dq) osq).heap.size := by have := (below_regrown W1 dq osq).size; omega
      generalize grow (redrawn W1 dq) osq = w2 at hb3 d0 d1 d2 d3 hlt0 ⊢
      clear hbW q0 q1 q2 q3 h0W
      go_wp2
      go_loopw [43] (fun i wr => ∃ k : Nat, k ≤ p.length ∧ i = .int .i64 k ∧ Hid (∀ j, j < k → mvB st 0 (prAt p j) = true) ∧ Below w2.heap.size w2 wr) (fun i _ => p.length - (intOf i).toNat)
      case atStart => exact ⟨0, Nat.zero_le _, rfl, fun j hj => absurd hj (by omega), Below.refl _ _⟩
      case round =>
        obtain ⟨k, hk, rfl, hq, hb⟩ := hrel
        have hbw := hb3.trans (hb.mono hb3.size)
        by_cases hlt : k < p.length
        · obtain ⟨b1, o1, rfl, hb1, hc1⟩ := hB (by omega)
          obtain ⟨c1, c2⟩ := hc1 k hlt
          rw [← hbw.cell (p := ⟨b1, _, none⟩) hb1] at c1 c2
          have hbs := hbw.size
          have e0 := (hb.cell (p := ⟨w.heap.size, 0, none⟩) hlt0).trans d0
          have e1 := (hb.cell (p := ⟨w.heap.size, 1, none⟩) hlt0).trans d1
          have e3 := (hb.cell (p := ⟨w.heap.size, 3, none⟩) hlt0).trans d3
          have hltX : (k : Int) < st := by omega
          have hlt1 : w.heap.size < wr.heap.size := by have := hb.size; omega
          have hbn := hb.alloc hb.size (.cells #[.int .i64 (prAt p k).1, .int .i64 (prAt p k).2] 70)
          have hq1k := Lib.hid (hq1.out k hlt)
          have hqn := Lib.hid (show mvB st 0 (prAt p k) = true → ∀ j, j < k + 1 → mvB st 0 (prAt p j) = true from fun h j hj => if e : j = k then e ▸ h else hq.out j (by omega))
          generalize prAt p k = m at c1 c2 hq1k hqn hbn
          obtain ⟨m1, m2⟩ := m
          dsimp only at c1 c2 hbn
          clear hq hc1 hB hq0 hq1 d0 d1 d2 d3 hm ha2
          have h5 : m1 < 0 ∨ (¬ m1 < 0 ∧ st ≤ m1) ∨ (¬ m1 < 0 ∧ ¬ st ≤ m1 ∧ m2 < -1) ∨ (¬ m1 < 0 ∧ ¬ st ≤ m1 ∧ ¬ m2 < -1 ∧ 0 ≤ m2) ∨ ((0 ≤ m1 ∧ m1 < st) ∧ -1 ≤ m2 ∧ m2 < 0) := by omega
          rcases h5 with h1 | ⟨h1, h2⟩ | ⟨h1, h2, h3⟩ | ⟨h1, h2, h3, h4⟩ | h5
          rotate_left 4
          · have hgo := Lib.hid (hqn.out (by unfold mvB; simp [h5]))
            have g1 : ¬ m1 < 0 := by omega
            have g2 : ¬ st ≤ m1 := by omega
            have g3 : ¬ m2 < -1 := by omega
            have g4 : ¬ 0 ≤ m2 := by omega
            clear hqn hq1k h5
            go_wp2
            refine ⟨⟨k + 1, by omega, by go_num, hgo, hbn⟩, ?_⟩
            simp only [intOf]
            omega
          all_goals
            have hn := Lib.hid (hq1k.out (by unfold mvB; simp; omega))
            have hend := hb3.trans (hbn.mono hb3.size)
            clear hqn hq1k hbn
            go_wp2
            go_ret
            exact ⟨bool_end hn.out.symm, hend⟩
        · have hn := Lib.hid (hq0.out fun j hj => hq.out j (by omega))
          have hltX : ¬ (k : Int) < st := by omega
          clear hq hq1 hq0 d0 d1 d2 d3 hB
          go_wp2
          go_ret
          exact ⟨bool_end hn.out.symm, hbw⟩
    · have hm2 : ((p.length : Int) != st * 2) = false := by simp only [bne_eq_false_iff_eq]; omega
      have h0W : w.heap.size < (w.alloc (.cells #[.int .i64 st, .int .i64 1, .slice A l.length c, .slice B p.length d] 30)).heap.size := by simp
      go_enter Try.func18, Try.ntmps18
      go_wp2
      generalize (w.alloc (.cells #[.int .i64 st, .int .i64 1, .slice A l.length c, .slice B p.length d] 30)) = W1 at hbW q0 q1 q2 q3 h0W ⊢
      refine wp_region_quiet_below (by kernel_rfl) (by kernel_rfl) ?_
      repeat (any_goals (first | go_big_quiet_step (fail) | quiet_step (fail)))
      refine wpQuiet_nil ?_
      intro _ hw'
      obtain ⟨⟨dq, osq⟩, hw''⟩ := hw'
      subst hw''
      have hb3 := hbW.trans ((below_regrown W1 dq osq).mono hbW.size)
      have d0 := q0 dq osq
      have d1 := q1 dq osq
      have d2 := q2 dq osq
      have d3 := q3 dq osq
      have hlt0 : w.heap.size < (grow (redrawn W1 dq) osq).heap.size := by have := (below_regrown W1 dq osq).size; omega
      generalize grow (redrawn W1 dq) osq = w2 at hb3 d0 d1 d2 d3 hlt0 ⊢
      clear hbW q0 q1 q2 q3 h0W
      go_wp2
      go_loopw [43] (fun i wr => ∃ k : Nat, k ≤ p.length ∧ i = .int .i64 k ∧ Hid (∀ j, j < k → mvB st 1 (prAt p j) = true) ∧ Below w2.heap.size w2 wr) (fun i _ => p.length - (intOf i).toNat)
      case atStart => exact ⟨0, Nat.zero_le _, rfl, fun j hj => absurd hj (by omega), Below.refl _ _⟩
      case round =>
        obtain ⟨k, hk, rfl, hq, hb⟩ := hrel
        have hbw := hb3.trans (hb.mono hb3.size)
        by_cases hlt : k < p.length
        · obtain ⟨b1, o1, rfl, hb1, hc1⟩ := hB (by omega)
          obtain ⟨c1, c2⟩ := hc1 k hlt
          rw [← hbw.cell (p := ⟨b1, _, none⟩) hb1] at c1 c2
          have hbs := hbw.size
          have e0 := (hb.cell (p := ⟨w.heap.size, 0, none⟩) hlt0).trans d0
          have e1 := (hb.cell (p := ⟨w.heap.size, 1, none⟩) hlt0).trans d1
          have e3 := (hb.cell (p := ⟨w.heap.size, 3, none⟩) hlt0).trans d3
          have hltX : (k : Int) < st * 2 := by omega
          have hlt1 : w.heap.size < wr.heap.size := by have := hb.size; omega
          have hbn := hb.alloc hb.size (.cells #[.int .i64 (prAt p k).1, .int .i64 (prAt p k).2] 70)
          have hq1k := Lib.hid (hq1.out k hlt)
          have hqn := Lib.hid (show mvB st 1 (prAt p k) = true → ∀ j, j < k + 1 → mvB st 1 (prAt p j) = true from fun h j hj => if e : j = k then e ▸ h else hq.out j (by omega))
          generalize prAt p k = m at c1 c2 hq1k hqn hbn
          obtain ⟨m1, m2⟩ := m
          dsimp only at c1 c2 hbn
          clear hq hc1 hB hq0 hq1 d0 d1 d2 d3 hm ha2
          have h5 : m1 < 0 ∨ (¬ m1 < 0 ∧ st ≤ m1) ∨ (¬ m1 < 0 ∧ ¬ st ≤ m1 ∧ m2 < -1) ∨ (¬ m1 < 0 ∧ ¬ st ≤ m1 ∧ ¬ m2 < -1 ∧ 1 ≤ m2) ∨ ((0 ≤ m1 ∧ m1 < st) ∧ -1 ≤ m2 ∧ m2 < 1) := by omega
          rcases h5 with h1 | ⟨h1, h2⟩ | ⟨h1, h2, h3⟩ | ⟨h1, h2, h3, h4⟩ | h5
          rotate_left 4
          · have hgo := Lib.hid (hqn.out (by unfold mvB; simp [h5]))
            have g1 : ¬ m1 < 0 := by omega
            have g2 : ¬ st ≤ m1 := by omega
            have g3 : ¬ m2 < -1 := by omega
            have g4 : ¬ 1 ≤ m2 := by omega
            clear hqn hq1k h5
            go_wp2
            refine ⟨⟨k + 1, by omega, by go_num, hgo, hbn⟩, ?_⟩
            simp only [intOf]
            omega
          all_goals
            have hn := Lib.hid (hq1k.out (by unfold mvB; simp; omega))
            have hend := hb3.trans (hbn.mono hb3.size)
            clear hqn hq1k hbn
            go_wp2
            go_ret
            exact ⟨bool_end hn.out.symm, hend⟩
        · have hn := Lib.hid (hq0.out fun j hj => hq.out j (by omega))
          have hltX : ¬ (k : Int) < st * 2 := by omega
          clear hq hq1 hq0 d0 d1 d2 d3 hB
          go_wp2
          go_ret
          exact ⟨bool_end hn.out.symm, hbw⟩
    · have hm2 : ((p.length : Int) != st * 4) = false := by simp only [bne_eq_false_iff_eq]; omega
      have h0W : w.heap.size < (w.alloc (.cells #[.int .i64 st, .int .i64 2, .slice A l.length c, .slice B p.length d] 30)).heap.size := by simp
      go_enter Try.func18, Try.ntmps18
      go_wp2
      generalize (w.alloc (.cells #[.int .i64 st, .int .i64 2, .slice A l.length c, .slice B p.length d] 30)) = W1 at hbW q0 q1 q2 q3 h0W ⊢
      refine wp_region_quiet_below (by kernel_rfl) (by kernel_rfl) ?_
      repeat (any_goals (first | go_big_quiet_step (fail) | quiet_step (fail)))
      refine wpQuiet_nil ?_
      intro _ hw'
      obtain ⟨⟨dq, osq⟩, hw''⟩ := hw'
      subst hw''
      have hb3 := hbW.trans ((below_regrown W1 dq osq).mono hbW.size)
      have d0 := q0 dq osq
      have d1 := q1 dq osq
      have d2 := q2 dq osq
      have d3 := q3 dq osq
      have hlt0 : w.heap.size < (grow (redrawn W1 dq) osq).heap.size := by have := (below_regrown W1 dq osq).size; omega
      generalize grow (redrawn W1 dq) osq = w2 at hb3 d0 d1 d2 d3 hlt0 ⊢
      clear hbW q0 q1 q2 q3 h0W
      go_wp2
      go_loopw [43] (fun i wr => ∃ k : Nat, k ≤ p.length ∧ i = .int .i64 k ∧ Hid (∀ j, j < k → mvB st 2 (prAt p j) = true) ∧ Below w2.heap.size w2 wr) (fun i _ => p.length - (intOf i).toNat)
      case atStart => exact ⟨0, Nat.zero_le _, rfl, fun j hj => absurd hj (by omega), Below.refl _ _⟩
      case round =>
        obtain ⟨k, hk, rfl, hq, hb⟩ := hrel
        have hbw := hb3.trans (hb.mono hb3.size)
        by_cases hlt : k < p.length
        · obtain ⟨b1, o1, rfl, hb1, hc1⟩ := hB (by omega)
          obtain ⟨c1, c2⟩ := hc1 k hlt
          rw [← hbw.cell (p := ⟨b1, _, none⟩) hb1] at c1 c2
          have hbs := hbw.size
          have e0 := (hb.cell (p := ⟨w.heap.size, 0, none⟩) hlt0).trans d0
          have e1 := (hb.cell (p := ⟨w.heap.size, 1, none⟩) hlt0).trans d1
          have e3 := (hb.cell (p := ⟨w.heap.size, 3, none⟩) hlt0).trans d3
          have hltX : (k : Int) < st * 4 := by omega
          have hlt1 : w.heap.size < wr.heap.size := by have := hb.size; omega
          have hbn := hb.alloc hb.size (.cells #[.int .i64 (prAt p k).1, .int .i64 (prAt p k).2] 70)
          have hq1k := Lib.hid (hq1.out k hlt)
          have hqn := Lib.hid (show mvB st 2 (prAt p k) = true → ∀ j, j < k + 1 → mvB st 2 (prAt p j) = true from fun h j hj => if e : j = k then e ▸ h else hq.out j (by omega))
          generalize prAt p k = m at c1 c2 hq1k hqn hbn
          obtain ⟨m1, m2⟩ := m
          dsimp only at c1 c2 hbn
          clear hq hc1 hB hq0 hq1 d0 d1 d2 d3 hm ha2
          have h5 : m1 < 0 ∨ (¬ m1 < 0 ∧ st ≤ m1) ∨ (¬ m1 < 0 ∧ ¬ st ≤ m1 ∧ m2 < -1) ∨ (¬ m1 < 0 ∧ ¬ st ≤ m1 ∧ ¬ m2 < -1 ∧ 2 ≤ m2) ∨ ((0 ≤ m1 ∧ m1 < st) ∧ -1 ≤ m2 ∧ m2 < 2) := by omega
          rcases h5 with h1 | ⟨h1, h2⟩ | ⟨h1, h2, h3⟩ | ⟨h1, h2, h3, h4⟩ | h5
          rotate_left 4
          · have hgo := Lib.hid (hqn.out (by unfold mvB; simp [h5]))
            have g1 : ¬ m1 < 0 := by omega
            have g2 : ¬ st ≤ m1 := by omega
            have g3 : ¬ m2 < -1 := by omega
            have g4 : ¬ 2 ≤ m2 := by omega
            clear hqn hq1k h5
            go_wp2
            refine ⟨⟨k + 1, by omega, by go_num, hgo, hbn⟩, ?_⟩
            simp only [intOf]
            omega
          all_goals
            have hn := Lib.hid (hq1k.out (by unfold mvB; simp; omega))
            have hend := hb3.trans (hbn.mono hb3.size)
            clear hqn hq1k hbn
            go_wp2
            go_ret
            exact ⟨bool_end hn.out.symm, hend⟩
        · have hn := Lib.hid (hq0.out fun j hj => hq.out j (by omega))
          have hltX : ¬ (k : Int) < st * 4 := by omega
          clear hq hq1 hq0 d0 d1 d2 d3 hB
          go_wp2
          go_ret
          exact ⟨bool_end hn.out.symm, hbw⟩
    · have hm2 : ((p.length : Int) != st * 8) = false := by simp only [bne_eq_false_iff_eq]; omega
      have h0W : w.heap.size < (w.alloc (.cells #[.int .i64 st, .int .i64 3, .slice A l.length c, .slice B p.length d] 30)).heap.size := by simp
      go_enter Try.func18, Try.ntmps18
      go_wp2
      generalize (w.alloc (.cells #[.int .i64 st, .int .i64 3, .slice A l.length c, .slice B p.length d] 30)) = W1 at hbW q0 q1 q2 q3 h0W ⊢
      refine wp_region_quiet_below (by kernel_rfl) (by kernel_rfl) ?_
      repeat (any_goals (first | go_big_quiet_step (fail) | quiet_step (fail)))
      refine wpQuiet_nil ?_
      intro _ hw'
      obtain ⟨⟨dq, osq⟩, hw''⟩ := hw'
      subst hw''
      have hb3 := hbW.trans ((below_regrown W1 dq osq).mono hbW.size)
      have d0 := q0 dq osq
      have d1 := q1 dq osq
      have d2 := q2 dq osq
      have d3 := q3 dq osq
      have hlt0 : w.heap.size < (grow (redrawn W1 dq) osq).heap.size := by have := (below_regrown W1 dq osq).size; omega
      generalize grow (redrawn W1 dq) osq = w2 at hb3 d0 d1 d2 d3 hlt0 ⊢
      clear hbW q0 q1 q2 q3 h0W
      go_wp2
      go_loopw [43] (fun i wr => ∃ k : Nat, k ≤ p.length ∧ i = .int .i64 k ∧ Hid (∀ j, j < k → mvB st 3 (prAt p j) = true) ∧ Below w2.heap.size w2 wr) (fun i _ => p.length - (intOf i).toNat)
      case atStart => exact ⟨0, Nat.zero_le _, rfl, fun j hj => absurd hj (by omega), Below.refl _ _⟩
      case round =>
        obtain ⟨k, hk, rfl, hq, hb⟩ := hrel
        have hbw := hb3.trans (hb.mono hb3.size)
        by_cases hlt : k < p.length
        · obtain ⟨b1, o1, rfl, hb1, hc1⟩ := hB (by omega)
          obtain ⟨c1, c2⟩ := hc1 k hlt
          rw [← hbw.cell (p := ⟨b1, _, none⟩) hb1] at c1 c2
          have hbs := hbw.size
          have e0 := (hb.cell (p := ⟨w.heap.size, 0, none⟩) hlt0).trans d0
          have e1 := (hb.cell (p := ⟨w.heap.size, 1, none⟩) hlt0).trans d1
          have e3 := (hb.cell (p := ⟨w.heap.size, 3, none⟩) hlt0).trans d3
          have hltX : (k : Int) < st * 8 := by omega
          have hlt1 : w.heap.size < wr.heap.size := by have := hb.size; omega
          have hbn := hb.alloc hb.size (.cells #[.int .i64 (prAt p k).1, .int .i64 (prAt p k).2] 70)
          have hq1k := Lib.hid (hq1.out k hlt)
          have hqn := Lib.hid (show mvB st 3 (prAt p k) = true → ∀ j, j < k + 1 → mvB st 3 (prAt p j) = true from fun h j hj => if e : j = k then e ▸ h else hq.out j (by omega))
          generalize prAt p k = m at c1 c2 hq1k hqn hbn
          obtain ⟨m1, m2⟩ := m
          dsimp only at c1 c2 hbn
          clear hq hc1 hB hq0 hq1 d0 d1 d2 d3 hm ha2
          have h5 : m1 < 0 ∨ (¬ m1 < 0 ∧ st ≤ m1) ∨ (¬ m1 < 0 ∧ ¬ st ≤ m1 ∧ m2 < -1) ∨ (¬ m1 < 0 ∧ ¬ st ≤ m1 ∧ ¬ m2 < -1 ∧ 3 ≤ m2) ∨ ((0 ≤ m1 ∧ m1 < st) ∧ -1 ≤ m2 ∧ m2 < 3) := by omega
          rcases h5 with h1 | ⟨h1, h2⟩ | ⟨h1, h2, h3⟩ | ⟨h1, h2, h3, h4⟩ | h5
          rotate_left 4
          · have hgo := Lib.hid (hqn.out (by unfold mvB; simp [h5]))
            have g1 : ¬ m1 < 0 := by omega
            have g2 : ¬ st ≤ m1 := by omega
            have g3 : ¬ m2 < -1 := by omega
            have g4 : ¬ 3 ≤ m2 := by omega
            clear hqn hq1k h5
            go_wp2
            refine ⟨⟨k + 1, by omega, by go_num, hgo, hbn⟩, ?_⟩
            simp only [intOf]
            omega
          all_goals
            have hn := Lib.hid (hq1k.out (by unfold mvB; simp; omega))
            have hend := hb3.trans (hbn.mono hb3.size)
            clear hqn hq1k hbn
            go_wp2
            go_ret
            exact ⟨bool_end hn.out.symm, hend⟩
        · have hn := Lib.hid (hq0.out fun j hj => hq.out j (by omega))
          have hltX : ¬ (k : Int) < st * 8 := by omega
          clear hq hq1 hq0 d0 d1 d2 d3 hB
          go_wp2
          go_ret
          exact ⟨bool_end hn.out.symm, hbw⟩
end Go.Proofs.Ytkhjdidcpoefdaa
