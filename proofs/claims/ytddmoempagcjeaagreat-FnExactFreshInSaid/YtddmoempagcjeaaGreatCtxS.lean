/-
  Whether a list of elements is a context, as the model decides it: a contract.
-/
import Derived.Test.YtddmoempagcjeaaGreatCtxI
namespace Go.Proofs.YtddmoempagcjeaaGreat
open Go.RowKit Go.Sort
set_option linter.unusedVariables false

theorem l1In_is (a lo hi : Int) (b : Bool) (h : b = decide (lo ≤ a ∧ a ≤ hi)) (w : World) :
    Calls Tryz.prog 99 #[.int .i64 a, .int .i64 lo, .int .i64 hi] w fun e w' => e = .returned (.bool b) ∧ Below w.heap.size w w' := by
  by_cases h1 : lo ≤ a
  · by_cases h2 : a ≤ hi
    · have hb : Hid (b = true) := by rw [h]; show decide _ = true; simp [h1, h2]
      clear h
      go_enter Tryz.func99, Tryz.ntmps99
      go_wp2
      go_ret
      exact ⟨bool_end hb.out.symm, Below.refl _ _⟩
    · have k3 : hi < a := by omega
      have hb : Hid (b = false) := by rw [h]; show decide _ = false; simp; omega
      clear h2 h
      go_enter Tryz.func99, Tryz.ntmps99
      go_wp2
      go_ret
      exact ⟨bool_end ((decide_eq_false (by omega)).trans hb.out.symm), Below.refl _ _⟩
  · have k1 : a < lo := by omega
    have hb : Hid (b = false) := by rw [h]; show decide _ = false; simp; omega
    clear h1 h
    go_enter Tryz.func99, Tryz.ntmps99
    go_wp2
    go_ret
    exact ⟨bool_end hb.out.symm, Below.refl _ _⟩

theorem l1Atom_is (a : Int) (b : Bool) (h : b = atomB a) (w : World) :
    Calls Tryz.prog 60 #[.int .i64 a] w fun e w' => e = .returned (.bool b) ∧ Below w.heap.size w w' := by
  rw [h]
  by_cases h1 : 0 ≤ a
  · by_cases h2 : a ≤ 999
    · go_enter Tryz.func60, Tryz.ntmps60
      go_wp2
      go_ret
      exact ⟨bool_end (by simp [atomB, h1, h2]), Below.refl _ _⟩
    · have k3 : 999 < a := by omega
      clear h2
      go_enter Tryz.func60, Tryz.ntmps60
      go_wp2
      go_ret
      exact ⟨bool_end (by simp [atomB]; omega), Below.refl _ _⟩
  · have k1 : a < 0 := by omega
    clear h1
    go_enter Tryz.func60, Tryz.ntmps60
    go_wp2
    go_ret
    exact ⟨bool_end (by simp [atomB]; omega), Below.refl _ _⟩

theorem l3Less_is (x y : Int × Int) (b : Bool) (h : b = lessB x y) (w : World) :
    Calls Tryz.prog 101 #[.agg #[.int .i64 x.1, .int .i64 x.2], .agg #[.int .i64 y.1, .int .i64 y.2]] w
      fun e w' => e = .returned (.bool b) ∧ Below w.heap.size w w' := by
  have hend : Below w.heap.size w ((w.alloc (.cells #[.int .i64 x.1, .int .i64 x.2] 55)).alloc (.cells #[.int .i64 y.1, .int .i64 y.2] 55)) :=
    ((Below.refl _ _).alloc (Nat.le_refl _) _).alloc (by simp) _
  obtain ⟨a, c⟩ := x
  obtain ⟨d, f⟩ := y
  simp only [lessB] at h
  rcases Int.lt_trichotomy c f with h1 | h1 | h1
  · have hb : Hid (b = true) := by rw [h]; show decide _ = true; simp; omega
    clear h
    go_enter Tryz.func101, Tryz.ntmps101
    go_wp2
    go_ret
    exact ⟨bool_end hb.out.symm, hend⟩
  · subst h1
    have k0 : ¬ c < c := by omega
    have k1 : (c == c) = true := by simp
    by_cases h2 : a < d
    · have hb : Hid (b = true) := by rw [h]; show decide _ = true; simp; omega
      clear h
      go_enter Tryz.func101, Tryz.ntmps101
      go_wp2
      go_ret
      exact ⟨bool_end hb.out.symm, hend⟩
    · have k2 : d ≤ a := by omega
      have hb : Hid (b = false) := by rw [h]; show decide _ = false; simp; omega
      clear h h2
      go_enter Tryz.func101, Tryz.ntmps101
      go_wp2
      go_ret
      exact ⟨bool_end ((decide_eq_false (by omega)).trans hb.out.symm), hend⟩
  · have k0 : f ≤ c := by omega
    have k1 : (c == f) = false := by simp; omega
    have hb : Hid (b = false) := by rw [h]; show decide _ = false; simp; omega
    clear h
    go_enter Tryz.func101, Tryz.ntmps101
    go_wp2
    go_ret
    exact ⟨bool_end ((decide_eq_false (by omega)).trans hb.out.symm), hend⟩

set_option maxRecDepth 100000 in
set_option maxHeartbeats 2000000 in
theorem l3Right_any (A : Option Addr) (c : Nat) (l : List (Int × Int)) (w : World) (hA : PairsAt w A l) (hl : l.length ≤ 1099511627776) :
    Calls Tryz.prog 62 #[.slice A l.length c] w fun e w' => e = .returned (.bool (rightB l)) ∧ Below w.heap.size w w' := by
  go_enter Tryz.func62, Tryz.ntmps62
  go_wp2
  go_loopw [7] (fun i wr => ∃ k : Nat, k ≤ l.length ∧ i = .int .i64 k ∧ Hid (∀ j, j < k → ctxAt l j = true) ∧ Below w.heap.size w wr) (fun i _ => l.length - (intOf i).toNat)
  case atStart => exact ⟨0, Nat.zero_le _, rfl, fun j hj => absurd hj (by omega), Below.refl _ _⟩
  case round =>
    obtain ⟨k, hk, rfl, hq, hb⟩ := hrel
    by_cases hlt : k < l.length
    · obtain ⟨b1, o1, rfl, hb1, hc1⟩ := hA (by omega)
      obtain ⟨c1, c2⟩ := hc1 k hlt
      rw [← hb.cell (p := ⟨b1, _, none⟩) hb1] at c1 c2
      have hbs := hb.size
      by_cases ha1 : atomB (prAt l k).1 = true
      · have hat := fun W => l1Atom_is (prAt l k).1 true ha1.symm W
        by_cases ha2 : holeB (prAt l k).2 = true
        · have hho := fun W => l1In_is (prAt l k).2 0 9 true ha2.symm W
          by_cases hz : k = 0
          · subst hz
            have hn : Hid (∀ q, q < 0 + 1 → ctxAt l q = true) := ctx_next hq.out (by simp [ctxAt, ha1, ha2])
            rw [Nat.zero_mul, Nat.add_zero] at c1 c2
            clear ha1 ha2
            generalize prAt l 0 = p1 at c1 c2 hat hho
            clear hq hc1 hA
            go_wp2_with fail
            have d0 : (wr.alloc (.cells #[.int .i64 p1.1, .int .i64 p1.2] 55)).cell? ⟨wr.heap.size, 0, none⟩ = some (.int .i64 p1.1) := by simp
            have d1 : (wr.alloc (.cells #[.int .i64 p1.1, .int .i64 p1.2] 55)).cell? ⟨wr.heap.size, 1, none⟩ = some (.int .i64 p1.2) := by simp
            have hbW : Below w.heap.size w (wr.alloc (.cells #[.int .i64 p1.1, .int .i64 p1.2] 55)) := hb.alloc hb.size _
            generalize wr.alloc (.cells #[.int .i64 p1.1, .int .i64 p1.2] 55) = W1 at d0 d1 hbW ⊢
            have q0 := fun d os => cell_regrown d0 d os
            have q1 := fun d os => cell_regrown d1 d os
            clear c1 c2 d0 d1
            refine wp_region_quiet_below (by kernel_rfl) (by kernel_rfl) ?_
            repeat (any_goals (first | go_big_quiet_step ((first | (go_at_call 60; exact Calls.regrown_of (hat _)) | (go_at_call 99; exact Calls.regrown_of (hho _)) | (go_at_call 101; exact Calls.regrown_of (hle _)))) | quiet_step ((first | (go_at_call 60; exact Calls.regrown_of (hat _)) | (go_at_call 99; exact Calls.regrown_of (hho _)) | (go_at_call 101; exact Calls.regrown_of (hle _))))))
            refine wpQuiet_nil ?_
            intro _ hw'
            obtain ⟨⟨dq, osq⟩, hw''⟩ := hw'
            subst hw''
            have hb3 := hbW.trans ((below_regrown W1 dq osq).mono hbW.size)
            generalize grow (redrawn W1 dq) osq = w2 at hb3 ⊢
            clear q0 q1 hbW hat
            go_wp2
            refine ⟨⟨0 + 1, by omega, by go_num, hn, hb3⟩, ?_⟩
            simp only [intOf]
            omega
          · obtain ⟨j, rfl⟩ : ∃ j, k = j + 1 := ⟨k - 1, by omega⟩
            obtain ⟨c3, c4⟩ := hc1 j (by omega)
            rw [← hb.cell (p := ⟨b1, _, none⟩) hb1] at c3 c4
            clear hc1 hA hz
            by_cases hp : lessB (prAt l j) (prAt l (j + 1)) = true
            · have hn : Hid (∀ q, q < j + 1 + 1 → ctxAt l q = true) := ctx_next hq.out (by simp [ctxAt, ha1, ha2, hp])
              have hle := fun W => l3Less_is (prAt l j) (prAt l (j + 1)) true hp.symm W
              clear hp ha1 ha2
              generalize prAt l (j + 1) = p1 at c1 c2 hat hho hle
              generalize prAt l j = p2 at c3 c4 hle
              clear hq
              go_wp2_with fail
              have d0 : (wr.alloc (.cells #[.int .i64 p1.1, .int .i64 p1.2] 55)).cell? ⟨wr.heap.size, 0, none⟩ = some (.int .i64 p1.1) := by simp
              have d1 : (wr.alloc (.cells #[.int .i64 p1.1, .int .i64 p1.2] 55)).cell? ⟨wr.heap.size, 1, none⟩ = some (.int .i64 p1.2) := by simp
              have d3 : (wr.alloc (.cells #[.int .i64 p1.1, .int .i64 p1.2] 55)).cell? ⟨b1, o1 + j * 2, none⟩ = some (.int .i64 p2.1) := by rw [World.cell?_alloc_lt _ _ _ (by show b1 < _; omega)]; exact c3
              have d4 : (wr.alloc (.cells #[.int .i64 p1.1, .int .i64 p1.2] 55)).cell? ⟨b1, o1 + j * 2 + 1, none⟩ = some (.int .i64 p2.2) := by rw [World.cell?_alloc_lt _ _ _ (by show b1 < _; omega)]; exact c4
              have hbW : Below w.heap.size w (wr.alloc (.cells #[.int .i64 p1.1, .int .i64 p1.2] 55)) := hb.alloc hb.size _
              generalize wr.alloc (.cells #[.int .i64 p1.1, .int .i64 p1.2] 55) = W1 at d0 d1 d3 d4 hbW ⊢
              have q0 := fun d os => cell_regrown d0 d os
              have q1 := fun d os => cell_regrown d1 d os
              have q3 := fun d os => cell_regrown d3 d os
              have q4 := fun d os => cell_regrown d4 d os
              clear c1 c2 d0 d1 c3 c4 d3 d4
              refine wp_region_quiet_below (by kernel_rfl) (by kernel_rfl) ?_
              repeat (any_goals (first | go_big_quiet_step ((first | (go_at_call 60; exact Calls.regrown_of (hat _)) | (go_at_call 99; exact Calls.regrown_of (hho _)) | (go_at_call 101; exact Calls.regrown_of (hle _)))) | quiet_step ((first | (go_at_call 60; exact Calls.regrown_of (hat _)) | (go_at_call 99; exact Calls.regrown_of (hho _)) | (go_at_call 101; exact Calls.regrown_of (hle _))))))
              refine wpQuiet_nil ?_
              intro _ hw'
              obtain ⟨⟨dq, osq⟩, hw''⟩ := hw'
              subst hw''
              have hb3 := hbW.trans ((below_regrown W1 dq osq).mono hbW.size)
              generalize grow (redrawn W1 dq) osq = w2 at hb3 ⊢
              clear q0 q1 hbW hat q3 q4
              go_wp2
              refine ⟨⟨j + 1 + 1, by omega, by go_num, hn, hb3⟩, ?_⟩
              simp only [intOf]
              omega
            · have hn : Hid (rightB l = false) := rightB_no hlt (by simp [ctxAt, hp])
              have hle := fun W => l3Less_is (prAt l j) (prAt l (j + 1)) false (by simpa using hp) W
              clear hp ha1 ha2
              generalize prAt l (j + 1) = p1 at c1 c2 hat hho hle
              generalize prAt l j = p2 at c3 c4 hle
              clear hq
              go_wp2_with fail
              have d0 : (wr.alloc (.cells #[.int .i64 p1.1, .int .i64 p1.2] 55)).cell? ⟨wr.heap.size, 0, none⟩ = some (.int .i64 p1.1) := by simp
              have d1 : (wr.alloc (.cells #[.int .i64 p1.1, .int .i64 p1.2] 55)).cell? ⟨wr.heap.size, 1, none⟩ = some (.int .i64 p1.2) := by simp
              have d3 : (wr.alloc (.cells #[.int .i64 p1.1, .int .i64 p1.2] 55)).cell? ⟨b1, o1 + j * 2, none⟩ = some (.int .i64 p2.1) := by rw [World.cell?_alloc_lt _ _ _ (by show b1 < _; omega)]; exact c3
              have d4 : (wr.alloc (.cells #[.int .i64 p1.1, .int .i64 p1.2] 55)).cell? ⟨b1, o1 + j * 2 + 1, none⟩ = some (.int .i64 p2.2) := by rw [World.cell?_alloc_lt _ _ _ (by show b1 < _; omega)]; exact c4
              have hbW : Below w.heap.size w (wr.alloc (.cells #[.int .i64 p1.1, .int .i64 p1.2] 55)) := hb.alloc hb.size _
              generalize wr.alloc (.cells #[.int .i64 p1.1, .int .i64 p1.2] 55) = W1 at d0 d1 d3 d4 hbW ⊢
              have q0 := fun d os => cell_regrown d0 d os
              have q1 := fun d os => cell_regrown d1 d os
              have q3 := fun d os => cell_regrown d3 d os
              have q4 := fun d os => cell_regrown d4 d os
              clear c1 c2 d0 d1 c3 c4 d3 d4
              refine wp_region_quiet_below (by kernel_rfl) (by kernel_rfl) ?_
              repeat (any_goals (first | go_big_quiet_step ((first | (go_at_call 60; exact Calls.regrown_of (hat _)) | (go_at_call 99; exact Calls.regrown_of (hho _)) | (go_at_call 101; exact Calls.regrown_of (hle _)))) | quiet_step ((first | (go_at_call 60; exact Calls.regrown_of (hat _)) | (go_at_call 99; exact Calls.regrown_of (hho _)) | (go_at_call 101; exact Calls.regrown_of (hle _))))))
              refine wpQuiet_nil ?_
              intro _ hw'
              obtain ⟨⟨dq, osq⟩, hw''⟩ := hw'
              subst hw''
              have hb3 := hbW.trans ((below_regrown W1 dq osq).mono hbW.size)
              generalize grow (redrawn W1 dq) osq = w2 at hb3 ⊢
              clear q0 q1 hbW hat q3 q4
              go_wp2
              go_ret
              exact ⟨bool_end hn.out.symm, hb3⟩
        · have hho := fun W => l1In_is (prAt l k).2 0 9 false (by simpa [holeB] using ha2) W
          have hn : Hid (rightB l = false) := rightB_no hlt (by simp [ctxAt, ha2])
          clear ha1 ha2
          generalize prAt l k = p1 at c1 c2 hat hho
          clear hq hc1 hA
          go_wp2_with fail
          have d0 : (wr.alloc (.cells #[.int .i64 p1.1, .int .i64 p1.2] 55)).cell? ⟨wr.heap.size, 0, none⟩ = some (.int .i64 p1.1) := by simp
          have d1 : (wr.alloc (.cells #[.int .i64 p1.1, .int .i64 p1.2] 55)).cell? ⟨wr.heap.size, 1, none⟩ = some (.int .i64 p1.2) := by simp
          have hbW : Below w.heap.size w (wr.alloc (.cells #[.int .i64 p1.1, .int .i64 p1.2] 55)) := hb.alloc hb.size _
          generalize wr.alloc (.cells #[.int .i64 p1.1, .int .i64 p1.2] 55) = W1 at d0 d1 hbW ⊢
          have q0 := fun d os => cell_regrown d0 d os
          have q1 := fun d os => cell_regrown d1 d os
          clear c1 c2 d0 d1
          refine wp_region_quiet_below (by kernel_rfl) (by kernel_rfl) ?_
          repeat (any_goals (first | go_big_quiet_step ((first | (go_at_call 60; exact Calls.regrown_of (hat _)) | (go_at_call 99; exact Calls.regrown_of (hho _)) | (go_at_call 101; exact Calls.regrown_of (hle _)))) | quiet_step ((first | (go_at_call 60; exact Calls.regrown_of (hat _)) | (go_at_call 99; exact Calls.regrown_of (hho _)) | (go_at_call 101; exact Calls.regrown_of (hle _))))))
          refine wpQuiet_nil ?_
          intro _ hw'
          obtain ⟨⟨dq, osq⟩, hw''⟩ := hw'
          subst hw''
          have hb3 := hbW.trans ((below_regrown W1 dq osq).mono hbW.size)
          generalize grow (redrawn W1 dq) osq = w2 at hb3 ⊢
          clear q0 q1 hbW hat
          go_wp2
          go_ret
          exact ⟨bool_end hn.out.symm, hb3⟩
      · have hat := fun W => l1Atom_is (prAt l k).1 false (by simpa using ha1) W
        have hn : Hid (rightB l = false) := rightB_no hlt (by simp [ctxAt, ha1])
        clear ha1
        generalize prAt l k = p1 at c1 c2 hat
        clear hq hc1 hA
        go_wp2_with fail
        have d0 : (wr.alloc (.cells #[.int .i64 p1.1, .int .i64 p1.2] 55)).cell? ⟨wr.heap.size, 0, none⟩ = some (.int .i64 p1.1) := by simp
        have d1 : (wr.alloc (.cells #[.int .i64 p1.1, .int .i64 p1.2] 55)).cell? ⟨wr.heap.size, 1, none⟩ = some (.int .i64 p1.2) := by simp
        have hbW : Below w.heap.size w (wr.alloc (.cells #[.int .i64 p1.1, .int .i64 p1.2] 55)) := hb.alloc hb.size _
        generalize wr.alloc (.cells #[.int .i64 p1.1, .int .i64 p1.2] 55) = W1 at d0 d1 hbW ⊢
        have q0 := fun d os => cell_regrown d0 d os
        have q1 := fun d os => cell_regrown d1 d os
        clear c1 c2 d0 d1
        refine wp_region_quiet_below (by kernel_rfl) (by kernel_rfl) ?_
        repeat (any_goals (first | go_big_quiet_step ((first | (go_at_call 60; exact Calls.regrown_of (hat _)) | (go_at_call 99; exact Calls.regrown_of (hho _)) | (go_at_call 101; exact Calls.regrown_of (hle _)))) | quiet_step ((first | (go_at_call 60; exact Calls.regrown_of (hat _)) | (go_at_call 99; exact Calls.regrown_of (hho _)) | (go_at_call 101; exact Calls.regrown_of (hle _))))))
        refine wpQuiet_nil ?_
        intro _ hw'
        obtain ⟨⟨dq, osq⟩, hw''⟩ := hw'
        subst hw''
        have hb3 := hbW.trans ((below_regrown W1 dq osq).mono hbW.size)
        generalize grow (redrawn W1 dq) osq = w2 at hb3 ⊢
        clear q0 q1 hbW hat
        go_wp2
        go_ret
        exact ⟨bool_end hn.out.symm, hb3⟩
    · have hn : Hid (rightB l = true) := rightB_yes fun j hj => hq.out j (by omega)
      clear hq
      go_wp2
      go_ret
      exact ⟨bool_end hn.out.symm, hb⟩

theorem isContext_spec (A : Option Addr) (c : Nat) (l : List (Int × Int)) (w : World) (hA : PairsAt w A l) (hl : l.length ≤ 1099511627776) :
    Calls Tryz.prog 31 #[.slice A l.length c] w fun e w' => e = .returned (.bool (ctxB l)) ∧ Below w.heap.size w w' := by
  have hr := l3Right_any A c l w hA hl
  by_cases hb : rightB l = true
  · rw [hb] at hr
    by_cases h40 : l.length ≤ 40
    · have k0 : (l.length : Int) ≤ 40 := by omega
      have hn : Hid (ctxB l = true) := by show ctxB l = true; unfold ctxB; simp [h40, hb]
      go_enter Tryz.func31, Tryz.ntmps31
      go_wp2_with fail
      refine hr.mono ?_
      rintro e w1 ⟨rfl, hb1⟩
      go_wp2
      go_ret
      exact ⟨bool_end hn.out.symm, hb1⟩
    · have k0 : ¬ (l.length : Int) ≤ 40 := by omega
      have k1 : 40 < (l.length : Int) := by omega
      have hn : Hid (ctxB l = false) := by show ctxB l = false; unfold ctxB; simp [h40]
      clear h40
      go_enter Tryz.func31, Tryz.ntmps31
      go_wp2_with fail
      refine hr.mono ?_
      rintro e w1 ⟨rfl, hb1⟩
      go_wp2
      go_ret
      exact ⟨bool_end ((decide_eq_false (by omega)).trans hn.out.symm), hb1⟩
  · have hb' : rightB l = false := by simpa using hb
    rw [hb'] at hr
    have hn : Hid (ctxB l = false) := by show ctxB l = false; unfold ctxB; simp [hb']
    clear hb hb'
    go_enter Tryz.func31, Tryz.ntmps31
    go_wp2_with fail
    refine hr.mono ?_
    rintro e w1 ⟨rfl, hb1⟩
    go_wp2
    go_ret
    exact ⟨bool_end hn.out.symm, hb1⟩

end Go.Proofs.YtddmoempagcjeaaGreat
