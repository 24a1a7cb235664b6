/-
  Whether moves are in order, as a contract.
-/
import Derived.Test.YtddmoempagcjeaaFind
namespace Go.Proofs.Ytddmoempagcjeaa
open Go.RowKit Go.Sort

/-- What is asked of the pair at a place. -/
def okAt (l : List (Int × Int)) (i : Nat) : Bool :=
  atomB (prAt l i).1 && (atomB (prAt l i).2 && (decide ((prAt l i).1 ≠ (prAt l i).2) && (decide (i = 0) || decide ((prAt l (i - 1)).1 < (prAt l i).1))))

def orderB (l : List (Int × Int)) : Bool := (List.range l.length).all (okAt l)

theorem orderB_no {l : List (Int × Int)} {i : Nat} (hi : i < l.length) (h : okAt l i = false) : orderB l = false := by
  unfold orderB
  rw [List.all_eq_false]
  exact ⟨i, List.mem_range.2 hi, by simp [h]⟩

theorem orderB_yes {l : List (Int × Int)} (h : ∀ j, j < l.length → okAt l j = true) : orderB l = true := by
  unfold orderB
  rw [List.all_eq_true]
  exact fun x hx => h x (List.mem_range.1 hx)

theorem all_next {p : Nat → Bool} {k : Nat} (h : ∀ j, j < k → p j = true) (hk : p k = true) : ∀ j, j < k + 1 → p j = true := by
  intro j hj
  by_cases e : j = k
  · rw [e]; exact hk
  · exact h j (by omega)

set_option maxRecDepth 100000 in
set_option maxHeartbeats 2000000 in
theorem inOrder_any (A : Option Addr) (c : Nat) (l : List (Int × Int)) (w : World) (hA : PairsAt w A l) (hl : l.length ≤ 1099511627776) :
    Calls Try.prog 64 #[.slice A l.length c] w fun e w' => e = .returned (.bool (orderB l)) ∧ Below w.heap.size w w' := by
  go_enter Try.func64, Try.ntmps64
  go_wp2
  go_loopw [3, 4, 7] (fun _ _ i wr => ∃ k : Nat, k ≤ l.length ∧ i = .int .i64 k ∧ Hid (∀ j, j < k → okAt l j = true) ∧ Below w.heap.size w wr) (fun _ _ i _ => l.length - (intOf i).toNat)
  case atStart => exact ⟨0, Nat.zero_le _, rfl, fun j hj => absurd hj (by omega), Below.refl _ _⟩
  case round =>
    obtain ⟨k, hk, rfl, hq, hb⟩ := hrel
    by_cases hlt : k < l.length
    · obtain ⟨b1, o1, rfl, hb1, hc1⟩ := hA (by omega)
      obtain ⟨c1, c2⟩ := hc1 k hlt
      rw [← hb.cell (p := ⟨b1, _, none⟩) hb1] at c1 c2
      have hbs := hb.size
      by_cases hbad : (atomB (prAt l k).1 && (atomB (prAt l k).2 && decide ((prAt l k).1 ≠ (prAt l k).2))) = false
      · have hn : Hid (orderB l = false) := orderB_no hlt (by
          unfold okAt
          revert hbad
          cases atomB (prAt l k).1 <;> cases atomB (prAt l k).2 <;> cases decide ((prAt l k).1 ≠ (prAt l k).2) <;> simp)
        have hbW : Below w.heap.size w (wr.alloc (.cells #[.int .i64 (prAt l k).1, .int .i64 (prAt l k).2] 81)) := hb.alloc hb.size _
        generalize prAt l k = p1 at c1 c2 hbad hbW
        clear hq hc1 hA
        by_cases ha1 : atomB p1.1 = true
        · by_cases ha2 : atomB p1.2 = true
          · have ha3 : (p1.1 == p1.2) = true := by revert hbad; rw [ha1, ha2]; simp
            clear hbad
            go_wp2_with (go_at_call 62; refine (isAtom_any _ _).mono ?_; rintro e w' ⟨rfl, rfl⟩)
            go_ret
            exact ⟨bool_end hn.out.symm, hbW⟩
          · have ha2' : atomB p1.2 = false := by simpa using ha2
            clear hbad ha2
            go_wp2_with (go_at_call 62; refine (isAtom_any _ _).mono ?_; rintro e w' ⟨rfl, rfl⟩)
            go_ret
            exact ⟨bool_end hn.out.symm, hbW⟩
        · have ha1' : atomB p1.1 = false := by simpa using ha1
          clear hbad ha1
          go_wp2_with (go_at_call 62; refine (isAtom_any _ _).mono ?_; rintro e w' ⟨rfl, rfl⟩)
          go_ret
          exact ⟨bool_end hn.out.symm, hbW⟩
      · have ha1 : atomB (prAt l k).1 = true := by revert hbad; cases atomB (prAt l k).1 <;> simp
        have ha2 : atomB (prAt l k).2 = true := by revert hbad; cases atomB (prAt l k).2 <;> simp
        have ha3 : ((prAt l k).1 == (prAt l k).2) = false := by revert hbad; rw [ha1, ha2]; simp
        clear hbad
        by_cases hz : k = 0
        · subst hz
          have hn : Hid (∀ q, q < 0 + 1 → okAt l q = true) := all_next hq.out (by simp [okAt, ha1, ha2]; simpa using ha3)
          rw [Nat.zero_mul, Nat.add_zero] at c1 c2
          generalize prAt l 0 = p1 at c1 c2 ha1 ha2 ha3
          clear hq hc1 hA
          go_wp2_with (go_at_call 62; refine (isAtom_any _ _).mono ?_; rintro e w' ⟨rfl, rfl⟩)
          have hbW : Below w.heap.size w (wr.alloc (.cells #[.int .i64 p1.1, .int .i64 p1.2] 81)) := hb.alloc hb.size _
          generalize wr.alloc (.cells #[.int .i64 p1.1, .int .i64 p1.2] 81) = W1 at hbW ⊢
          clear c1 c2
          refine wp_region_quiet_below (by kernel_rfl) (by kernel_rfl) ?_
          repeat (any_goals (first | go_big_quiet_step (fail) | quiet_step (fail)))
          refine wpQuiet_nil ?_
          intro _ hw'
          obtain ⟨⟨dq, osq⟩, hw''⟩ := hw'
          subst hw''
          have hb3 := hbW.trans ((below_regrown W1 dq osq).mono hbW.size)
          generalize grow (redrawn W1 dq) osq = w2 at hb3 ⊢
          clear hbW
          go_wp2
          refine ⟨⟨0 + 1, by omega, by go_num, hn, hb3⟩, ?_⟩
          simp only [intOf]
          omega
        · obtain ⟨j, rfl⟩ : ∃ j, k = j + 1 := ⟨k - 1, by omega⟩
          obtain ⟨c3, _⟩ := hc1 j (by omega)
          rw [← hb.cell (p := ⟨b1, _, none⟩) hb1] at c3
          clear hc1 hA hz
          by_cases hp : (prAt l j).1 < (prAt l (j + 1)).1
          · have hn : Hid (∀ q, q < j + 1 + 1 → okAt l q = true) := all_next hq.out (by simp [okAt, ha1, ha2, hp]; simpa using ha3)
            generalize prAt l (j + 1) = p1 at c1 c2 ha1 ha2 ha3 hp
            generalize (prAt l j).1 = p2 at c3 hp
            clear hq
            go_wp2_with (go_at_call 62; refine (isAtom_any _ _).mono ?_; rintro e w' ⟨rfl, rfl⟩)
            have d0 : (wr.alloc (.cells #[.int .i64 p1.1, .int .i64 p1.2] 81)).cell? ⟨wr.heap.size, 0, none⟩ = some (.int .i64 p1.1) := by simp
            have d3 : (wr.alloc (.cells #[.int .i64 p1.1, .int .i64 p1.2] 81)).cell? ⟨b1, o1 + j * 2, none⟩ = some (.int .i64 p2) := by
              rw [World.cell?_alloc_lt _ _ _ (by show b1 < _; omega)]; exact c3
            have hbW : Below w.heap.size w (wr.alloc (.cells #[.int .i64 p1.1, .int .i64 p1.2] 81)) := hb.alloc hb.size _
            generalize wr.alloc (.cells #[.int .i64 p1.1, .int .i64 p1.2] 81) = W1 at d0 d3 hbW ⊢
            have q0 := fun d os => cell_regrown d0 d os
            have q3 := fun d os => cell_regrown d3 d os
            clear c1 c2 c3 d0 d3
            refine wp_region_quiet_below (by kernel_rfl) (by kernel_rfl) ?_
            repeat (any_goals (first | go_big_quiet_step (fail) | quiet_step (fail)))
            refine wpQuiet_nil ?_
            intro _ hw'
            obtain ⟨⟨dq, osq⟩, hw''⟩ := hw'
            subst hw''
            have hb3 := hbW.trans ((below_regrown W1 dq osq).mono hbW.size)
            generalize grow (redrawn W1 dq) osq = w2 at hb3 ⊢
            clear q0 q3 hbW
            go_wp2
            refine ⟨⟨j + 1 + 1, by omega, by go_num, hn, hb3⟩, ?_⟩
            simp only [intOf]
            omega
          · have hn : Hid (orderB l = false) := orderB_no hlt (by simp [okAt, hp])
            generalize prAt l (j + 1) = p1 at c1 c2 ha1 ha2 ha3 hp
            generalize (prAt l j).1 = p2 at c3 hp
            have hp' : p1.1 ≤ p2 := by omega
            clear hq hp
            go_wp2_with (go_at_call 62; refine (isAtom_any _ _).mono ?_; rintro e w' ⟨rfl, rfl⟩)
            have d0 : (wr.alloc (.cells #[.int .i64 p1.1, .int .i64 p1.2] 81)).cell? ⟨wr.heap.size, 0, none⟩ = some (.int .i64 p1.1) := by simp
            have d3 : (wr.alloc (.cells #[.int .i64 p1.1, .int .i64 p1.2] 81)).cell? ⟨b1, o1 + j * 2, none⟩ = some (.int .i64 p2) := by
              rw [World.cell?_alloc_lt _ _ _ (by show b1 < _; omega)]; exact c3
            have hbW : Below w.heap.size w (wr.alloc (.cells #[.int .i64 p1.1, .int .i64 p1.2] 81)) := hb.alloc hb.size _
            generalize wr.alloc (.cells #[.int .i64 p1.1, .int .i64 p1.2] 81) = W1 at d0 d3 hbW ⊢
            have q0 := fun d os => cell_regrown d0 d os
            have q3 := fun d os => cell_regrown d3 d os
            clear c1 c2 c3 d0 d3
            refine wp_region_quiet_below (by kernel_rfl) (by kernel_rfl) ?_
            repeat (any_goals (first | go_big_quiet_step (fail) | quiet_step (fail)))
            refine wpQuiet_nil ?_
            intro _ hw'
            obtain ⟨⟨dq, osq⟩, hw''⟩ := hw'
            subst hw''
            have hb3 := hbW.trans ((below_regrown W1 dq osq).mono hbW.size)
            generalize grow (redrawn W1 dq) osq = w2 at hb3 ⊢
            clear q0 q3 hbW
            go_wp2
            go_ret
            exact ⟨bool_end hn.out.symm, hb3⟩
    · have hn : Hid (orderB l = true) := orderB_yes fun j hj => hq.out j (by omega)
      clear hq
      go_wp2
      go_ret
      exact ⟨bool_end hn.out.symm, hb⟩

end Go.Proofs.Ytddmoempagcjeaa
