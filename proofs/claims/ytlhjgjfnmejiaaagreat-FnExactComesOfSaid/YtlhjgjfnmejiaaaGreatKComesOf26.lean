/-
  Whether a list of bindings is a substitution, in the program and in the model, as contracts.
-/
import Derived.Test.YtlhjgjfnmejiaaaGreatKComesOf10
import Derived.Test.YtlhjgjfnmejiaaaGreatKComesOf12
import Derived.Test.YtlhjgjfnmejiaaaGreatKComesOf6
import Derived.Test.YtlhjgjfnmejiaaaGreatKComesOf20
namespace Go.Proofs.YtlhjgjfnmejiaaaGreat
open Go.RowKit Go.Sort
set_option linter.unusedVariables false

def bdAt (rs : List RBinding) (i : Nat) : Bool := holeB (atRBinding rs i).f0 && (isTermB (atRBinding rs i).f1 && (i == 0 || decide ((atRBinding rs (i - 1)).f0 < (atRBinding rs i).f0)))
/-- A list of bindings is a substitution. -/
def subB (rs : List RBinding) : Bool := (List.range rs.length).all (bdAt rs)
theorem subB_no {rs : List RBinding} {i : Nat} (hi : i < rs.length) (h : bdAt rs i = false) : subB rs = false := by
  unfold subB
  cases hc : (List.range rs.length).all (bdAt rs) with
  | false => rfl
  | true =>
    rw [List.all_eq_true] at hc
    have := hc i (List.mem_range.2 hi)
    rw [h] at this
    exact absurd this (by simp)
theorem subB_yes {rs : List RBinding} (h : ∀ j, j < rs.length → bdAt rs j = true) : subB rs = true := by
  unfold subB
  rw [List.all_eq_true]
  exact fun j hj => h j (List.mem_range.1 hj)
theorem subB_at {rs : List RBinding} (h : subB rs = true) {i : Nat} (hi : i < rs.length) : bdAt rs i = true := by
  unfold subB at h
  rw [List.all_eq_true] at h
  exact h i (List.mem_range.2 hi)
theorem sub_ge {rs : List RBinding} (h : subB rs = true) : ∀ i, i < rs.length → (i : Int) ≤ (atRBinding rs i).f0 ∧ (atRBinding rs i).f0 ≤ 9
  | 0, hi => by
    have g := subB_at h hi
    simp [bdAt, holeB] at g
    omega
  | i + 1, hi => by
    have g := subB_at h hi
    have ih := sub_ge h i (by omega)
    simp [bdAt, holeB] at g
    omega
theorem sub_len {rs : List RBinding} (h : subB rs = true) : rs.length ≤ 10 := by
  rcases Nat.lt_or_ge 10 rs.length with h1 | h1
  · have := sub_ge h 10 h1; omega
  · exact h1
theorem bd_next {p : Nat → Bool} {k : Nat} (h : ∀ j, j < k → p j = true) (hk : p k = true) : ∀ j, j < k + 1 → p j = true := by
  intro j hj
  rcases Nat.lt_or_ge j k with h1 | h1
  · exact h j h1
  · rw [show j = k by omega]; exact hk

set_option maxRecDepth 100000 in
set_option maxHeartbeats 4000000 in
theorem isSub_spec (rs : List RBinding) (x : Value) (w : World) (hx : RBindingsIn w x rs) (hl : rs.length ≤ 1048576) (hcn : ∀ k, k < rs.length → cntT (atRBinding rs k).f1 ≤ 1048576) :
    Calls Tryz.prog 36 #[x] w (BoolPost (subB rs) w) := by
  obtain ⟨C, cc, rfl, hg⟩ := hx
  go_enter Tryz.func36, Tryz.ntmps36
  go_wp2
  go_loopw [7] (fun i wr => ∃ k : Nat, k ≤ rs.length ∧ i = .int .i64 k ∧ Hid (∀ j, j < k → bdAt rs j = true) ∧ Below w.heap.size w wr) (fun i _ => rs.length - (intOf i).toNat)
  case atStart => exact ⟨0, Nat.zero_le _, rfl, fun j hj => absurd hj (by omega), Below.refl _ _⟩
  case round =>
    obtain ⟨k, hk, rfl, hq, hb⟩ := hrel
    by_cases hlt : k < rs.length
    · obtain ⟨b1, o1, rfl, hb1, hget⟩ := hg (by omega)
      obtain ⟨A1, c1, B1, d1, e0, e1, e2, e3, e4, ht⟩ := (hget k hlt).below hb1 hb
      have hcnt := hcn k hlt
      have hbs := hb.size
      have hprev : ∀ j, j < rs.length → wr.cell? ⟨b1, o1 + j * 5, none⟩ = some (.int .i64 (atRBinding rs j).f0) := fun j hj => by
        obtain ⟨_, _, _, _, z, _⟩ := (hget j hj).below hb1 hb
        exact z
      have hdef : bdAt rs k = (holeB (atRBinding rs k).f0 && (isTermB (atRBinding rs k).f1 && (k == 0 || decide ((atRBinding rs (k - 1)).f0 < (atRBinding rs k).f0)))) := rfl
      cases hhole : holeB (atRBinding rs k).f0 with
      | false =>
        have hn : Hid (subB rs = false) := subB_no hlt (by rw [hdef, hhole]; rfl)
        generalize atRBinding rs k = r at e0 e1 e2 e3 e4 ht hhole hcnt
        clear hdef hprev hget hg hcn hq
        go_wp2_with fail
        have hbx : Below wr.heap.size wr (wr.alloc (.cells #[.int .i64 r.f0, .int .i64 r.f1.op, .int .i64 r.f1.num, .slice A1 r.f1.perm.length c1, .slice B1 r.f1.kids.length d1] 78)) := (Below.refl _ _).alloc (Nat.le_refl _) _
        have hk1 := heap_alloc_new wr (.cells #[.int .i64 r.f0, .int .i64 r.f1.op, .int .i64 r.f1.num, .slice A1 r.f1.perm.length c1, .slice B1 r.f1.kids.length d1] 78)
        have hbW := hb.trans (hbx.mono hb.size)
        have htW := ht.below hbx
        have m0 : (wr.alloc (.cells #[.int .i64 r.f0, .int .i64 r.f1.op, .int .i64 r.f1.num, .slice A1 r.f1.perm.length c1, .slice B1 r.f1.kids.length d1] 78)).cell? ⟨wr.heap.size, 0, none⟩ = some (.int .i64 r.f0) := by rw [cell_of_row _ _ 0 _ _ _ hk1]; rfl
        have m1 : (wr.alloc (.cells #[.int .i64 r.f0, .int .i64 r.f1.op, .int .i64 r.f1.num, .slice A1 r.f1.perm.length c1, .slice B1 r.f1.kids.length d1] 78)).cell? ⟨wr.heap.size, 1, none⟩ = some (.int .i64 r.f1.op) := by rw [cell_of_row _ _ 1 _ _ _ hk1]; rfl
        have m2 : (wr.alloc (.cells #[.int .i64 r.f0, .int .i64 r.f1.op, .int .i64 r.f1.num, .slice A1 r.f1.perm.length c1, .slice B1 r.f1.kids.length d1] 78)).cell? ⟨wr.heap.size, 2, none⟩ = some (.int .i64 r.f1.num) := by rw [cell_of_row _ _ 2 _ _ _ hk1]; rfl
        have m3 : (wr.alloc (.cells #[.int .i64 r.f0, .int .i64 r.f1.op, .int .i64 r.f1.num, .slice A1 r.f1.perm.length c1, .slice B1 r.f1.kids.length d1] 78)).cell? ⟨wr.heap.size, 3, none⟩ = some (.slice A1 r.f1.perm.length c1) := by rw [cell_of_row _ _ 3 _ _ _ hk1]; rfl
        have m4 : (wr.alloc (.cells #[.int .i64 r.f0, .int .i64 r.f1.op, .int .i64 r.f1.num, .slice A1 r.f1.perm.length c1, .slice B1 r.f1.kids.length d1] 78)).cell? ⟨wr.heap.size, 4, none⟩ = some (.slice B1 r.f1.kids.length d1) := by rw [cell_of_row _ _ 4 _ _ _ hk1]; rfl
        generalize wr.alloc (.cells #[.int .i64 r.f0, .int .i64 r.f1.op, .int .i64 r.f1.num, .slice A1 r.f1.perm.length c1, .slice B1 r.f1.kids.length d1] 78) = W1 at hbx hbW htW m0 m1 m2 m3 m4 ⊢
        have q0 := fun d os => cell_regrown m0 d os
        have q1 := fun d os => cell_regrown m1 d os
        have q2 := fun d os => cell_regrown m2 d os
        have q3 := fun d os => cell_regrown m3 d os
        have q4 := fun d os => cell_regrown m4 d os
        have hho := fun W => l1In_is r.f0 0 9 false hhole.symm W
        have hit := hho
        clear e0 e1 e2 e3 e4 ht hbx hk1 htW hcnt m0 m1 m2 m3 m4
        refine wp_region_quiet_below (by kernel_rfl) (by kernel_rfl) ?_
        repeat (any_goals (first | go_big_quiet_step ((first | (go_at_call 80; exact Calls.regrown_of (hho _)) | (go_at_call 53; exact Calls.regrown_of (hit _ _)))) | quiet_step ((first | (go_at_call 80; exact Calls.regrown_of (hho _)) | (go_at_call 53; exact Calls.regrown_of (hit _ _))))))
        refine wpQuiet_nil ?_
        intro _ hw'
        obtain ⟨⟨dq, osq⟩, hw''⟩ := hw'
        subst hw''
        have hb3 := hbW.trans ((below_regrown W1 dq osq).mono hbW.size)
        generalize grow (redrawn W1 dq) osq = w2 at hb3 ⊢
        clear hbW hho hit q0 q1 q2 q3 q4
        have hpost : BoolPost (subB rs) w (.returned (.bool false)) w2 := ⟨by rw [hn.out], hb3⟩
        clear hb3 hn
        go_wp2
        go_ret
        exact hpost
      | true =>
        cases hterm : isTermB (atRBinding rs k).f1 with
        | false =>
          have hn : Hid (subB rs = false) := subB_no hlt (by rw [hdef, hhole, hterm]; rfl)
          generalize atRBinding rs k = r at e0 e1 e2 e3 e4 ht hhole hterm hcnt
          clear hdef hprev hget hg hcn hq
          go_wp2_with fail
          have hbx : Below wr.heap.size wr (wr.alloc (.cells #[.int .i64 r.f0, .int .i64 r.f1.op, .int .i64 r.f1.num, .slice A1 r.f1.perm.length c1, .slice B1 r.f1.kids.length d1] 78)) := (Below.refl _ _).alloc (Nat.le_refl _) _
          have hk1 := heap_alloc_new wr (.cells #[.int .i64 r.f0, .int .i64 r.f1.op, .int .i64 r.f1.num, .slice A1 r.f1.perm.length c1, .slice B1 r.f1.kids.length d1] 78)
          have hbW := hb.trans (hbx.mono hb.size)
          have htW := ht.below hbx
          have m0 : (wr.alloc (.cells #[.int .i64 r.f0, .int .i64 r.f1.op, .int .i64 r.f1.num, .slice A1 r.f1.perm.length c1, .slice B1 r.f1.kids.length d1] 78)).cell? ⟨wr.heap.size, 0, none⟩ = some (.int .i64 r.f0) := by rw [cell_of_row _ _ 0 _ _ _ hk1]; rfl
          have m1 : (wr.alloc (.cells #[.int .i64 r.f0, .int .i64 r.f1.op, .int .i64 r.f1.num, .slice A1 r.f1.perm.length c1, .slice B1 r.f1.kids.length d1] 78)).cell? ⟨wr.heap.size, 1, none⟩ = some (.int .i64 r.f1.op) := by rw [cell_of_row _ _ 1 _ _ _ hk1]; rfl
          have m2 : (wr.alloc (.cells #[.int .i64 r.f0, .int .i64 r.f1.op, .int .i64 r.f1.num, .slice A1 r.f1.perm.length c1, .slice B1 r.f1.kids.length d1] 78)).cell? ⟨wr.heap.size, 2, none⟩ = some (.int .i64 r.f1.num) := by rw [cell_of_row _ _ 2 _ _ _ hk1]; rfl
          have m3 : (wr.alloc (.cells #[.int .i64 r.f0, .int .i64 r.f1.op, .int .i64 r.f1.num, .slice A1 r.f1.perm.length c1, .slice B1 r.f1.kids.length d1] 78)).cell? ⟨wr.heap.size, 3, none⟩ = some (.slice A1 r.f1.perm.length c1) := by rw [cell_of_row _ _ 3 _ _ _ hk1]; rfl
          have m4 : (wr.alloc (.cells #[.int .i64 r.f0, .int .i64 r.f1.op, .int .i64 r.f1.num, .slice A1 r.f1.perm.length c1, .slice B1 r.f1.kids.length d1] 78)).cell? ⟨wr.heap.size, 4, none⟩ = some (.slice B1 r.f1.kids.length d1) := by rw [cell_of_row _ _ 4 _ _ _ hk1]; rfl
          generalize wr.alloc (.cells #[.int .i64 r.f0, .int .i64 r.f1.op, .int .i64 r.f1.num, .slice A1 r.f1.perm.length c1, .slice B1 r.f1.kids.length d1] 78) = W1 at hbx hbW htW m0 m1 m2 m3 m4 ⊢
          have q0 := fun d os => cell_regrown m0 d os
          have q1 := fun d os => cell_regrown m1 d os
          have q2 := fun d os => cell_regrown m2 d os
          have q3 := fun d os => cell_regrown m3 d os
          have q4 := fun d os => cell_regrown m4 d os
          have hho := fun W => l1In_is r.f0 0 9 true hhole.symm W
          have hit := fun d os => (show Calls Tryz.prog 53 #[.agg #[.int .i64 r.f1.op, .int .i64 r.f1.num, .slice A1 r.f1.perm.length c1, .slice B1 r.f1.kids.length d1]] (grow (redrawn W1 d) os) (fun e w' => e = .returned (.bool false) ∧ Below (grow (redrawn W1 d) os).heap.size (grow (redrawn W1 d) os) w') from by have h := isTerm_spec r.f1 _ _ (htW.below (below_regrown W1 d os)) hcnt; rw [hterm] at h; exact h)
          clear e0 e1 e2 e3 e4 ht hbx hk1 htW hcnt m0 m1 m2 m3 m4
          refine wp_region_quiet_below (by kernel_rfl) (by kernel_rfl) ?_
          repeat (any_goals (first | go_big_quiet_step ((first | (go_at_call 80; exact Calls.regrown_of (hho _)) | (go_at_call 53; exact Calls.regrown_of (hit _ _)))) | quiet_step ((first | (go_at_call 80; exact Calls.regrown_of (hho _)) | (go_at_call 53; exact Calls.regrown_of (hit _ _))))))
          refine wpQuiet_nil ?_
          intro _ hw'
          obtain ⟨⟨dq, osq⟩, hw''⟩ := hw'
          subst hw''
          have hb3 := hbW.trans ((below_regrown W1 dq osq).mono hbW.size)
          generalize grow (redrawn W1 dq) osq = w2 at hb3 ⊢
          clear hbW hho hit q0 q1 q2 q3 q4
          have hpost : BoolPost (subB rs) w (.returned (.bool false)) w2 := ⟨by rw [hn.out], hb3⟩
          clear hb3 hn
          go_wp2
          go_ret
          exact hpost
        | true =>
          by_cases hz : k = 0
          · subst hz
            have hn : Hid (∀ q, q < 0 + 1 → bdAt rs q = true) := bd_next hq.out (by rw [hdef, hhole, hterm]; rfl)
            rw [Nat.zero_mul, Nat.add_zero] at e0 e1 e2 e3 e4
            generalize atRBinding rs 0 = r at e0 e1 e2 e3 e4 ht hhole hterm hcnt
            clear hdef hprev hget hg hcn hq
            go_wp2_with fail
            have hbx : Below wr.heap.size wr (wr.alloc (.cells #[.int .i64 r.f0, .int .i64 r.f1.op, .int .i64 r.f1.num, .slice A1 r.f1.perm.length c1, .slice B1 r.f1.kids.length d1] 78)) := (Below.refl _ _).alloc (Nat.le_refl _) _
            have hk1 := heap_alloc_new wr (.cells #[.int .i64 r.f0, .int .i64 r.f1.op, .int .i64 r.f1.num, .slice A1 r.f1.perm.length c1, .slice B1 r.f1.kids.length d1] 78)
            have hbW := hb.trans (hbx.mono hb.size)
            have htW := ht.below hbx
            have m0 : (wr.alloc (.cells #[.int .i64 r.f0, .int .i64 r.f1.op, .int .i64 r.f1.num, .slice A1 r.f1.perm.length c1, .slice B1 r.f1.kids.length d1] 78)).cell? ⟨wr.heap.size, 0, none⟩ = some (.int .i64 r.f0) := by rw [cell_of_row _ _ 0 _ _ _ hk1]; rfl
            have m1 : (wr.alloc (.cells #[.int .i64 r.f0, .int .i64 r.f1.op, .int .i64 r.f1.num, .slice A1 r.f1.perm.length c1, .slice B1 r.f1.kids.length d1] 78)).cell? ⟨wr.heap.size, 1, none⟩ = some (.int .i64 r.f1.op) := by rw [cell_of_row _ _ 1 _ _ _ hk1]; rfl
            have m2 : (wr.alloc (.cells #[.int .i64 r.f0, .int .i64 r.f1.op, .int .i64 r.f1.num, .slice A1 r.f1.perm.length c1, .slice B1 r.f1.kids.length d1] 78)).cell? ⟨wr.heap.size, 2, none⟩ = some (.int .i64 r.f1.num) := by rw [cell_of_row _ _ 2 _ _ _ hk1]; rfl
            have m3 : (wr.alloc (.cells #[.int .i64 r.f0, .int .i64 r.f1.op, .int .i64 r.f1.num, .slice A1 r.f1.perm.length c1, .slice B1 r.f1.kids.length d1] 78)).cell? ⟨wr.heap.size, 3, none⟩ = some (.slice A1 r.f1.perm.length c1) := by rw [cell_of_row _ _ 3 _ _ _ hk1]; rfl
            have m4 : (wr.alloc (.cells #[.int .i64 r.f0, .int .i64 r.f1.op, .int .i64 r.f1.num, .slice A1 r.f1.perm.length c1, .slice B1 r.f1.kids.length d1] 78)).cell? ⟨wr.heap.size, 4, none⟩ = some (.slice B1 r.f1.kids.length d1) := by rw [cell_of_row _ _ 4 _ _ _ hk1]; rfl
            generalize wr.alloc (.cells #[.int .i64 r.f0, .int .i64 r.f1.op, .int .i64 r.f1.num, .slice A1 r.f1.perm.length c1, .slice B1 r.f1.kids.length d1] 78) = W1 at hbx hbW htW m0 m1 m2 m3 m4 ⊢
            have q0 := fun d os => cell_regrown m0 d os
            have q1 := fun d os => cell_regrown m1 d os
            have q2 := fun d os => cell_regrown m2 d os
            have q3 := fun d os => cell_regrown m3 d os
            have q4 := fun d os => cell_regrown m4 d os
            have hho := fun W => l1In_is r.f0 0 9 true hhole.symm W
            have hit := fun d os => (show Calls Tryz.prog 53 #[.agg #[.int .i64 r.f1.op, .int .i64 r.f1.num, .slice A1 r.f1.perm.length c1, .slice B1 r.f1.kids.length d1]] (grow (redrawn W1 d) os) (fun e w' => e = .returned (.bool true) ∧ Below (grow (redrawn W1 d) os).heap.size (grow (redrawn W1 d) os) w') from by have h := isTerm_spec r.f1 _ _ (htW.below (below_regrown W1 d os)) hcnt; rw [hterm] at h; exact h)
            clear e0 e1 e2 e3 e4 ht hbx hk1 htW hcnt m0 m1 m2 m3 m4
            refine wp_region_quiet_below (by kernel_rfl) (by kernel_rfl) ?_
            repeat (any_goals (first | go_big_quiet_step ((first | (go_at_call 80; exact Calls.regrown_of (hho _)) | (go_at_call 53; exact Calls.regrown_of (hit _ _)))) | quiet_step ((first | (go_at_call 80; exact Calls.regrown_of (hho _)) | (go_at_call 53; exact Calls.regrown_of (hit _ _))))))
            refine wpQuiet_nil ?_
            intro _ hw'
            obtain ⟨⟨dq, osq⟩, hw''⟩ := hw'
            subst hw''
            have hb3 := hbW.trans ((below_regrown W1 dq osq).mono hbW.size)
            generalize grow (redrawn W1 dq) osq = w2 at hb3 ⊢
            clear hbW hho hit q0 q1 q2 q3 q4
            go_wp2
            refine ⟨⟨0 + 1, by omega, by go_num, hn, hb3⟩, ?_⟩
            simp only [intOf]
            omega
          · obtain ⟨j, rfl⟩ : ∃ j, k = j + 1 := ⟨k - 1, by omega⟩
            have ep := hprev j (by omega)
            rw [Nat.add_sub_cancel] at hdef
            by_cases hc : (atRBinding rs j).f0 < (atRBinding rs (j + 1)).f0
            · have hn : Hid (∀ q, q < j + 1 + 1 → bdAt rs q = true) := bd_next hq.out (by rw [hdef, hhole, hterm]; simp [hc])
              have hnc : ¬ (atRBinding rs (j + 1)).f0 ≤ (atRBinding rs j).f0 := by omega
              generalize atRBinding rs (j + 1) = r at e0 e1 e2 e3 e4 ht hhole hterm hcnt hc hnc
              generalize atRBinding rs j = p at ep hc hnc
              clear hdef hprev hget hg hcn hq hz
              go_wp2_with fail
              have hbx : Below wr.heap.size wr (wr.alloc (.cells #[.int .i64 r.f0, .int .i64 r.f1.op, .int .i64 r.f1.num, .slice A1 r.f1.perm.length c1, .slice B1 r.f1.kids.length d1] 78)) := (Below.refl _ _).alloc (Nat.le_refl _) _
              have hk1 := heap_alloc_new wr (.cells #[.int .i64 r.f0, .int .i64 r.f1.op, .int .i64 r.f1.num, .slice A1 r.f1.perm.length c1, .slice B1 r.f1.kids.length d1] 78)
              have hbW := hb.trans (hbx.mono hb.size)
              have htW := ht.below hbx
              have m0 : (wr.alloc (.cells #[.int .i64 r.f0, .int .i64 r.f1.op, .int .i64 r.f1.num, .slice A1 r.f1.perm.length c1, .slice B1 r.f1.kids.length d1] 78)).cell? ⟨wr.heap.size, 0, none⟩ = some (.int .i64 r.f0) := by rw [cell_of_row _ _ 0 _ _ _ hk1]; rfl
              have m1 : (wr.alloc (.cells #[.int .i64 r.f0, .int .i64 r.f1.op, .int .i64 r.f1.num, .slice A1 r.f1.perm.length c1, .slice B1 r.f1.kids.length d1] 78)).cell? ⟨wr.heap.size, 1, none⟩ = some (.int .i64 r.f1.op) := by rw [cell_of_row _ _ 1 _ _ _ hk1]; rfl
              have m2 : (wr.alloc (.cells #[.int .i64 r.f0, .int .i64 r.f1.op, .int .i64 r.f1.num, .slice A1 r.f1.perm.length c1, .slice B1 r.f1.kids.length d1] 78)).cell? ⟨wr.heap.size, 2, none⟩ = some (.int .i64 r.f1.num) := by rw [cell_of_row _ _ 2 _ _ _ hk1]; rfl
              have m3 : (wr.alloc (.cells #[.int .i64 r.f0, .int .i64 r.f1.op, .int .i64 r.f1.num, .slice A1 r.f1.perm.length c1, .slice B1 r.f1.kids.length d1] 78)).cell? ⟨wr.heap.size, 3, none⟩ = some (.slice A1 r.f1.perm.length c1) := by rw [cell_of_row _ _ 3 _ _ _ hk1]; rfl
              have m4 : (wr.alloc (.cells #[.int .i64 r.f0, .int .i64 r.f1.op, .int .i64 r.f1.num, .slice A1 r.f1.perm.length c1, .slice B1 r.f1.kids.length d1] 78)).cell? ⟨wr.heap.size, 4, none⟩ = some (.slice B1 r.f1.kids.length d1) := by rw [cell_of_row _ _ 4 _ _ _ hk1]; rfl
              have mp : (wr.alloc (.cells #[.int .i64 r.f0, .int .i64 r.f1.op, .int .i64 r.f1.num, .slice A1 r.f1.perm.length c1, .slice B1 r.f1.kids.length d1] 78)).cell? ⟨b1, o1 + j * 5, none⟩ = some (.int .i64 p.f0) := (hbx.cell (p := ⟨b1, o1 + j * 5, none⟩) (show b1 < wr.heap.size from Nat.lt_of_lt_of_le hb1 hbs)).trans ep
              generalize wr.alloc (.cells #[.int .i64 r.f0, .int .i64 r.f1.op, .int .i64 r.f1.num, .slice A1 r.f1.perm.length c1, .slice B1 r.f1.kids.length d1] 78) = W1 at hbx hbW htW m0 m1 m2 m3 m4 mp ⊢
              have q0 := fun d os => cell_regrown m0 d os
              have q1 := fun d os => cell_regrown m1 d os
              have q2 := fun d os => cell_regrown m2 d os
              have q3 := fun d os => cell_regrown m3 d os
              have q4 := fun d os => cell_regrown m4 d os
              have qp := fun d os => cell_regrown mp d os
              have hho := fun W => l1In_is r.f0 0 9 true hhole.symm W
              have hit := fun d os => (show Calls Tryz.prog 53 #[.agg #[.int .i64 r.f1.op, .int .i64 r.f1.num, .slice A1 r.f1.perm.length c1, .slice B1 r.f1.kids.length d1]] (grow (redrawn W1 d) os) (fun e w' => e = .returned (.bool true) ∧ Below (grow (redrawn W1 d) os).heap.size (grow (redrawn W1 d) os) w') from by have h := isTerm_spec r.f1 _ _ (htW.below (below_regrown W1 d os)) hcnt; rw [hterm] at h; exact h)
              clear e0 e1 e2 e3 e4 ht hbx hk1 htW hcnt m0 m1 m2 m3 m4 mp ep
              refine wp_region_quiet_below (by kernel_rfl) (by kernel_rfl) ?_
              repeat (any_goals (first | go_big_quiet_step ((first | (go_at_call 80; exact Calls.regrown_of (hho _)) | (go_at_call 53; exact Calls.regrown_of (hit _ _)))) | quiet_step ((first | (go_at_call 80; exact Calls.regrown_of (hho _)) | (go_at_call 53; exact Calls.regrown_of (hit _ _))))))
              refine wpQuiet_nil ?_
              intro _ hw'
              obtain ⟨⟨dq, osq⟩, hw''⟩ := hw'
              subst hw''
              have hb3 := hbW.trans ((below_regrown W1 dq osq).mono hbW.size)
              generalize grow (redrawn W1 dq) osq = w2 at hb3 ⊢
              clear hbW hho hit q0 q1 q2 q3 q4 qp
              go_wp2
              refine ⟨⟨j + 1 + 1, by omega, by go_num, hn, hb3⟩, ?_⟩
              simp only [intOf]
              omega
            · have hn : Hid (subB rs = false) := subB_no hlt (by rw [hdef, hhole, hterm]; simp [hc])
              have hnc : (atRBinding rs (j + 1)).f0 ≤ (atRBinding rs j).f0 := by omega
              generalize atRBinding rs (j + 1) = r at e0 e1 e2 e3 e4 ht hhole hterm hcnt hc hnc
              generalize atRBinding rs j = p at ep hc hnc
              clear hdef hprev hget hg hcn hq hz
              go_wp2_with fail
              have hbx : Below wr.heap.size wr (wr.alloc (.cells #[.int .i64 r.f0, .int .i64 r.f1.op, .int .i64 r.f1.num, .slice A1 r.f1.perm.length c1, .slice B1 r.f1.kids.length d1] 78)) := (Below.refl _ _).alloc (Nat.le_refl _) _
              have hk1 := heap_alloc_new wr (.cells #[.int .i64 r.f0, .int .i64 r.f1.op, .int .i64 r.f1.num, .slice A1 r.f1.perm.length c1, .slice B1 r.f1.kids.length d1] 78)
              have hbW := hb.trans (hbx.mono hb.size)
              have htW := ht.below hbx
              have m0 : (wr.alloc (.cells #[.int .i64 r.f0, .int .i64 r.f1.op, .int .i64 r.f1.num, .slice A1 r.f1.perm.length c1, .slice B1 r.f1.kids.length d1] 78)).cell? ⟨wr.heap.size, 0, none⟩ = some (.int .i64 r.f0) := by rw [cell_of_row _ _ 0 _ _ _ hk1]; rfl
              have m1 : (wr.alloc (.cells #[.int .i64 r.f0, .int .i64 r.f1.op, .int .i64 r.f1.num, .slice A1 r.f1.perm.length c1, .slice B1 r.f1.kids.length d1] 78)).cell? ⟨wr.heap.size, 1, none⟩ = some (.int .i64 r.f1.op) := by rw [cell_of_row _ _ 1 _ _ _ hk1]; rfl
              have m2 : (wr.alloc (.cells #[.int .i64 r.f0, .int .i64 r.f1.op, .int .i64 r.f1.num, .slice A1 r.f1.perm.length c1, .slice B1 r.f1.kids.length d1] 78)).cell? ⟨wr.heap.size, 2, none⟩ = some (.int .i64 r.f1.num) := by rw [cell_of_row _ _ 2 _ _ _ hk1]; rfl
              have m3 : (wr.alloc (.cells #[.int .i64 r.f0, .int .i64 r.f1.op, .int .i64 r.f1.num, .slice A1 r.f1.perm.length c1, .slice B1 r.f1.kids.length d1] 78)).cell? ⟨wr.heap.size, 3, none⟩ = some (.slice A1 r.f1.perm.length c1) := by rw [cell_of_row _ _ 3 _ _ _ hk1]; rfl
              have m4 : (wr.alloc (.cells #[.int .i64 r.f0, .int .i64 r.f1.op, .int .i64 r.f1.num, .slice A1 r.f1.perm.length c1, .slice B1 r.f1.kids.length d1] 78)).cell? ⟨wr.heap.size, 4, none⟩ = some (.slice B1 r.f1.kids.length d1) := by rw [cell_of_row _ _ 4 _ _ _ hk1]; rfl
              have mp : (wr.alloc (.cells #[.int .i64 r.f0, .int .i64 r.f1.op, .int .i64 r.f1.num, .slice A1 r.f1.perm.length c1, .slice B1 r.f1.kids.length d1] 78)).cell? ⟨b1, o1 + j * 5, none⟩ = some (.int .i64 p.f0) := (hbx.cell (p := ⟨b1, o1 + j * 5, none⟩) (show b1 < wr.heap.size from Nat.lt_of_lt_of_le hb1 hbs)).trans ep
              generalize wr.alloc (.cells #[.int .i64 r.f0, .int .i64 r.f1.op, .int .i64 r.f1.num, .slice A1 r.f1.perm.length c1, .slice B1 r.f1.kids.length d1] 78) = W1 at hbx hbW htW m0 m1 m2 m3 m4 mp ⊢
              have q0 := fun d os => cell_regrown m0 d os
              have q1 := fun d os => cell_regrown m1 d os
              have q2 := fun d os => cell_regrown m2 d os
              have q3 := fun d os => cell_regrown m3 d os
              have q4 := fun d os => cell_regrown m4 d os
              have qp := fun d os => cell_regrown mp d os
              have hho := fun W => l1In_is r.f0 0 9 true hhole.symm W
              have hit := fun d os => (show Calls Tryz.prog 53 #[.agg #[.int .i64 r.f1.op, .int .i64 r.f1.num, .slice A1 r.f1.perm.length c1, .slice B1 r.f1.kids.length d1]] (grow (redrawn W1 d) os) (fun e w' => e = .returned (.bool true) ∧ Below (grow (redrawn W1 d) os).heap.size (grow (redrawn W1 d) os) w') from by have h := isTerm_spec r.f1 _ _ (htW.below (below_regrown W1 d os)) hcnt; rw [hterm] at h; exact h)
              clear e0 e1 e2 e3 e4 ht hbx hk1 htW hcnt m0 m1 m2 m3 m4 mp ep
              refine wp_region_quiet_below (by kernel_rfl) (by kernel_rfl) ?_
              repeat (any_goals (first | go_big_quiet_step ((first | (go_at_call 80; exact Calls.regrown_of (hho _)) | (go_at_call 53; exact Calls.regrown_of (hit _ _)))) | quiet_step ((first | (go_at_call 80; exact Calls.regrown_of (hho _)) | (go_at_call 53; exact Calls.regrown_of (hit _ _))))))
              refine wpQuiet_nil ?_
              intro _ hw'
              obtain ⟨⟨dq, osq⟩, hw''⟩ := hw'
              subst hw''
              have hb3 := hbW.trans ((below_regrown W1 dq osq).mono hbW.size)
              generalize grow (redrawn W1 dq) osq = w2 at hb3 ⊢
              clear hbW hho hit q0 q1 q2 q3 q4 qp
              have hpost : BoolPost (subB rs) w (.returned (.bool false)) w2 := ⟨by rw [hn.out], hb3⟩
              clear hb3 hn
              go_wp2
              go_ret
              exact hpost
    · have e : k = rs.length := by omega
      have hr : Hid (subB rs = true) := subB_yes (fun j hj => hq.out j (by omega))
      have hpost : BoolPost (subB rs) w (.returned (.bool true)) wr := ⟨by rw [hr.out], hb⟩
      clear hg hcn hr hb
      go_wp2
      go_ret
      exact hpost

set_option maxRecDepth 100000 in
set_option maxHeartbeats 4000000 in
theorem isSub_impl (rs : List RBinding) (x : Value) (w : World) (hx : RBindingsIn w x rs) (hl : rs.length ≤ 1048576) (hcn : ∀ k, k < rs.length → cntT (atRBinding rs k).f1 ≤ 1048576) :
    Calls Tryz.prog 43 #[x] w (BoolPost (subB rs) w) := by
  obtain ⟨C, cc, rfl, hg⟩ := hx
  by_cases h10 : 10 < rs.length
  · have k0 : 10 < (rs.length : Int) := by omega
    have hn : Hid (subB rs = false) := by
      show subB rs = false
      cases h : subB rs with
      | false => rfl
      | true => have := sub_len h; omega
    have hpost : BoolPost (subB rs) w (.returned (.bool false)) w := ⟨by rw [hn.out], Below.refl _ _⟩
    clear hg hn
    go_enter Tryz.func43, Tryz.ntmps43
    go_wp2
    go_ret
    exact hpost
  have k0 : ¬ 10 < (rs.length : Int) := by omega
  go_enter Tryz.func43, Tryz.ntmps43
  go_wp2
  go_loopw [10] (fun i wr => ∃ k : Nat, k ≤ rs.length ∧ i = .int .i64 k ∧ Hid (∀ j, j < k → bdAt rs j = true) ∧ Below w.heap.size w wr) (fun i _ => rs.length - (intOf i).toNat)
  case atStart => exact ⟨0, Nat.zero_le _, rfl, fun j hj => absurd hj (by omega), Below.refl _ _⟩
  case round =>
    obtain ⟨k, hk, rfl, hq, hb⟩ := hrel
    by_cases hlt : k < rs.length
    · obtain ⟨b1, o1, rfl, hb1, hget⟩ := hg (by omega)
      obtain ⟨A1, c1, B1, d1, e0, e1, e2, e3, e4, ht⟩ := (hget k hlt).below hb1 hb
      have hcnt := hcn k hlt
      have hbs := hb.size
      have hprev : ∀ j, j < rs.length → wr.cell? ⟨b1, o1 + j * 5, none⟩ = some (.int .i64 (atRBinding rs j).f0) := fun j hj => by
        obtain ⟨_, _, _, _, z, _⟩ := (hget j hj).below hb1 hb
        exact z
      have hdef : bdAt rs k = (holeB (atRBinding rs k).f0 && (isTermB (atRBinding rs k).f1 && (k == 0 || decide ((atRBinding rs (k - 1)).f0 < (atRBinding rs k).f0)))) := rfl
      cases hhole : holeB (atRBinding rs k).f0 with
      | false =>
        have hn : Hid (subB rs = false) := subB_no hlt (by rw [hdef, hhole]; rfl)
        generalize atRBinding rs k = r at e0 e1 e2 e3 e4 ht hhole hcnt
        clear hdef hprev hget hg hcn hq
        skip
        have hbx : Below wr.heap.size wr (wr.alloc (.cells #[.int .i64 r.f0, .int .i64 r.f1.op, .int .i64 r.f1.num, .slice A1 r.f1.perm.length c1, .slice B1 r.f1.kids.length d1] 78)) := (Below.refl _ _).alloc (Nat.le_refl _) _
        have hk1 := heap_alloc_new wr (.cells #[.int .i64 r.f0, .int .i64 r.f1.op, .int .i64 r.f1.num, .slice A1 r.f1.perm.length c1, .slice B1 r.f1.kids.length d1] 78)
        have hbW := hb.trans (hbx.mono hb.size)
        have htW := ht.below hbx
        have m0 : (wr.alloc (.cells #[.int .i64 r.f0, .int .i64 r.f1.op, .int .i64 r.f1.num, .slice A1 r.f1.perm.length c1, .slice B1 r.f1.kids.length d1] 78)).cell? ⟨wr.heap.size, 0, none⟩ = some (.int .i64 r.f0) := by rw [cell_of_row _ _ 0 _ _ _ hk1]; rfl
        have m1 : (wr.alloc (.cells #[.int .i64 r.f0, .int .i64 r.f1.op, .int .i64 r.f1.num, .slice A1 r.f1.perm.length c1, .slice B1 r.f1.kids.length d1] 78)).cell? ⟨wr.heap.size, 1, none⟩ = some (.int .i64 r.f1.op) := by rw [cell_of_row _ _ 1 _ _ _ hk1]; rfl
        have m2 : (wr.alloc (.cells #[.int .i64 r.f0, .int .i64 r.f1.op, .int .i64 r.f1.num, .slice A1 r.f1.perm.length c1, .slice B1 r.f1.kids.length d1] 78)).cell? ⟨wr.heap.size, 2, none⟩ = some (.int .i64 r.f1.num) := by rw [cell_of_row _ _ 2 _ _ _ hk1]; rfl
        have m3 : (wr.alloc (.cells #[.int .i64 r.f0, .int .i64 r.f1.op, .int .i64 r.f1.num, .slice A1 r.f1.perm.length c1, .slice B1 r.f1.kids.length d1] 78)).cell? ⟨wr.heap.size, 3, none⟩ = some (.slice A1 r.f1.perm.length c1) := by rw [cell_of_row _ _ 3 _ _ _ hk1]; rfl
        have m4 : (wr.alloc (.cells #[.int .i64 r.f0, .int .i64 r.f1.op, .int .i64 r.f1.num, .slice A1 r.f1.perm.length c1, .slice B1 r.f1.kids.length d1] 78)).cell? ⟨wr.heap.size, 4, none⟩ = some (.slice B1 r.f1.kids.length d1) := by rw [cell_of_row _ _ 4 _ _ _ hk1]; rfl
        have hho := isHole_c r.f0
        rw [hhole] at hho
        go_wp2_with fail
        refine (hho _).mono ?_
        rintro e w' ⟨rfl, rfl⟩
        have hpost : BoolPost (subB rs) w (.returned (.bool false)) (wr.alloc (.cells #[.int .i64 r.f0, .int .i64 r.f1.op, .int .i64 r.f1.num, .slice A1 r.f1.perm.length c1, .slice B1 r.f1.kids.length d1] 78)) := ⟨by rw [hn.out], hbW⟩
        clear hbx hbW htW hk1 hn hho e0 e1 e2 e3 e4 ht hb m0 m1 m2 m3 m4
        go_wp2
        go_ret
        exact hpost
      | true =>
        cases hterm : isTermB (atRBinding rs k).f1 with
        | false =>
          have hn : Hid (subB rs = false) := subB_no hlt (by rw [hdef, hhole, hterm]; rfl)
          generalize atRBinding rs k = r at e0 e1 e2 e3 e4 ht hhole hterm hcnt
          clear hdef hprev hget hg hcn hq
          skip
          have hbx : Below wr.heap.size wr (wr.alloc (.cells #[.int .i64 r.f0, .int .i64 r.f1.op, .int .i64 r.f1.num, .slice A1 r.f1.perm.length c1, .slice B1 r.f1.kids.length d1] 78)) := (Below.refl _ _).alloc (Nat.le_refl _) _
          have hk1 := heap_alloc_new wr (.cells #[.int .i64 r.f0, .int .i64 r.f1.op, .int .i64 r.f1.num, .slice A1 r.f1.perm.length c1, .slice B1 r.f1.kids.length d1] 78)
          have hbW := hb.trans (hbx.mono hb.size)
          have htW := ht.below hbx
          have m0 : (wr.alloc (.cells #[.int .i64 r.f0, .int .i64 r.f1.op, .int .i64 r.f1.num, .slice A1 r.f1.perm.length c1, .slice B1 r.f1.kids.length d1] 78)).cell? ⟨wr.heap.size, 0, none⟩ = some (.int .i64 r.f0) := by rw [cell_of_row _ _ 0 _ _ _ hk1]; rfl
          have m1 : (wr.alloc (.cells #[.int .i64 r.f0, .int .i64 r.f1.op, .int .i64 r.f1.num, .slice A1 r.f1.perm.length c1, .slice B1 r.f1.kids.length d1] 78)).cell? ⟨wr.heap.size, 1, none⟩ = some (.int .i64 r.f1.op) := by rw [cell_of_row _ _ 1 _ _ _ hk1]; rfl
          have m2 : (wr.alloc (.cells #[.int .i64 r.f0, .int .i64 r.f1.op, .int .i64 r.f1.num, .slice A1 r.f1.perm.length c1, .slice B1 r.f1.kids.length d1] 78)).cell? ⟨wr.heap.size, 2, none⟩ = some (.int .i64 r.f1.num) := by rw [cell_of_row _ _ 2 _ _ _ hk1]; rfl
          have m3 : (wr.alloc (.cells #[.int .i64 r.f0, .int .i64 r.f1.op, .int .i64 r.f1.num, .slice A1 r.f1.perm.length c1, .slice B1 r.f1.kids.length d1] 78)).cell? ⟨wr.heap.size, 3, none⟩ = some (.slice A1 r.f1.perm.length c1) := by rw [cell_of_row _ _ 3 _ _ _ hk1]; rfl
          have m4 : (wr.alloc (.cells #[.int .i64 r.f0, .int .i64 r.f1.op, .int .i64 r.f1.num, .slice A1 r.f1.perm.length c1, .slice B1 r.f1.kids.length d1] 78)).cell? ⟨wr.heap.size, 4, none⟩ = some (.slice B1 r.f1.kids.length d1) := by rw [cell_of_row _ _ 4 _ _ _ hk1]; rfl
          have hho := isHole_c r.f0
          rw [hhole] at hho
          go_wp2_with fail
          refine (hho _).mono ?_
          rintro e w' ⟨rfl, rfl⟩
          have hit := isTerm_impl r.f1 _ _ htW (fit_of _ hcnt)
          rw [hterm] at hit
          have HM := Lib.hid (fun w' (h : Below (wr.alloc (.cells #[.int .i64 r.f0, .int .i64 r.f1.op, .int .i64 r.f1.num, .slice A1 r.f1.perm.length c1, .slice B1 r.f1.kids.length d1] 78)).heap.size (wr.alloc (.cells #[.int .i64 r.f0, .int .i64 r.f1.op, .int .i64 r.f1.num, .slice A1 r.f1.perm.length c1, .slice B1 r.f1.kids.length d1] 78)) w') => (h.cell (p := ⟨wr.heap.size, 0, none⟩) (by rw [World.size_alloc]; exact Nat.lt_succ_self _)).trans m0)
          go_wp2_with fail
          refine hit.mono ?_
          rintro e w2 ⟨rfl, hb2⟩
          have hb3 := hbW.trans (hb2.mono hbW.size)
          have m0' := HM.out w2 hb2
          clear hit hho hbx hbW htW hk1 e0 e1 e2 e3 e4 ht hb hb2 HM m0 m1 m2 m3 m4
          have hpost : BoolPost (subB rs) w (.returned (.bool false)) w2 := ⟨by rw [hn.out], hb3⟩
          clear hb3 hn
          go_wp2
          go_ret
          exact hpost
        | true =>
          by_cases hz : k = 0
          · subst hz
            have hn : Hid (∀ q, q < 0 + 1 → bdAt rs q = true) := bd_next hq.out (by rw [hdef, hhole, hterm]; rfl)
            rw [Nat.zero_mul, Nat.add_zero] at e0 e1 e2 e3 e4
            generalize atRBinding rs 0 = r at e0 e1 e2 e3 e4 ht hhole hterm hcnt
            clear hdef hprev hget hg hcn hq
            skip
            have hbx : Below wr.heap.size wr (wr.alloc (.cells #[.int .i64 r.f0, .int .i64 r.f1.op, .int .i64 r.f1.num, .slice A1 r.f1.perm.length c1, .slice B1 r.f1.kids.length d1] 78)) := (Below.refl _ _).alloc (Nat.le_refl _) _
            have hk1 := heap_alloc_new wr (.cells #[.int .i64 r.f0, .int .i64 r.f1.op, .int .i64 r.f1.num, .slice A1 r.f1.perm.length c1, .slice B1 r.f1.kids.length d1] 78)
            have hbW := hb.trans (hbx.mono hb.size)
            have htW := ht.below hbx
            have m0 : (wr.alloc (.cells #[.int .i64 r.f0, .int .i64 r.f1.op, .int .i64 r.f1.num, .slice A1 r.f1.perm.length c1, .slice B1 r.f1.kids.length d1] 78)).cell? ⟨wr.heap.size, 0, none⟩ = some (.int .i64 r.f0) := by rw [cell_of_row _ _ 0 _ _ _ hk1]; rfl
            have m1 : (wr.alloc (.cells #[.int .i64 r.f0, .int .i64 r.f1.op, .int .i64 r.f1.num, .slice A1 r.f1.perm.length c1, .slice B1 r.f1.kids.length d1] 78)).cell? ⟨wr.heap.size, 1, none⟩ = some (.int .i64 r.f1.op) := by rw [cell_of_row _ _ 1 _ _ _ hk1]; rfl
            have m2 : (wr.alloc (.cells #[.int .i64 r.f0, .int .i64 r.f1.op, .int .i64 r.f1.num, .slice A1 r.f1.perm.length c1, .slice B1 r.f1.kids.length d1] 78)).cell? ⟨wr.heap.size, 2, none⟩ = some (.int .i64 r.f1.num) := by rw [cell_of_row _ _ 2 _ _ _ hk1]; rfl
            have m3 : (wr.alloc (.cells #[.int .i64 r.f0, .int .i64 r.f1.op, .int .i64 r.f1.num, .slice A1 r.f1.perm.length c1, .slice B1 r.f1.kids.length d1] 78)).cell? ⟨wr.heap.size, 3, none⟩ = some (.slice A1 r.f1.perm.length c1) := by rw [cell_of_row _ _ 3 _ _ _ hk1]; rfl
            have m4 : (wr.alloc (.cells #[.int .i64 r.f0, .int .i64 r.f1.op, .int .i64 r.f1.num, .slice A1 r.f1.perm.length c1, .slice B1 r.f1.kids.length d1] 78)).cell? ⟨wr.heap.size, 4, none⟩ = some (.slice B1 r.f1.kids.length d1) := by rw [cell_of_row _ _ 4 _ _ _ hk1]; rfl
            have hho := isHole_c r.f0
            rw [hhole] at hho
            go_wp2_with fail
            refine (hho _).mono ?_
            rintro e w' ⟨rfl, rfl⟩
            have hit := isTerm_impl r.f1 _ _ htW (fit_of _ hcnt)
            rw [hterm] at hit
            have HM := Lib.hid (fun w' (h : Below (wr.alloc (.cells #[.int .i64 r.f0, .int .i64 r.f1.op, .int .i64 r.f1.num, .slice A1 r.f1.perm.length c1, .slice B1 r.f1.kids.length d1] 78)).heap.size (wr.alloc (.cells #[.int .i64 r.f0, .int .i64 r.f1.op, .int .i64 r.f1.num, .slice A1 r.f1.perm.length c1, .slice B1 r.f1.kids.length d1] 78)) w') => (h.cell (p := ⟨wr.heap.size, 0, none⟩) (by rw [World.size_alloc]; exact Nat.lt_succ_self _)).trans m0)
            go_wp2_with fail
            refine hit.mono ?_
            rintro e w2 ⟨rfl, hb2⟩
            have hb3 := hbW.trans (hb2.mono hbW.size)
            have m0' := HM.out w2 hb2
            clear hit hho hbx hbW htW hk1 e0 e1 e2 e3 e4 ht hb hb2 HM m0 m1 m2 m3 m4
            go_wp2
            have q0 := fun d os => cell_regrown m0' d os
            refine wp_region_quiet_below (by kernel_rfl) (by kernel_rfl) ?_
            repeat (any_goals (first | go_big_quiet_step (fail) | quiet_step (fail)))
            refine wpQuiet_nil ?_
            intro _ hw'
            obtain ⟨⟨dq, osq⟩, hw''⟩ := hw'
            subst hw''
            replace hb3 := hb3.trans ((below_regrown w2 dq osq).mono hb3.size)
            clear m0' q0
            generalize grow (redrawn w2 dq) osq = w3 at hb3 ⊢
            go_wp2
            refine ⟨⟨0 + 1, by omega, by go_num, hn, hb3⟩, ?_⟩
            simp only [intOf]
            omega
          · obtain ⟨j, rfl⟩ : ∃ j, k = j + 1 := ⟨k - 1, by omega⟩
            have ep := hprev j (by omega)
            rw [Nat.add_sub_cancel] at hdef
            by_cases hc : (atRBinding rs j).f0 < (atRBinding rs (j + 1)).f0
            · have hn : Hid (∀ q, q < j + 1 + 1 → bdAt rs q = true) := bd_next hq.out (by rw [hdef, hhole, hterm]; simp [hc])
              have hnc : ¬ (atRBinding rs (j + 1)).f0 ≤ (atRBinding rs j).f0 := by omega
              generalize atRBinding rs (j + 1) = r at e0 e1 e2 e3 e4 ht hhole hterm hcnt hc hnc
              generalize atRBinding rs j = p at ep hc hnc
              clear hdef hprev hget hg hcn hq hz
              skip
              have hbx : Below wr.heap.size wr (wr.alloc (.cells #[.int .i64 r.f0, .int .i64 r.f1.op, .int .i64 r.f1.num, .slice A1 r.f1.perm.length c1, .slice B1 r.f1.kids.length d1] 78)) := (Below.refl _ _).alloc (Nat.le_refl _) _
              have hk1 := heap_alloc_new wr (.cells #[.int .i64 r.f0, .int .i64 r.f1.op, .int .i64 r.f1.num, .slice A1 r.f1.perm.length c1, .slice B1 r.f1.kids.length d1] 78)
              have hbW := hb.trans (hbx.mono hb.size)
              have htW := ht.below hbx
              have m0 : (wr.alloc (.cells #[.int .i64 r.f0, .int .i64 r.f1.op, .int .i64 r.f1.num, .slice A1 r.f1.perm.length c1, .slice B1 r.f1.kids.length d1] 78)).cell? ⟨wr.heap.size, 0, none⟩ = some (.int .i64 r.f0) := by rw [cell_of_row _ _ 0 _ _ _ hk1]; rfl
              have m1 : (wr.alloc (.cells #[.int .i64 r.f0, .int .i64 r.f1.op, .int .i64 r.f1.num, .slice A1 r.f1.perm.length c1, .slice B1 r.f1.kids.length d1] 78)).cell? ⟨wr.heap.size, 1, none⟩ = some (.int .i64 r.f1.op) := by rw [cell_of_row _ _ 1 _ _ _ hk1]; rfl
              have m2 : (wr.alloc (.cells #[.int .i64 r.f0, .int .i64 r.f1.op, .int .i64 r.f1.num, .slice A1 r.f1.perm.length c1, .slice B1 r.f1.kids.length d1] 78)).cell? ⟨wr.heap.size, 2, none⟩ = some (.int .i64 r.f1.num) := by rw [cell_of_row _ _ 2 _ _ _ hk1]; rfl
              have m3 : (wr.alloc (.cells #[.int .i64 r.f0, .int .i64 r.f1.op, .int .i64 r.f1.num, .slice A1 r.f1.perm.length c1, .slice B1 r.f1.kids.length d1] 78)).cell? ⟨wr.heap.size, 3, none⟩ = some (.slice A1 r.f1.perm.length c1) := by rw [cell_of_row _ _ 3 _ _ _ hk1]; rfl
              have m4 : (wr.alloc (.cells #[.int .i64 r.f0, .int .i64 r.f1.op, .int .i64 r.f1.num, .slice A1 r.f1.perm.length c1, .slice B1 r.f1.kids.length d1] 78)).cell? ⟨wr.heap.size, 4, none⟩ = some (.slice B1 r.f1.kids.length d1) := by rw [cell_of_row _ _ 4 _ _ _ hk1]; rfl
              have mp : (wr.alloc (.cells #[.int .i64 r.f0, .int .i64 r.f1.op, .int .i64 r.f1.num, .slice A1 r.f1.perm.length c1, .slice B1 r.f1.kids.length d1] 78)).cell? ⟨b1, o1 + j * 5, none⟩ = some (.int .i64 p.f0) := (hbx.cell (p := ⟨b1, o1 + j * 5, none⟩) (show b1 < wr.heap.size from Nat.lt_of_lt_of_le hb1 hbs)).trans ep
              have hho := isHole_c r.f0
              rw [hhole] at hho
              go_wp2_with fail
              refine (hho _).mono ?_
              rintro e w' ⟨rfl, rfl⟩
              have hit := isTerm_impl r.f1 _ _ htW (fit_of _ hcnt)
              rw [hterm] at hit
              have HM := Lib.hid (fun w' (h : Below (wr.alloc (.cells #[.int .i64 r.f0, .int .i64 r.f1.op, .int .i64 r.f1.num, .slice A1 r.f1.perm.length c1, .slice B1 r.f1.kids.length d1] 78)).heap.size (wr.alloc (.cells #[.int .i64 r.f0, .int .i64 r.f1.op, .int .i64 r.f1.num, .slice A1 r.f1.perm.length c1, .slice B1 r.f1.kids.length d1] 78)) w') => (h.cell (p := ⟨wr.heap.size, 0, none⟩) (by rw [World.size_alloc]; exact Nat.lt_succ_self _)).trans m0)
              have HP := Lib.hid (fun w' (h : Below (wr.alloc (.cells #[.int .i64 r.f0, .int .i64 r.f1.op, .int .i64 r.f1.num, .slice A1 r.f1.perm.length c1, .slice B1 r.f1.kids.length d1] 78)).heap.size (wr.alloc (.cells #[.int .i64 r.f0, .int .i64 r.f1.op, .int .i64 r.f1.num, .slice A1 r.f1.perm.length c1, .slice B1 r.f1.kids.length d1] 78)) w') => (h.cell (p := ⟨b1, o1 + j * 5, none⟩) (by rw [World.size_alloc]; show b1 < _; have := hb1; omega)).trans mp)
              go_wp2_with fail
              refine hit.mono ?_
              rintro e w2 ⟨rfl, hb2⟩
              have hb3 := hbW.trans (hb2.mono hbW.size)
              have m0' := HM.out w2 hb2
              have mp' := HP.out w2 hb2
              clear hit hho hbx hbW htW hk1 e0 e1 e2 e3 e4 ht hb hb2 HM m0 m1 m2 m3 m4 mp ep HP
              go_wp2
              have q0 := fun d os => cell_regrown m0' d os
              have qp := fun d os => cell_regrown mp' d os
              refine wp_region_quiet_below (by kernel_rfl) (by kernel_rfl) ?_
              repeat (any_goals (first | go_big_quiet_step (fail) | quiet_step (fail)))
              refine wpQuiet_nil ?_
              intro _ hw'
              obtain ⟨⟨dq, osq⟩, hw''⟩ := hw'
              subst hw''
              replace hb3 := hb3.trans ((below_regrown w2 dq osq).mono hb3.size)
              clear m0' q0 mp' qp
              generalize grow (redrawn w2 dq) osq = w3 at hb3 ⊢
              go_wp2
              refine ⟨⟨j + 1 + 1, by omega, by go_num, hn, hb3⟩, ?_⟩
              simp only [intOf]
              omega
            · have hn : Hid (subB rs = false) := subB_no hlt (by rw [hdef, hhole, hterm]; simp [hc])
              have hnc : (atRBinding rs (j + 1)).f0 ≤ (atRBinding rs j).f0 := by omega
              generalize atRBinding rs (j + 1) = r at e0 e1 e2 e3 e4 ht hhole hterm hcnt hc hnc
              generalize atRBinding rs j = p at ep hc hnc
              clear hdef hprev hget hg hcn hq hz
              skip
              have hbx : Below wr.heap.size wr (wr.alloc (.cells #[.int .i64 r.f0, .int .i64 r.f1.op, .int .i64 r.f1.num, .slice A1 r.f1.perm.length c1, .slice B1 r.f1.kids.length d1] 78)) := (Below.refl _ _).alloc (Nat.le_refl _) _
              have hk1 := heap_alloc_new wr (.cells #[.int .i64 r.f0, .int .i64 r.f1.op, .int .i64 r.f1.num, .slice A1 r.f1.perm.length c1, .slice B1 r.f1.kids.length d1] 78)
              have hbW := hb.trans (hbx.mono hb.size)
              have htW := ht.below hbx
              have m0 : (wr.alloc (.cells #[.int .i64 r.f0, .int .i64 r.f1.op, .int .i64 r.f1.num, .slice A1 r.f1.perm.length c1, .slice B1 r.f1.kids.length d1] 78)).cell? ⟨wr.heap.size, 0, none⟩ = some (.int .i64 r.f0) := by rw [cell_of_row _ _ 0 _ _ _ hk1]; rfl
              have m1 : (wr.alloc (.cells #[.int .i64 r.f0, .int .i64 r.f1.op, .int .i64 r.f1.num, .slice A1 r.f1.perm.length c1, .slice B1 r.f1.kids.length d1] 78)).cell? ⟨wr.heap.size, 1, none⟩ = some (.int .i64 r.f1.op) := by rw [cell_of_row _ _ 1 _ _ _ hk1]; rfl
              have m2 : (wr.alloc (.cells #[.int .i64 r.f0, .int .i64 r.f1.op, .int .i64 r.f1.num, .slice A1 r.f1.perm.length c1, .slice B1 r.f1.kids.length d1] 78)).cell? ⟨wr.heap.size, 2, none⟩ = some (.int .i64 r.f1.num) := by rw [cell_of_row _ _ 2 _ _ _ hk1]; rfl
              have m3 : (wr.alloc (.cells #[.int .i64 r.f0, .int .i64 r.f1.op, .int .i64 r.f1.num, .slice A1 r.f1.perm.length c1, .slice B1 r.f1.kids.length d1] 78)).cell? ⟨wr.heap.size, 3, none⟩ = some (.slice A1 r.f1.perm.length c1) := by rw [cell_of_row _ _ 3 _ _ _ hk1]; rfl
              have m4 : (wr.alloc (.cells #[.int .i64 r.f0, .int .i64 r.f1.op, .int .i64 r.f1.num, .slice A1 r.f1.perm.length c1, .slice B1 r.f1.kids.length d1] 78)).cell? ⟨wr.heap.size, 4, none⟩ = some (.slice B1 r.f1.kids.length d1) := by rw [cell_of_row _ _ 4 _ _ _ hk1]; rfl
              have mp : (wr.alloc (.cells #[.int .i64 r.f0, .int .i64 r.f1.op, .int .i64 r.f1.num, .slice A1 r.f1.perm.length c1, .slice B1 r.f1.kids.length d1] 78)).cell? ⟨b1, o1 + j * 5, none⟩ = some (.int .i64 p.f0) := (hbx.cell (p := ⟨b1, o1 + j * 5, none⟩) (show b1 < wr.heap.size from Nat.lt_of_lt_of_le hb1 hbs)).trans ep
              have hho := isHole_c r.f0
              rw [hhole] at hho
              go_wp2_with fail
              refine (hho _).mono ?_
              rintro e w' ⟨rfl, rfl⟩
              have hit := isTerm_impl r.f1 _ _ htW (fit_of _ hcnt)
              rw [hterm] at hit
              have HM := Lib.hid (fun w' (h : Below (wr.alloc (.cells #[.int .i64 r.f0, .int .i64 r.f1.op, .int .i64 r.f1.num, .slice A1 r.f1.perm.length c1, .slice B1 r.f1.kids.length d1] 78)).heap.size (wr.alloc (.cells #[.int .i64 r.f0, .int .i64 r.f1.op, .int .i64 r.f1.num, .slice A1 r.f1.perm.length c1, .slice B1 r.f1.kids.length d1] 78)) w') => (h.cell (p := ⟨wr.heap.size, 0, none⟩) (by rw [World.size_alloc]; exact Nat.lt_succ_self _)).trans m0)
              have HP := Lib.hid (fun w' (h : Below (wr.alloc (.cells #[.int .i64 r.f0, .int .i64 r.f1.op, .int .i64 r.f1.num, .slice A1 r.f1.perm.length c1, .slice B1 r.f1.kids.length d1] 78)).heap.size (wr.alloc (.cells #[.int .i64 r.f0, .int .i64 r.f1.op, .int .i64 r.f1.num, .slice A1 r.f1.perm.length c1, .slice B1 r.f1.kids.length d1] 78)) w') => (h.cell (p := ⟨b1, o1 + j * 5, none⟩) (by rw [World.size_alloc]; show b1 < _; have := hb1; omega)).trans mp)
              go_wp2_with fail
              refine hit.mono ?_
              rintro e w2 ⟨rfl, hb2⟩
              have hb3 := hbW.trans (hb2.mono hbW.size)
              have m0' := HM.out w2 hb2
              have mp' := HP.out w2 hb2
              clear hit hho hbx hbW htW hk1 e0 e1 e2 e3 e4 ht hb hb2 HM m0 m1 m2 m3 m4 mp ep HP
              go_wp2
              have q0 := fun d os => cell_regrown m0' d os
              have qp := fun d os => cell_regrown mp' d os
              refine wp_region_quiet_below (by kernel_rfl) (by kernel_rfl) ?_
              repeat (any_goals (first | go_big_quiet_step (fail) | quiet_step (fail)))
              refine wpQuiet_nil ?_
              intro _ hw'
              obtain ⟨⟨dq, osq⟩, hw''⟩ := hw'
              subst hw''
              replace hb3 := hb3.trans ((below_regrown w2 dq osq).mono hb3.size)
              clear m0' q0 mp' qp
              generalize grow (redrawn w2 dq) osq = w3 at hb3 ⊢
              have hpost : BoolPost (subB rs) w (.returned (.bool false)) w3 := ⟨by rw [hn.out], hb3⟩
              clear hb3 hn
              go_wp2
              go_ret
              exact hpost
    · have e : k = rs.length := by omega
      have hr : Hid (subB rs = true) := subB_yes (fun j hj => hq.out j (by omega))
      have hpost : BoolPost (subB rs) w (.returned (.bool true)) wr := ⟨by rw [hr.out], hb⟩
      clear hg hcn hr hb
      go_wp2
      go_ret
      exact hpost

end Go.Proofs.YtlhjgjfnmejiaaaGreat
