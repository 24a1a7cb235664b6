/-
  The comparison of two pairs and of two lists of pairs, as contracts.
-/
import Derived.Test.YtnomidnjglbedaaKSizeOfTerm1
import Derived.WalkLawsBesides
import Derived.WalkSpells
import Derived.BigQuiet
import Derived.Lib.QuietBelow
import Derived.Lib.Hide
namespace Go.Proofs.Ytnomidnjglbedaa
open Go.RowKit Go.Sort

def prEq (a b c d : Int) : Bool := decide ((a, b) = (c, d))

theorem prEq_of {xs ys : List (Int × Int)} {k : Nat} : prEq (prAt xs k).1 (prAt xs k).2 (prAt ys k).1 (prAt ys k).2 = decide (prAt xs k = prAt ys k) := rfl

theorem eqPair_any (a b c d : Int) (w : World) :
    Calls Try.prog 111 #[.agg #[.int .i64 a, .int .i64 b], .agg #[.int .i64 c, .int .i64 d]] w
      fun e w' => e = .returned (.bool (prEq a b c d)) ∧ Below w.heap.size w w' := by
  have hend : Below w.heap.size w ((w.alloc (.cells #[.int .i64 a, .int .i64 b] 135)).alloc (.cells #[.int .i64 c, .int .i64 d] 135)) :=
    ((Below.refl _ _).alloc (Nat.le_refl _) _).alloc (by simp) _
  by_cases h1 : a = c
  · subst h1
    have k1 : (a != a) = false := by simp
    by_cases h2 : b = d
    · subst h2
      have k2 : (b != b) = false := by simp
      go_enter Try.func111, Try.ntmps111
      go_wp2
      go_ret
      exact ⟨bool_end (by simp [prEq]), hend⟩
    · have k2 : (b != d) = true := by simpa using h2
      go_enter Try.func111, Try.ntmps111
      go_wp2
      go_ret
      exact ⟨bool_end (by simp [prEq, h2]), hend⟩
  · have k1 : (a != c) = true := by simpa using h1
    go_enter Try.func111, Try.ntmps111
    go_wp2
    go_ret
    exact ⟨bool_end (by simp [prEq, h1]), hend⟩

set_option maxHeartbeats 400000 in
theorem eqPairS_any (A B : Option Addr) (c d : Nat) (xs ys : List (Int × Int)) (w : World) (hx : PairsAt w A xs) (hy : PairsAt w B ys) (hlx : xs.length ≤ 9223372036854775807) :
    Calls Try.prog 71 #[.slice A xs.length c, .slice B ys.length d] w
      fun e w' => e = .returned (.bool (decide (xs = ys))) ∧ Below w.heap.size w w' := by
  by_cases hl : xs.length = ys.length
  · have k0 : ((xs.length : Int) != (ys.length : Int)) = false := by simp [hl]
    have HL := Lib.hid hl
    clear hl
    go_enter Try.func71, Try.ntmps71
    go_wp2
    go_loopw [5] (fun i wr => ∃ k : Nat, k ≤ xs.length ∧ i = .int .i64 k ∧ xs.take k = ys.take k ∧ Below w.heap.size w wr) (fun i _ => xs.length - (intOf i).toNat)
    case atStart => exact ⟨0, Nat.zero_le _, rfl, rfl, Below.refl _ _⟩
    case round =>
      obtain ⟨k, hk, rfl, ht, hb⟩ := hrel
      have HT := Lib.hid ht
      clear ht
      by_cases hlt : k < xs.length
      · obtain ⟨b1, o1, rfl, hb1, hc1⟩ := hx (by omega)
        obtain ⟨b2, o2, rfl, hb2, hc2⟩ := hy (by have := HL.out; omega)
        obtain ⟨c1, c2⟩ := hc1 k hlt
        obtain ⟨c3, c4⟩ := hc2 k (by have := HL.out; omega)
        rw [← hb.cell (p := ⟨b1, _, none⟩) hb1] at c1 c2
        rw [← hb.cell (p := ⟨b2, _, none⟩) hb2] at c3 c4
        have hlt2 : k < ys.length := by have := HL.out; omega
        clear hc1 hc2 hx hy
        have q1 := fun d os => cell_regrown c1 d os
        have q2 := fun d os => cell_regrown c2 d os
        have q3 := fun d os => cell_regrown c3 d os
        have q4 := fun d os => cell_regrown c4 d os
        by_cases he : prAt xs k = prAt ys k
        · have hq : prEq (prAt xs k).1 (prAt xs k).2 (prAt ys k).1 (prAt ys k).2 = true := by rw [prEq_of]; simp [he]
          have HE := Lib.hid he
          clear he
          go_wp2
          refine wp_region_quiet_below (by kernel_rfl) (by kernel_rfl) ?_
          repeat (any_goals (first | go_big_quiet_step ((go_at_call 111; exact Calls.regrown_of (eqPair_any _ _ _ _ _))) | quiet_step ((go_at_call 111; exact Calls.regrown_of (eqPair_any _ _ _ _ _)))))
          refine wpQuiet_nil ?_
          intro _ hw'
          obtain ⟨⟨dq, osq⟩, hw''⟩ := hw'
          subst hw''
          have hb3 := hb.trans ((below_regrown wr dq osq).mono hb.size)
          clear q1 q2 q3 q4 c1 c2 c3 c4
          generalize grow (redrawn wr dq) osq = w2 at *
          go_wp2
          go_roundw
          case rel => exact ⟨k + 1, by omega, by go_num, (take_next (0, 0) k hlt hlt2 HT.out).2 HE.out, hb3⟩
          case measure => simp [intOf]; omega
        · have hq : prEq (prAt xs k).1 (prAt xs k).2 (prAt ys k).1 (prAt ys k).2 = false := by rw [prEq_of]; simp [he]
          have HE := Lib.hid he
          clear he
          go_wp2
          refine wp_region_quiet_below (by kernel_rfl) (by kernel_rfl) ?_
          repeat (any_goals (first | go_big_quiet_step ((go_at_call 111; exact Calls.regrown_of (eqPair_any _ _ _ _ _))) | quiet_step ((go_at_call 111; exact Calls.regrown_of (eqPair_any _ _ _ _ _)))))
          refine wpQuiet_nil ?_
          intro _ hw'
          obtain ⟨⟨dq, osq⟩, hw''⟩ := hw'
          subst hw''
          have hb3 := hb.trans ((below_regrown wr dq osq).mono hb.size)
          clear q1 q2 q3 q4 c1 c2 c3 c4
          generalize grow (redrawn wr dq) osq = w2 at *
          go_wp2
          go_ret
          exact ⟨bool_end (differ_at k HE.out).symm, hb3⟩
      · go_wp2
        go_ret
        have e : k = xs.length := by omega
        subst e
        exact ⟨bool_end (same_all HL.out HT.out).symm, hb⟩
  · have k0 : ((xs.length : Int) != (ys.length : Int)) = true := by simp; omega
    have hf : decide (xs = ys) = false := by
      simp only [decide_eq_false_iff_not]
      intro e
      exact hl (by rw [e])
    have HF := Lib.hid hf
    clear hl hf
    go_enter Try.func71, Try.ntmps71
    go_wp2
    go_ret
    exact ⟨bool_end HF.out.symm, Below.refl _ _⟩

end Go.Proofs.Ytnomidnjglbedaa
