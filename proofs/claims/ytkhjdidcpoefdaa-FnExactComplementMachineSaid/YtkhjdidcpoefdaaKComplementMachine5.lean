/-
  The size of a term that the laws count, as contracts. The laws' own copy of a term, as contracts. The comparison of two pairs and of two lists of pairs, as contracts. Comparing and numbering lists of booleans, as contracts.
-/
import Derived.Test.YtkhjdidcpoefdaaKComplementMachine3
import Derived.Test.YtkhjdidcpoefdaaKComplementMachine4
import Derived.BigQuiet
import Derived.Lib.QuietBelow
import Derived.Test.YtkhjdidcpoefdaaKComplementMachine1
import Derived.WalkLawsBesides
import Derived.WalkSpells
import Derived.Lib.Hide
section
namespace Go.Proofs.Ytkhjdidcpoefdaa
open Go.RowKit Go.Sort

/-- What is left of a bound. -/
def leftR (left : Int) (c : Nat) : Int := if (c : Int) ≤ left then left - c else -1

theorem leftR_yes {left : Int} {c : Nat} (h : (c : Int) ≤ left) : leftR left c = left - c := by simp [leftR, h]
theorem leftR_no {left : Int} {c : Nat} (h : ¬ (c : Int) ≤ left) : leftR left c = -1 := by simp [leftR, h]

/-- The answer, and new blocks at most. -/
def LeftPost (left : Int) (c : Nat) (w : World) (e : Ending) (w' : World) : Prop := e = .returned (.int .i64 (leftR left c)) ∧ Below w.heap.size w w'

mutual
/-- .. anywhere within. -/
def Short : Tm → Prop
  | .mk _ _ p ks => p.length ≤ maxLen ∧ ks.length ≤ maxLen ∧ Shorts ks
def Shorts : List Tm → Prop
  | [] => True
  | t :: r => Short t ∧ Shorts r
end

end Go.Proofs.Ytkhjdidcpoefdaa
end

section
namespace Go.Proofs.Ytkhjdidcpoefdaa
open Go.RowKit Go.Sort

theorem Own.setCell_other {w : World} {S : List Nat} {v : Value} {m : Mem} (h : Own w S v m) (a : Addr) (u : Value) (hb : ∀ b ∈ S, b ≠ a.block) : Own (w.setCell a u) S v m :=
  h.alike fun b hb' => Below.heap_setCell w a u b (hb b hb')

theorem OwnL.kept {w w' : World} {S : List Nat} {vs : List Value} {ms : List Mem} {row : Option Nat} (h : OwnL w S vs ms) (hg : w.grownBy w' row) (hn : ∀ b ∈ S, some b ≠ row) : OwnL w' S vs ms :=
  h.alike fun b hb => hg.block b (h.lt b hb) (hn b hb)

end Go.Proofs.Ytkhjdidcpoefdaa
end

section
namespace Go.Proofs.Ytkhjdidcpoefdaa
open Go.RowKit Go.Sort

def prEq (a b c d : Int) : Bool := decide ((a, b) = (c, d))

theorem prEq_of {xs ys : List (Int × Int)} {k : Nat} : prEq (prAt xs k).1 (prAt xs k).2 (prAt ys k).1 (prAt ys k).2 = decide (prAt xs k = prAt ys k) := rfl

end Go.Proofs.Ytkhjdidcpoefdaa
end

section
namespace Go.Proofs.Ytkhjdidcpoefdaa
open Go.RowKit Go.Sort

theorem szB_yes (A : Option Addr) (n c : Nat) (left : Int) (w : World) (hn : n ≤ 1099511627776) (h1 : left ≤ 1099511627776) (h2 : (n : Int) ≤ left) :
    Calls Try.prog 51 #[.slice A n c, .int .i64 left] w fun e w' => e = .returned (.int .i64 (left - n)) ∧ w = w' := by
  have h3 : ¬ left - (n : Int) < 0 := by omega
  go_enter Try.func51, Try.ntmps51
  go_wp2
  go_ret
  exact ⟨rfl, rfl⟩
theorem szB_no (A : Option Addr) (n c : Nat) (left : Int) (w : World) (hn : n ≤ 9223372036854775807) (h0 : 0 ≤ left) (h1 : left ≤ 1099511627776) (h2 : left < (n : Int)) :
    Calls Try.prog 51 #[.slice A n c, .int .i64 left] w fun e w' => e = .returned (.int .i64 (-1)) ∧ w = w' := by
  have h3 : left - (n : Int) < 0 := by omega
  go_enter Try.func51, Try.ntmps51
  go_wp2
  go_ret
  exact ⟨rfl, rfl⟩

set_option maxHeartbeats 400000 in
theorem eqBoolS_any (A B : Option Addr) (c d : Nat) (xs ys : List Bool) (w : World) (hx : BoolsAt w A xs) (hy : BoolsAt w B ys) (hlx : xs.length ≤ 9223372036854775807) :
    Calls Try.prog 57 #[.slice A xs.length c, .slice B ys.length d] w
      fun e w' => e = .returned (.bool (decide (xs = ys))) ∧ Below w.heap.size w w' := by
  by_cases hl : xs.length = ys.length
  · have k0 : ((xs.length : Int) != (ys.length : Int)) = false := by simp [hl]
    have HL := Lib.hid hl
    clear hl
    go_enter Try.func57, Try.ntmps57
    go_wp2
    go_loopw [5] (fun i wr => ∃ k : Nat, k ≤ xs.length ∧ i = .int .i64 k ∧ xs.take k = ys.take k ∧ Below w.heap.size w wr) (fun i _ => xs.length - (intOf i).toNat)
    case atStart => exact ⟨0, Nat.zero_le _, rfl, rfl, Below.refl _ _⟩
    case round =>
      obtain ⟨k, hk, rfl, ht, hb⟩ := hrel
      have HT := Lib.hid ht
      clear ht
      by_cases hlt : k < xs.length
      · obtain ⟨b1, o1, rfl, hb1, hc1⟩ := hx (by omega)
        obtain ⟨b2, o2, rfl, hb2, hc2⟩ := hy (by have := HL.out; omega)
        have c1 := hc1 k hlt
        have c3 := hc2 k (by have := HL.out; omega)
        rw [← hb.cell (p := ⟨b1, _, none⟩) hb1] at c1
        rw [← hb.cell (p := ⟨b2, _, none⟩) hb2] at c3
        have hlt2 : k < ys.length := by have := HL.out; omega
        clear hc1 hc2 hx hy
        have q1 := fun d os => cell_regrown c1 d os
        have q3 := fun d os => cell_regrown c3 d os
        by_cases he : btAt xs k = btAt ys k
        · have hn : Hid (xs.take (k + 1) = ys.take (k + 1)) := (take_next false k hlt hlt2 HT.out).2 he
          rw [← he] at q3
          generalize btAt xs k = x at q1 q3
          clear he c1 c3
          cases x
          all_goals
            go_wp2
            refine wp_region_quiet_below (by kernel_rfl) (by kernel_rfl) ?_
            repeat (any_goals (first | go_big_quiet_step (fail) | quiet_step (fail)))
            refine wpQuiet_nil ?_
            intro _ hw'
            obtain ⟨⟨dq, osq⟩, hw''⟩ := hw'
            subst hw''
            have hb3 := hb.trans ((below_regrown wr dq osq).mono hb.size)
            generalize grow (redrawn wr dq) osq = w2 at hb3 ⊢
            clear q1 q3 hb
            go_wp2
            refine ⟨⟨k + 1, by omega, by go_num, hn.out, hb3⟩, ?_⟩
            simp only [intOf]
            omega
        · have hn : Hid (decide (xs = ys) = false) := bdiffer_at k he
          generalize btAt xs k = x at q1 he
          generalize btAt ys k = y at q3 he
          clear c1 c3
          cases x <;> cases y <;> first | exact absurd rfl he | skip
          all_goals
            clear he
            go_wp2
            refine wp_region_quiet_below (by kernel_rfl) (by kernel_rfl) ?_
            repeat (any_goals (first | go_big_quiet_step (fail) | quiet_step (fail)))
            refine wpQuiet_nil ?_
            intro _ hw'
            obtain ⟨⟨dq, osq⟩, hw''⟩ := hw'
            subst hw''
            have hb3 := hb.trans ((below_regrown wr dq osq).mono hb.size)
            generalize grow (redrawn wr dq) osq = w2 at hb3 ⊢
            clear q1 q3 hb
            go_wp2
            go_ret
            exact ⟨bool_end hn.out.symm, hb3⟩
      · go_wp2
        go_ret
        have e : k = xs.length := by omega
        subst e
        exact ⟨bool_end (bsame_all HL.out HT.out).symm, hb⟩
  · have k0 : ((xs.length : Int) != (ys.length : Int)) = true := by simp; omega
    have hf : decide (xs = ys) = false := by
      simp only [decide_eq_false_iff_not]
      intro e
      exact hl (by rw [e])
    have HF := Lib.hid hf
    clear hl hf
    go_enter Try.func57, Try.ntmps57
    go_wp2
    go_ret
    exact ⟨bool_end HF.out.symm, Below.refl _ _⟩

set_option maxHeartbeats 400000 in
theorem markBoolS_row (base g n cap : Nat) (xs : List Value) (k : Int) (w : World) (hown : w.ownsRow base 4 1 (.slice (some ⟨g, 0, none⟩) n cap) n xs) (hk0 : 0 ≤ k) (hk1 : k + n ≤ 9223372036854775807) (hn : n ≤ 9223372036854775807) :
    Calls Try.prog 64 #[.slice (some ⟨g, 0, none⟩) n cap, .int .i64 k] w
      fun e w' => e = .returned (.int .i64 (k + n)) ∧ w'.ownsRow base 4 1 (.slice (some ⟨g, 0, none⟩) n cap) n (bmarked k n) ∧ w.grownBy w' (some g) := by
  have hlen := Lib.hid (show xs.length = n by simpa using hown.1)
  go_enter Try.func64, Try.ntmps64
  go_wp2
  go_loopw [1, 5] (fun kk i wr => ∃ j : Nat, j ≤ n ∧ i = .int .i64 j ∧ kk = .int .i64 (k + j) ∧ wr.ownsRow base 4 1 (.slice (some ⟨g, 0, none⟩) n cap) n (mixTo (bmarked k n) xs j) ∧ w.grownBy wr (some g)) (fun _ i _ => n - (intOf i).toNat)
  case atStart => exact ⟨0, Nat.zero_le _, rfl, by simp, by rw [mixTo_zero]; exact hown, World.grownBy.refl _ _⟩
  case round =>
    obtain ⟨j, hj, rfl, rfl, ho, hg⟩ := hrel
    by_cases hlt : j < n
    · have hml : (mixTo (bmarked k n) xs j).length = n := by rw [mixTo_len _ _ _ (by rw [bmarked_len, hlen.out]), hlen.out]
      obtain ⟨v0, e0⟩ := some_of_lt (mixTo (bmarked k n) xs j) j (by omega)
      have d0 := (ho.cellAt j (by omega)).trans e0
      have f0 := ho.frozenAt j
      obtain ⟨ho1, hg1⟩ := ho.stored j (.bool (bmk (k + j)))
      rw [mixTo_set (by rw [bmarked_len, hlen.out]) (bmarked_at k n j hlt)] at ho1
      have hg3 := grownBy_trans hg hg1
      clear hg1 hg ho e0 hml
      unfold bmk at ho1 hg3
      go_wp2
      refine ⟨⟨j + 1, by omega, by go_num, by go_num, ho1, hg3⟩, ?_⟩
      simp only [intOf]
      omega
    · have ej : j = n := by omega
      subst ej
      rw [mixTo_all _ _ _ (bmarked_len _ _) hlen.out] at ho
      go_wp2
      go_ret
      exact ⟨rfl, ho, hg⟩

set_option maxHeartbeats 400000 in
theorem heldBoolS_row (base g n cap : Nat) (k : Int) (w : World) (hown : w.ownsRow base 4 1 (.slice (some ⟨g, 0, none⟩) n cap) n (bmarked k n)) (hk0 : 0 ≤ k) (hk1 : k + n ≤ 9223372036854775807) (hn : n ≤ 9223372036854775807) :
    Calls Try.prog 68 #[.slice (some ⟨g, 0, none⟩) n cap, .int .i64 k] w
      fun e w' => e = .returned (.int .i64 (k + n)) ∧ w = w' := by
  go_enter Try.func68, Try.ntmps68
  go_wp2
  go_loop [1, 5] (fun kk i => ∃ j : Nat, j ≤ n ∧ i = .int .i64 j ∧ kk = .int .i64 (k + j)) (fun _ i => n - (intOf i).toNat)
  case atStart => exact ⟨0, Nat.zero_le _, rfl, by simp⟩
  case round =>
    obtain ⟨j, hj, rfl, rfl⟩ := hrel
    by_cases hlt : j < n
    · have c0 := hown.cellAt j (by omega)
      rw [bmarked_at k _ _ (by omega)] at c0
      clear hown
      have hb : ((k + (j : Int)) % 3 == 0) = bmk (k + j) := rfl
      generalize bmk (k + j) = bb at c0 hb
      cases bb
      all_goals
        go_wp2
        refine ⟨⟨j + 1, by omega, by go_num, by go_num⟩, ?_⟩
        simp only [intOf]
        omega
    · have ej : j = n := by omega
      subst ej
      clear hown
      go_wp2
      go_ret
      exact ⟨rfl, rfl⟩

theorem markBoolS_none (k : Int) (w : World) :
    Calls Try.prog 64 #[.slice none 0 0, .int .i64 k] w fun e w' => e = .returned (.int .i64 k) ∧ w = w' := by
  go_enter Try.func64, Try.ntmps64
  go_wp2
  go_loop [1, 5] (fun kk i => kk = .int .i64 k ∧ i = .int .i64 0) (fun _ _ => 0)
  case atStart => exact ⟨rfl, rfl⟩
  case round =>
    obtain ⟨rfl, rfl⟩ := hrel
    go_wp2
    go_ret
    exact ⟨rfl, rfl⟩

theorem heldBoolS_none (k : Int) (w : World) :
    Calls Try.prog 68 #[.slice none 0 0, .int .i64 k] w fun e w' => e = .returned (.int .i64 k) ∧ w = w' := by
  go_enter Try.func68, Try.ntmps68
  go_wp2
  go_loop [1, 5] (fun kk i => kk = .int .i64 k ∧ i = .int .i64 0) (fun _ _ => 0)
  case atStart => exact ⟨rfl, rfl⟩
  case round =>
    obtain ⟨rfl, rfl⟩ := hrel
    go_wp2
    go_ret
    exact ⟨rfl, rfl⟩

theorem markBoolS_own (base n : Nat) (v : Value) (xs : List Value) (k : Int) (w : World) (hown : w.ownsRow base 4 1 v n xs) (hk0 : 0 ≤ k) (hk1 : k + n ≤ 9223372036854775807) :
    Calls Try.prog 64 #[v, .int .i64 k] w
      fun e w' => e = .returned (.int .i64 (k + n)) ∧ w'.ownsRow base 4 1 v n (bmarked k n) ∧ w.grownBy w' v.ownBlock := by
  rcases hown.2 with ⟨rfl, rfl⟩ | ⟨g, cap, cur, rfl, _⟩
  · refine (markBoolS_none k w).mono ?_
    rintro e w' ⟨rfl, rfl⟩
    exact ⟨int_end (by simp), by simpa [bmarked] using World.ownsRow_nil w base _ 1, World.grownBy.refl _ _⟩
  · exact markBoolS_row base g n cap xs k w hown hk0 hk1 (by omega)

theorem heldBoolS_own (base n : Nat) (v : Value) (k : Int) (w : World) (hown : w.ownsRow base 4 1 v n (bmarked k n)) (hk0 : 0 ≤ k) (hk1 : k + n ≤ 9223372036854775807) :
    Calls Try.prog 68 #[v, .int .i64 k] w
      fun e w' => e = .returned (.int .i64 (k + n)) ∧ w = w' := by
  rcases hown.2 with ⟨rfl, rfl⟩ | ⟨g, cap, cur, rfl, _⟩
  · refine (heldBoolS_none k w).mono ?_
    rintro e w' ⟨rfl, rfl⟩
    exact ⟨int_end (by simp), rfl⟩
  · exact heldBoolS_row base g n cap k w hown hk0 hk1 (by omega)

end Go.Proofs.Ytkhjdidcpoefdaa
end

