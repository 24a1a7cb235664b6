/-
  The comparison of two pairs and of two lists of pairs, as contracts. Lists of elements of contexts: the laws' own copies and comparisons, as contracts. Comparing numbers, atoms, and finding a pair by its first atom, as contracts. Whether moves are in order, as a contract. Whether a list of pairs is a permutation, as the program decides it: a contract.
-/
import Derived.Test.YtbfkfklaplgebaaGreatKFreshIn3
import Derived.WalkLawsBesides
import Derived.WalkSpells
import Derived.BigQuiet
import Derived.Lib.QuietBelow
import Derived.Lib.Hide
section
namespace Go.Proofs.YtbfkfklaplgebaaGreat
open Go.RowKit Go.Sort

def prEq (a b c d : Int) : Bool := decide ((a, b) = (c, d))

theorem prEq_of {xs ys : List (Int × Int)} {k : Nat} : prEq (prAt xs k).1 (prAt xs k).2 (prAt ys k).1 (prAt ys k).2 = decide (prAt xs k = prAt ys k) := rfl

theorem eqPair_any (a b c d : Int) (w : World) :
    Calls Tryz.prog 108 #[.agg #[.int .i64 a, .int .i64 b], .agg #[.int .i64 c, .int .i64 d]] w
      fun e w' => e = .returned (.bool (prEq a b c d)) ∧ Below w.heap.size w w' := by
  have hend : Below w.heap.size w ((w.alloc (.cells #[.int .i64 a, .int .i64 b] 134)).alloc (.cells #[.int .i64 c, .int .i64 d] 134)) :=
    ((Below.refl _ _).alloc (Nat.le_refl _) _).alloc (by simp) _
  by_cases h1 : a = c
  · subst h1
    have k1 : (a != a) = false := by simp
    by_cases h2 : b = d
    · subst h2
      have k2 : (b != b) = false := by simp
      go_enter Tryz.func108, Tryz.ntmps108
      go_wp2
      go_ret
      exact ⟨bool_end (by simp [prEq]), hend⟩
    · have k2 : (b != d) = true := by simpa using h2
      go_enter Tryz.func108, Tryz.ntmps108
      go_wp2
      go_ret
      exact ⟨bool_end (by simp [prEq, h2]), hend⟩
  · have k1 : (a != c) = true := by simpa using h1
    go_enter Tryz.func108, Tryz.ntmps108
    go_wp2
    go_ret
    exact ⟨bool_end (by simp [prEq, h1]), hend⟩

set_option maxHeartbeats 400000 in
theorem eqPairS_any (A B : Option Addr) (c d : Nat) (xs ys : List (Int × Int)) (w : World) (hx : PairsAt w A xs) (hy : PairsAt w B ys) (hlx : xs.length ≤ 9223372036854775807) :
    Calls Tryz.prog 59 #[.slice A xs.length c, .slice B ys.length d] w
      fun e w' => e = .returned (.bool (decide (xs = ys))) ∧ Below w.heap.size w w' := by
  by_cases hl : xs.length = ys.length
  · have k0 : ((xs.length : Int) != (ys.length : Int)) = false := by simp [hl]
    have HL := Lib.hid hl
    clear hl
    go_enter Tryz.func59, Tryz.ntmps59
    go_wp2
    go_loopw [5] (fun i wr => ∃ k : Nat, k ≤ xs.length ∧ i = .int .i64 k ∧ xs.take k = ys.take k ∧ Below w.heap.size w wr) (fun i _ => xs.length - (intOf i).toNat)
    case atStart => exact ⟨0, Nat.zero_le _, rfl, rfl, Below.refl _ _⟩
    case round =>
      obtain ⟨k, hk, rfl, ht, hb⟩ := hrel
      have HT := Lib.hid ht
      clear ht
      by_cases hlt : k < xs.length
      · obtain ⟨b1, o1, rfl, hb1, hc1⟩ := hx (by omega)
        obtain ⟨b2, o2, rfl, hb2, hc2⟩ := hy (by have := HL.out; omega)
        obtain ⟨c1, c2⟩ := hc1 k hlt
        obtain ⟨c3, c4⟩ := hc2 k (by have := HL.out; omega)
        rw [← hb.cell (p := ⟨b1, _, none⟩) hb1] at c1 c2
        rw [← hb.cell (p := ⟨b2, _, none⟩) hb2] at c3 c4
        have hlt2 : k < ys.length := by have := HL.out; omega
        clear hc1 hc2 hx hy
        have q1 := fun d os => cell_regrown c1 d os
        have q2 := fun d os => cell_regrown c2 d os
        have q3 := fun d os => cell_regrown c3 d os
        have q4 := fun d os => cell_regrown c4 d os
        by_cases he : prAt xs k = prAt ys k
        · have hq : prEq (prAt xs k).1 (prAt xs k).2 (prAt ys k).1 (prAt ys k).2 = true := by rw [prEq_of]; simp [he]
          have HE := Lib.hid he
          clear he
          go_wp2
          refine wp_region_quiet_below (by kernel_rfl) (by kernel_rfl) ?_
          repeat (any_goals (first | go_big_quiet_step ((go_at_call 108; exact Calls.regrown_of (eqPair_any _ _ _ _ _))) | quiet_step ((go_at_call 108; exact Calls.regrown_of (eqPair_any _ _ _ _ _)))))
          refine wpQuiet_nil ?_
          intro _ hw'
          obtain ⟨⟨dq, osq⟩, hw''⟩ := hw'
          subst hw''
          have hb3 := hb.trans ((below_regrown wr dq osq).mono hb.size)
          clear q1 q2 q3 q4 c1 c2 c3 c4
          generalize grow (redrawn wr dq) osq = w2 at *
          go_wp2
          go_roundw
          case rel => exact ⟨k + 1, by omega, by go_num, (take_next (0, 0) k hlt hlt2 HT.out).2 HE.out, hb3⟩
          case measure => simp [intOf]; omega
        · have hq : prEq (prAt xs k).1 (prAt xs k).2 (prAt ys k).1 (prAt ys k).2 = false := by rw [prEq_of]; simp [he]
          have HE := Lib.hid he
          clear he
          go_wp2
          refine wp_region_quiet_below (by kernel_rfl) (by kernel_rfl) ?_
          repeat (any_goals (first | go_big_quiet_step ((go_at_call 108; exact Calls.regrown_of (eqPair_any _ _ _ _ _))) | quiet_step ((go_at_call 108; exact Calls.regrown_of (eqPair_any _ _ _ _ _)))))
          refine wpQuiet_nil ?_
          intro _ hw'
          obtain ⟨⟨dq, osq⟩, hw''⟩ := hw'
          subst hw''
          have hb3 := hb.trans ((below_regrown wr dq osq).mono hb.size)
          clear q1 q2 q3 q4 c1 c2 c3 c4
          generalize grow (redrawn wr dq) osq = w2 at *
          go_wp2
          go_ret
          exact ⟨bool_end (differ_at k HE.out).symm, hb3⟩
      · go_wp2
        go_ret
        have e : k = xs.length := by omega
        subst e
        exact ⟨bool_end (same_all HL.out HT.out).symm, hb⟩
  · have k0 : ((xs.length : Int) != (ys.length : Int)) = true := by simp; omega
    have hf : decide (xs = ys) = false := by
      simp only [decide_eq_false_iff_not]
      intro e
      exact hl (by rw [e])
    have HF := Lib.hid hf
    clear hl hf
    go_enter Tryz.func59, Tryz.ntmps59
    go_wp2
    go_ret
    exact ⟨bool_end HF.out.symm, Below.refl _ _⟩

end Go.Proofs.YtbfkfklaplgebaaGreat
end

section
namespace Go.Proofs.YtbfkfklaplgebaaGreat
open Go.RowKit Go.Sort
set_option linter.unusedVariables false

/-- A new slice of the elements. -/
def NewFreshs (l : List (Int × Int)) (w : World) (e : Ending) (w' : World) : Prop :=
  ∃ v, e = .returned v ∧ w'.ownsRow w.heap.size 102 2 v l.length (cellsOf l) ∧ Below w.heap.size w w'

theorem szF_yes (A : Option Addr) (n c : Nat) (left : Int) (w : World) (hn : n ≤ 1099511627776) (h1 : left ≤ 1099511627776) (h2 : (n : Int) ≤ left) :
    Calls Tryz.prog 25 #[.slice A n c, .int .i64 left] w fun e w' => e = .returned (.int .i64 (left - n)) ∧ w = w' := by
  have k0 : ¬ left - (n : Int) < 0 := by omega
  go_enter Tryz.func25, Tryz.ntmps25
  go_wp2
  go_ret
  exact ⟨rfl, rfl⟩

theorem szF_no (A : Option Addr) (n c : Nat) (left : Int) (w : World) (hn : n ≤ 9223372036854775807) (h0 : 0 ≤ left) (h1 : left ≤ 1099511627776) (h2 : left < (n : Int)) :
    Calls Tryz.prog 25 #[.slice A n c, .int .i64 left] w fun e w' => e = .returned (.int .i64 (-1)) ∧ w = w' := by
  have k0 : left - (n : Int) < 0 := by omega
  go_enter Tryz.func25, Tryz.ntmps25
  go_wp2
  go_ret
  exact ⟨rfl, rfl⟩

theorem toFresh_any (a b : Int) (w : World) :
    Calls Tryz.prog 76 #[.agg #[.int .i64 a, .int .i64 b]] w
      fun e w' => e = .returned (.agg #[.int .i64 a, .int .i64 b]) ∧ Below w.heap.size w w' := by
  go_enter Tryz.func76, Tryz.ntmps76
  go_wp2
  refine bodyPost_ret (v := .agg #[.int .i64 a, .int .i64 b]) (by simp [results, Tryz.results76, go_sem]) rfl ⟨rfl, ?_⟩
  repeat (first | exact Below.refl _ _ | refine Below.setCell ?_ (by simp) _ | refine Below.alloc ?_ (by first | exact Nat.le_refl _ | (simp; done) | (simp; omega)) _)

theorem fresh_info : (Tryz.prog.info? 102).map (fun i => (i.zero, i.size, i.bytes)) = some (some (.agg #[.int .i64 0, .int .i64 0]), 2, 16) := by kernel_rfl

set_option maxHeartbeats 1000000 in
theorem toFreshS_any (A : Option Addr) (c : Nat) (l : List (Int × Int)) (w : World) (hA : PairsAt w A l) (hl : l.length ≤ 1099511627776) :
    Calls Tryz.prog 27 #[.slice A l.length c] w (NewFreshs l w) := by
  obtain ⟨i0, hi0, hz0, hz1, hz2⟩ := info_parts fresh_info
  have HS := Lib.hid hz2
  clear hz2
  go_enter Tryz.func27, Tryz.ntmps27
  go_wp2_with (at_make; refine wpList_make_full _ rfl (.tmp 6) (.tmp 6) 38 rfl w.heap.size 102 i0 _ 2 Tryz.underlying38 hi0 hz0 hz1 .i64 .i64 _ _ l.length rfl rfl rfl rfl ?c1 ?c2 (Nat.le_refl _) ?_)
  case c1 => rw [HS.out]; omega
  case c2 => unfold maxLen; omega
  intro w1 ho hg
  have hb0 := (Below.refl w.heap.size w).grown hg (Nat.le_refl _) (fun k hk => by cases hk)
  clear hg
  generalize hz : (madeCells #[Value.int IntKind.i64 0, Value.int IntKind.i64 0] (l.length * 2)).toList = zs at ho
  have hzl : Hid (zs.length = l.length * 2) := Lib.hid ho.1
  clear hz
  have hlt0 : w.heap.size < w1.heap.size := (ho.lt w.heap.size rfl).2
  go_wp2
  go_loopw [4] (fun i wr => ∃ k : Nat, k ≤ l.length ∧ i = .int .i64 k ∧ wr.ownsRow w.heap.size 102 2 (.slice (some ⟨w.heap.size, 0, none⟩) l.length l.length) l.length (mixTo (cellsOf l) zs (k * 2)) ∧ Below w.heap.size w wr) (fun i _ => l.length - (intOf i).toNat)
  case atStart => exact ⟨0, Nat.zero_le _, rfl, by rw [Nat.zero_mul, mixTo_zero]; exact ho, hb0⟩
  case round =>
    obtain ⟨k, hk, rfl, ho1, hb⟩ := hrel
    by_cases hlt : k < l.length
    · obtain ⟨b1, o1, rfl, hb1, hc1⟩ := hA (by omega)
      obtain ⟨c1, c2⟩ := hc1 k hlt
      rw [← hb.cell (p := ⟨b1, _, none⟩) hb1] at c1 c2
      clear hc1 hA
      go_wp2_with fail
      refine (toFresh_any _ _ _).mono ?_
      rintro e w2 ⟨rfl, hb2⟩
      have ho2 := own_below ho1 hb2
      have hb3 := hb.trans (hb2.mono hb.size)
      have hml : (mixTo (cellsOf l) zs (k * 2)).length = l.length * 2 := by rw [mixTo_len _ _ _ (by rw [cellsOf_len, hzl.out]), hzl.out]
      obtain ⟨v0, e0⟩ := some_of_lt (mixTo (cellsOf l) zs (k * 2)) (k * 2) (by omega)
      obtain ⟨v1, e1⟩ := some_of_lt (mixTo (cellsOf l) zs (k * 2)) (k * 2 + 1) (by omega)
      have d0 := (ho2.cellAt (k * 2) (by omega)).trans e0
      have d1 := (ho2.cellAt (k * 2 + 1) (by omega)).trans e1
      have f0 := ho2.frozenAt (k * 2)
      have f1 := ho2.frozenAt (k * 2 + 1)
      obtain ⟨hs1, hs2⟩ := cellsOf_at l k hlt
      obtain ⟨ho3, hg3⟩ := ho2.stored (k * 2) (.int .i64 (prAt l k).1)
      rw [mixTo_set (by rw [cellsOf_len, hzl.out]) hs1] at ho3
      obtain ⟨ho4, hg4⟩ := ho3.stored (k * 2 + 1) (.int .i64 (prAt l k).2)
      rw [mixTo_set (by rw [cellsOf_len, hzl.out]) hs2, show k * 2 + 1 + 1 = (k + 1) * 2 from by omega] at ho4
      have hb5 : Below w.heap.size w _ := hb3.grown (grownBy_trans hg3 hg4) hb3.size (fun j hj => by injection hj with hj; omega)
      clear ho1 ho2 ho3 hg3 hg4 hb hb2 hb3 e0 e1 hs1 hs2 hml c1 c2
      go_wp2
      refine ⟨⟨k + 1, by omega, by go_num, ho4, hb5⟩, ?_⟩
      simp [intOf]; omega
    · have e : k = l.length := by omega
      subst e
      rw [mixTo_all _ _ _ (cellsOf_len l) hzl.out] at ho1
      go_wp2
      go_ret
      exact ⟨_, rfl, ho1, hb⟩



theorem eqFresh_any (a b c d : Int) (w : World) :
    Calls Tryz.prog 73 #[.agg #[.int .i64 a, .int .i64 b], .agg #[.int .i64 c, .int .i64 d]] w
      fun e w' => e = .returned (.bool (prEq a b c d)) ∧ Below w.heap.size w w' := by
  have hend : Below w.heap.size w ((w.alloc (.cells #[.int .i64 a, .int .i64 b] 102)).alloc (.cells #[.int .i64 c, .int .i64 d] 102)) :=
    ((Below.refl _ _).alloc (Nat.le_refl _) _).alloc (by simp) _
  by_cases h1 : a = c
  · subst h1
    have k1 : (a != a) = false := by simp
    by_cases h2 : b = d
    · subst h2
      have k2 : (b != b) = false := by simp
      go_enter Tryz.func73, Tryz.ntmps73
      go_wp2
      go_ret
      exact ⟨bool_end (by simp [prEq]), hend⟩
    · have k2 : (b != d) = true := by simpa using h2
      go_enter Tryz.func73, Tryz.ntmps73
      go_wp2
      go_ret
      exact ⟨bool_end (by simp [prEq, h2]), hend⟩
  · have k1 : (a != c) = true := by simpa using h1
    go_enter Tryz.func73, Tryz.ntmps73
    go_wp2
    go_ret
    exact ⟨bool_end (by simp [prEq, h1]), hend⟩

set_option maxHeartbeats 400000 in
theorem eqFreshS_any (A B : Option Addr) (c d : Nat) (xs ys : List (Int × Int)) (w : World) (hx : PairsAt w A xs) (hy : PairsAt w B ys) (hlx : xs.length ≤ 9223372036854775807) :
    Calls Tryz.prog 22 #[.slice A xs.length c, .slice B ys.length d] w
      fun e w' => e = .returned (.bool (decide (xs = ys))) ∧ Below w.heap.size w w' := by
  by_cases hl : xs.length = ys.length
  · have k0 : ((xs.length : Int) != (ys.length : Int)) = false := by simp [hl]
    have HL := Lib.hid hl
    clear hl
    go_enter Tryz.func22, Tryz.ntmps22
    go_wp2
    go_loopw [5] (fun i wr => ∃ k : Nat, k ≤ xs.length ∧ i = .int .i64 k ∧ xs.take k = ys.take k ∧ Below w.heap.size w wr) (fun i _ => xs.length - (intOf i).toNat)
    case atStart => exact ⟨0, Nat.zero_le _, rfl, rfl, Below.refl _ _⟩
    case round =>
      obtain ⟨k, hk, rfl, ht, hb⟩ := hrel
      have HT := Lib.hid ht
      clear ht
      by_cases hlt : k < xs.length
      · obtain ⟨b1, o1, rfl, hb1, hc1⟩ := hx (by omega)
        obtain ⟨b2, o2, rfl, hb2, hc2⟩ := hy (by have := HL.out; omega)
        obtain ⟨c1, c2⟩ := hc1 k hlt
        obtain ⟨c3, c4⟩ := hc2 k (by have := HL.out; omega)
        rw [← hb.cell (p := ⟨b1, _, none⟩) hb1] at c1 c2
        rw [← hb.cell (p := ⟨b2, _, none⟩) hb2] at c3 c4
        have hlt2 : k < ys.length := by have := HL.out; omega
        clear hc1 hc2 hx hy
        have q1 := fun d os => cell_regrown c1 d os
        have q2 := fun d os => cell_regrown c2 d os
        have q3 := fun d os => cell_regrown c3 d os
        have q4 := fun d os => cell_regrown c4 d os
        by_cases he : prAt xs k = prAt ys k
        · have hq : prEq (prAt xs k).1 (prAt xs k).2 (prAt ys k).1 (prAt ys k).2 = true := by rw [prEq_of]; simp [he]
          have HE := Lib.hid he
          clear he
          go_wp2
          refine wp_region_quiet_below (by kernel_rfl) (by kernel_rfl) ?_
          repeat (any_goals (first | go_big_quiet_step ((go_at_call 73; exact Calls.regrown_of (eqFresh_any _ _ _ _ _))) | quiet_step ((go_at_call 73; exact Calls.regrown_of (eqFresh_any _ _ _ _ _)))))
          refine wpQuiet_nil ?_
          intro _ hw'
          obtain ⟨⟨dq, osq⟩, hw''⟩ := hw'
          subst hw''
          have hb3 := hb.trans ((below_regrown wr dq osq).mono hb.size)
          clear q1 q2 q3 q4 c1 c2 c3 c4
          generalize grow (redrawn wr dq) osq = w2 at *
          go_wp2
          go_roundw
          case rel => exact ⟨k + 1, by omega, by go_num, (take_next (0, 0) k hlt hlt2 HT.out).2 HE.out, hb3⟩
          case measure => simp [intOf]; omega
        · have hq : prEq (prAt xs k).1 (prAt xs k).2 (prAt ys k).1 (prAt ys k).2 = false := by rw [prEq_of]; simp [he]
          have HE := Lib.hid he
          clear he
          go_wp2
          refine wp_region_quiet_below (by kernel_rfl) (by kernel_rfl) ?_
          repeat (any_goals (first | go_big_quiet_step ((go_at_call 73; exact Calls.regrown_of (eqFresh_any _ _ _ _ _))) | quiet_step ((go_at_call 73; exact Calls.regrown_of (eqFresh_any _ _ _ _ _)))))
          refine wpQuiet_nil ?_
          intro _ hw'
          obtain ⟨⟨dq, osq⟩, hw''⟩ := hw'
          subst hw''
          have hb3 := hb.trans ((below_regrown wr dq osq).mono hb.size)
          clear q1 q2 q3 q4 c1 c2 c3 c4
          generalize grow (redrawn wr dq) osq = w2 at *
          go_wp2
          go_ret
          exact ⟨bool_end (differ_at k HE.out).symm, hb3⟩
      · go_wp2
        go_ret
        have e : k = xs.length := by omega
        subst e
        exact ⟨bool_end (same_all HL.out HT.out).symm, hb⟩
  · have k0 : ((xs.length : Int) != (ys.length : Int)) = true := by simp; omega
    have hf : decide (xs = ys) = false := by
      simp only [decide_eq_false_iff_not]
      intro e
      exact hl (by rw [e])
    have HF := Lib.hid hf
    clear hl hf
    go_enter Tryz.func22, Tryz.ntmps22
    go_wp2
    go_ret
    exact ⟨bool_end HF.out.symm, Below.refl _ _⟩

end Go.Proofs.YtbfkfklaplgebaaGreat
end

section
namespace Go.Proofs.YtbfkfklaplgebaaGreat
section
open Go.RowKit Go.Sort

/-- Less, the same, greater. -/
def cmpI (a b : Int) : Int := if a < b then -1 else if b < a then 1 else 0

def atomB (a : Int) : Bool := decide (0 ≤ a ∧ a ≤ 999)

theorem isAtom_any (a : Int) (w : World) :
    Calls Tryz.prog 129 #[.int .i64 a] w fun e w' => e = .returned (.bool (atomB a)) ∧ w = w' := by
  by_cases h1 : 0 ≤ a
  · by_cases h2 : a ≤ 999
    · go_enter Tryz.func129, Tryz.ntmps129
      go_wp2
      go_ret
      exact ⟨bool_end (by simp [atomB, h1, h2]), rfl⟩
    · have k2 : decide (a ≤ 999) = false := by simpa using h2
      have k3 : 999 < a := by omega
      clear h2
      go_enter Tryz.func129, Tryz.ntmps129
      go_wp2
      go_ret
      exact ⟨bool_end (by simp [atomB]; omega), rfl⟩
  · have k1 : a < 0 := by omega
    clear h1
    go_enter Tryz.func129, Tryz.ntmps129
    go_wp2
    go_ret
    exact ⟨bool_end (by simp [atomB]; omega), rfl⟩

theorem compare_any (a b : Int) (w : World) :
    Calls Tryz.prog 160 #[.int .i64 a, .int .i64 b] w fun e w' => e = .returned (.int .i64 (cmpI a b)) ∧ w = w' := by
  have na : (a != a) = false := by simp
  have nb : (b != b) = false := by simp
  by_cases h1 : a < b
  · go_enter Tryz.func160, Tryz.ntmps160
    go_wp2
    go_ret
    exact ⟨int_end (by simp [cmpI, h1]), rfl⟩
  · by_cases h2 : b < a
    · go_enter Tryz.func160, Tryz.ntmps160
      go_wp2
      go_ret
      exact ⟨int_end (by simp [cmpI, h1, h2]), rfl⟩
    · go_enter Tryz.func160, Tryz.ntmps160
      go_wp2
      go_ret
      exact ⟨int_end (by unfold cmpI; rw [if_neg (by omega), if_neg (by omega)]), rfl⟩

theorem closure_any (a b t : Int) (w : World) :
    Calls Tryz.prog 203 #[.agg #[.int .i64 a, .int .i64 b], .int .i64 t] w
      fun e w' => e = .returned (.int .i64 (cmpI a t)) ∧ Below w.heap.size w w' := by
  go_enter Tryz.func203, Tryz.ntmps203
  go_wp2_with (go_at_call 160; refine (compare_any _ _ _).mono ?_; rintro e w' ⟨rfl, rfl⟩)
  go_ret
  exact ⟨rfl, (Below.refl _ _).alloc (Nat.le_refl _) _⟩

/-- The first atoms ascend. -/
def Asc (l : List (Int × Int)) : Prop := ∀ i j, i < j → j < l.length → (prAt l i).1 < (prAt l j).1

/-- Place i divides the pairs at t. -/
def Divides (l : List (Int × Int)) (t : Int) (i : Nat) : Prop := i ≤ l.length ∧ (∀ j, j < i → (prAt l j).1 < t) ∧ ∀ j, i ≤ j → j < l.length → t ≤ (prAt l j).1

def foundB (l : List (Int × Int)) (t : Int) (i : Nat) : Bool := decide (i < l.length ∧ (prAt l i).1 = t)

def FindPost (l : List (Int × Int)) (t : Int) (w : World) (e : Ending) (w' : World) : Prop :=
  ∃ i : Nat, e = .returned (.tuple #[.int .i64 i, .bool (foundB l t i)]) ∧ Divides l t i ∧ Below w.heap.size w w'

theorem divides_up {l : List (Int × Int)} {t : Int} {a b m : Nat} (hasc : Asc l) (h : (∀ q, q < a → (prAt l q).1 < t) ∧ ∀ q, b ≤ q → q < l.length → t ≤ (prAt l q).1) (hm : m < l.length) (ht : (prAt l m).1 < t) :
    (∀ q, q < m + 1 → (prAt l q).1 < t) ∧ ∀ q, b ≤ q → q < l.length → t ≤ (prAt l q).1 := by
  refine ⟨fun q hq => ?_, h.2⟩
  by_cases e : q = m
  · rw [e]; exact ht
  · have := hasc q m (by omega) hm; omega

theorem divides_down {l : List (Int × Int)} {t : Int} {a b m : Nat} (hasc : Asc l) (h : (∀ q, q < a → (prAt l q).1 < t) ∧ ∀ q, b ≤ q → q < l.length → t ≤ (prAt l q).1) (ht : ¬ (prAt l m).1 < t) :
    (∀ q, q < a → (prAt l q).1 < t) ∧ ∀ q, m ≤ q → q < l.length → t ≤ (prAt l q).1 := by
  refine ⟨h.1, fun q hq hl => ?_⟩
  by_cases e : q = m
  · rw [e]; omega
  · have := hasc m q (by omega) hl; omega

set_option maxRecDepth 100000 in
set_option maxHeartbeats 1000000 in
theorem search_any (A : Option Addr) (c : Nat) (l : List (Int × Int)) (t : Int) (w : World) (hA : PairsAt w A l) (hl : l.length ≤ 1099511627776) (hasc : Asc l) :
    Calls Tryz.prog 202 #[.slice A l.length c, .int .i64 t, .func (.func 203) #[] #[]] w (FindPost l t w) := by
  have HA := Lib.hid hasc
  clear hasc
  go_enter Tryz.func202, Tryz.ntmps202
  go_wp2
  go_loopw [9, 10, 11] (fun i j h wr => ∃ (a b : Nat), a ≤ b ∧ b ≤ l.length ∧ i = .int .i64 a ∧ j = .int .i64 b ∧ Hid ((∀ q, q < a → (prAt l q).1 < t) ∧ ∀ q, b ≤ q → q < l.length → t ≤ (prAt l q).1) ∧ Below w.heap.size w wr) (fun i j _ _ => (intOf j).toNat - (intOf i).toNat)
  case atStart => exact ⟨0, l.length, Nat.zero_le _, Nat.le_refl _, rfl, rfl, ⟨fun q h => absurd h (by omega), fun q h1 h2 => absurd h1 (by omega)⟩, Below.refl _ _⟩
  case round =>
    obtain ⟨a, b, hab, hbl, rfl, rfl, hq, hb⟩ := hrel
    by_cases hlt : a < b
    · have hm : (a + b) / 2 < l.length := by omega
      obtain ⟨b1, o1, rfl, hb1, hc1⟩ := hA (by omega)
      obtain ⟨c1, c2⟩ := hc1 ((a + b) / 2) hm
      rw [← hb.cell (p := ⟨b1, _, none⟩) hb1] at c1 c2
      clear hc1 hA
      have hcl := closure_any (prAt l ((a + b) / 2)).1 (prAt l ((a + b) / 2)).2 t wr
      by_cases ht : (prAt l ((a + b) / 2)).1 < t
      · have HQ : Hid _ := divides_up HA.out hq.out hm ht
        have k1 : cmpI (prAt l ((a + b) / 2)).1 t = -1 := by simp [cmpI, ht]
        rw [k1] at hcl
        generalize prAt l ((a + b) / 2) = pr at c1 c2 hcl
        clear ht k1 hq
        go_wp2_with (go_at_call 203; refine hcl.mono ?_; rintro e w2 ⟨rfl, hb2⟩; have hb3 := hb.trans (hb2.mono hb.size))
        refine ⟨⟨(a + b) / 2 + 1, b, by omega, hbl, by go_num, rfl, HQ, hb3⟩, ?_⟩
        simp only [intOf]
        omega
      · have HQ : Hid _ := divides_down HA.out hq.out ht
        have k1 : 0 ≤ cmpI (prAt l ((a + b) / 2)).1 t := by unfold cmpI; split; omega; split <;> omega
        generalize prAt l ((a + b) / 2) = pr at c1 c2 hcl k1
        generalize cmpI pr.1 t = z at hcl k1
        clear ht hq
        go_wp2_with (go_at_call 203; refine hcl.mono ?_; rintro e w2 ⟨rfl, hb2⟩; have hb3 := hb.trans (hb2.mono hb.size))
        refine ⟨⟨a, (a + b) / 2, by omega, by omega, rfl, by go_num, HQ, hb3⟩, ?_⟩
        simp only [intOf]
        omega
    · have hba : b ≤ a := by omega
      have hd : Divides l t a := ⟨by omega, hq.out.1, fun q h1 h2 => hq.out.2 q (by omega) h2⟩
      have HD := Lib.hid hd
      clear hd hq
      by_cases hn : a < l.length
      · obtain ⟨b1, o1, rfl, hb1, hc1⟩ := hA (by omega)
        obtain ⟨c1, c2⟩ := hc1 a hn
        rw [← hb.cell (p := ⟨b1, _, none⟩) hb1] at c1 c2
        clear hc1 hA
        have hcl := closure_any (prAt l a).1 (prAt l a).2 t wr
        by_cases he : (prAt l a).1 = t
        · have hf : foundB l t a = true := by simp [foundB, hn, he]
          have k1 : cmpI (prAt l a).1 t = 0 := by simp [cmpI, he]
          have HF := Lib.hid hf
          rw [k1] at hcl
          generalize prAt l a = pr at c1 c2 hcl
          clear he k1 hf
          go_wp2_with (go_at_call 203; refine hcl.mono ?_; rintro e w2 ⟨rfl, hb2⟩; have hb3 := hb.trans (hb2.mono hb.size))
          go_ret2
          exact ⟨a, by rw [HF.out]; rfl, HD.out, hb3⟩
        · have hf : foundB l t a = false := by simp [foundB, he]
          have k1 : (cmpI (prAt l a).1 t == 0) = false := by
            unfold cmpI
            split
            · rfl
            · split
              · rfl
              · omega
          have HF := Lib.hid hf
          generalize prAt l a = pr at c1 c2 hcl k1
          generalize cmpI pr.1 t = z at hcl k1
          clear he hf
          go_wp2_with (go_at_call 203; refine hcl.mono ?_; rintro e w2 ⟨rfl, hb2⟩; have hb3 := hb.trans (hb2.mono hb.size))
          go_ret2
          exact ⟨a, by rw [HF.out]; rfl, HD.out, hb3⟩
      · have hf : foundB l t a = false := by simp [foundB, hn]
        have HF := Lib.hid hf
        clear hf
        go_wp2
        go_ret2
        exact ⟨a, by rw [HF.out]; rfl, HD.out, hb⟩

theorem placeOf_any (A : Option Addr) (c : Nat) (l : List (Int × Int)) (t : Int) (w : World) (hA : PairsAt w A l) (hl : l.length ≤ 1099511627776) (hasc : Asc l) :
    Calls Tryz.prog 186 #[.slice A l.length c, .int .i64 t] w (FindPost l t w) := by
  have hs := search_any A c l t w hA hl hasc
  clear hasc hA
  go_enter Tryz.func186, Tryz.ntmps186
  go_wp2_with fail
  refine hs.mono ?_
  rintro e w1 ⟨i, rfl, hd, hb⟩
  have HD := Lib.hid hd
  clear hs hd
  go_wp2
  go_ret2
  exact ⟨i, rfl, HD.out, hb⟩
end

section
open Go.RowKit Go.Sort

/-- What is asked of the pair at a place. -/
def okAt (l : List (Int × Int)) (i : Nat) : Bool :=
  atomB (prAt l i).1 && (atomB (prAt l i).2 && (decide ((prAt l i).1 ≠ (prAt l i).2) && (decide (i = 0) || decide ((prAt l (i - 1)).1 < (prAt l i).1))))

def orderB (l : List (Int × Int)) : Bool := (List.range l.length).all (okAt l)

theorem orderB_no {l : List (Int × Int)} {i : Nat} (hi : i < l.length) (h : okAt l i = false) : orderB l = false := by
  unfold orderB
  rw [List.all_eq_false]
  exact ⟨i, List.mem_range.2 hi, by simp [h]⟩

theorem orderB_yes {l : List (Int × Int)} (h : ∀ j, j < l.length → okAt l j = true) : orderB l = true := by
  unfold orderB
  rw [List.all_eq_true]
  exact fun x hx => h x (List.mem_range.1 hx)

theorem all_next {p : Nat → Bool} {k : Nat} (h : ∀ j, j < k → p j = true) (hk : p k = true) : ∀ j, j < k + 1 → p j = true := by
  intro j hj
  by_cases e : j = k
  · rw [e]; exact hk
  · exact h j (by omega)

set_option maxRecDepth 100000 in
set_option maxHeartbeats 2000000 in
theorem inOrder_any (A : Option Addr) (c : Nat) (l : List (Int × Int)) (w : World) (hA : PairsAt w A l) (hl : l.length ≤ 1099511627776) :
    Calls Tryz.prog 185 #[.slice A l.length c] w fun e w' => e = .returned (.bool (orderB l)) ∧ Below w.heap.size w w' := by
  go_enter Tryz.func185, Tryz.ntmps185
  go_wp2
  go_loopw [3, 4, 7] (fun _ _ i wr => ∃ k : Nat, k ≤ l.length ∧ i = .int .i64 k ∧ Hid (∀ j, j < k → okAt l j = true) ∧ Below w.heap.size w wr) (fun _ _ i _ => l.length - (intOf i).toNat)
  case atStart => exact ⟨0, Nat.zero_le _, rfl, fun j hj => absurd hj (by omega), Below.refl _ _⟩
  case round =>
    obtain ⟨k, hk, rfl, hq, hb⟩ := hrel
    by_cases hlt : k < l.length
    · obtain ⟨b1, o1, rfl, hb1, hc1⟩ := hA (by omega)
      obtain ⟨c1, c2⟩ := hc1 k hlt
      rw [← hb.cell (p := ⟨b1, _, none⟩) hb1] at c1 c2
      have hbs := hb.size
      by_cases hbad : (atomB (prAt l k).1 && (atomB (prAt l k).2 && decide ((prAt l k).1 ≠ (prAt l k).2))) = false
      · have hn : Hid (orderB l = false) := orderB_no hlt (by
          unfold okAt
          revert hbad
          cases atomB (prAt l k).1 <;> cases atomB (prAt l k).2 <;> cases decide ((prAt l k).1 ≠ (prAt l k).2) <;> simp)
        have hbW : Below w.heap.size w (wr.alloc (.cells #[.int .i64 (prAt l k).1, .int .i64 (prAt l k).2] 134)) := hb.alloc hb.size _
        generalize prAt l k = p1 at c1 c2 hbad hbW
        clear hq hc1 hA
        by_cases ha1 : atomB p1.1 = true
        · by_cases ha2 : atomB p1.2 = true
          · have ha3 : (p1.1 == p1.2) = true := by revert hbad; rw [ha1, ha2]; simp
            clear hbad
            go_wp2_with (go_at_call 129; refine (isAtom_any _ _).mono ?_; rintro e w' ⟨rfl, rfl⟩)
            go_ret
            exact ⟨bool_end hn.out.symm, hbW⟩
          · have ha2' : atomB p1.2 = false := by simpa using ha2
            clear hbad ha2
            go_wp2_with (go_at_call 129; refine (isAtom_any _ _).mono ?_; rintro e w' ⟨rfl, rfl⟩)
            go_ret
            exact ⟨bool_end hn.out.symm, hbW⟩
        · have ha1' : atomB p1.1 = false := by simpa using ha1
          clear hbad ha1
          go_wp2_with (go_at_call 129; refine (isAtom_any _ _).mono ?_; rintro e w' ⟨rfl, rfl⟩)
          go_ret
          exact ⟨bool_end hn.out.symm, hbW⟩
      · have ha1 : atomB (prAt l k).1 = true := by revert hbad; cases atomB (prAt l k).1 <;> simp
        have ha2 : atomB (prAt l k).2 = true := by revert hbad; cases atomB (prAt l k).2 <;> simp
        have ha3 : ((prAt l k).1 == (prAt l k).2) = false := by revert hbad; rw [ha1, ha2]; simp
        clear hbad
        by_cases hz : k = 0
        · subst hz
          have hn : Hid (∀ q, q < 0 + 1 → okAt l q = true) := all_next hq.out (by simp [okAt, ha1, ha2]; simpa using ha3)
          rw [Nat.zero_mul, Nat.add_zero] at c1 c2
          generalize prAt l 0 = p1 at c1 c2 ha1 ha2 ha3
          clear hq hc1 hA
          go_wp2_with (go_at_call 129; refine (isAtom_any _ _).mono ?_; rintro e w' ⟨rfl, rfl⟩)
          have hbW : Below w.heap.size w (wr.alloc (.cells #[.int .i64 p1.1, .int .i64 p1.2] 134)) := hb.alloc hb.size _
          generalize wr.alloc (.cells #[.int .i64 p1.1, .int .i64 p1.2] 134) = W1 at hbW ⊢
          clear c1 c2
          refine wp_region_quiet_below (by kernel_rfl) (by kernel_rfl) ?_
          repeat (any_goals (first | go_big_quiet_step (fail) | quiet_step (fail)))
          refine wpQuiet_nil ?_
          intro _ hw'
          obtain ⟨⟨dq, osq⟩, hw''⟩ := hw'
          subst hw''
          have hb3 := hbW.trans ((below_regrown W1 dq osq).mono hbW.size)
          generalize grow (redrawn W1 dq) osq = w2 at hb3 ⊢
          clear hbW
          go_wp2
          refine ⟨⟨0 + 1, by omega, by go_num, hn, hb3⟩, ?_⟩
          simp only [intOf]
          omega
        · obtain ⟨j, rfl⟩ : ∃ j, k = j + 1 := ⟨k - 1, by omega⟩
          obtain ⟨c3, _⟩ := hc1 j (by omega)
          rw [← hb.cell (p := ⟨b1, _, none⟩) hb1] at c3
          clear hc1 hA hz
          by_cases hp : (prAt l j).1 < (prAt l (j + 1)).1
          · have hn : Hid (∀ q, q < j + 1 + 1 → okAt l q = true) := all_next hq.out (by simp [okAt, ha1, ha2, hp]; simpa using ha3)
            generalize prAt l (j + 1) = p1 at c1 c2 ha1 ha2 ha3 hp
            generalize (prAt l j).1 = p2 at c3 hp
            clear hq
            go_wp2_with (go_at_call 129; refine (isAtom_any _ _).mono ?_; rintro e w' ⟨rfl, rfl⟩)
            have d0 : (wr.alloc (.cells #[.int .i64 p1.1, .int .i64 p1.2] 134)).cell? ⟨wr.heap.size, 0, none⟩ = some (.int .i64 p1.1) := by simp
            have d3 : (wr.alloc (.cells #[.int .i64 p1.1, .int .i64 p1.2] 134)).cell? ⟨b1, o1 + j * 2, none⟩ = some (.int .i64 p2) := by
              rw [World.cell?_alloc_lt _ _ _ (by show b1 < _; omega)]; exact c3
            have hbW : Below w.heap.size w (wr.alloc (.cells #[.int .i64 p1.1, .int .i64 p1.2] 134)) := hb.alloc hb.size _
            generalize wr.alloc (.cells #[.int .i64 p1.1, .int .i64 p1.2] 134) = W1 at d0 d3 hbW ⊢
            have q0 := fun d os => cell_regrown d0 d os
            have q3 := fun d os => cell_regrown d3 d os
            clear c1 c2 c3 d0 d3
            refine wp_region_quiet_below (by kernel_rfl) (by kernel_rfl) ?_
            repeat (any_goals (first | go_big_quiet_step (fail) | quiet_step (fail)))
            refine wpQuiet_nil ?_
            intro _ hw'
            obtain ⟨⟨dq, osq⟩, hw''⟩ := hw'
            subst hw''
            have hb3 := hbW.trans ((below_regrown W1 dq osq).mono hbW.size)
            generalize grow (redrawn W1 dq) osq = w2 at hb3 ⊢
            clear q0 q3 hbW
            go_wp2
            refine ⟨⟨j + 1 + 1, by omega, by go_num, hn, hb3⟩, ?_⟩
            simp only [intOf]
            omega
          · have hn : Hid (orderB l = false) := orderB_no hlt (by simp [okAt, hp])
            generalize prAt l (j + 1) = p1 at c1 c2 ha1 ha2 ha3 hp
            generalize (prAt l j).1 = p2 at c3 hp
            have hp' : p1.1 ≤ p2 := by omega
            clear hq hp
            go_wp2_with (go_at_call 129; refine (isAtom_any _ _).mono ?_; rintro e w' ⟨rfl, rfl⟩)
            have d0 : (wr.alloc (.cells #[.int .i64 p1.1, .int .i64 p1.2] 134)).cell? ⟨wr.heap.size, 0, none⟩ = some (.int .i64 p1.1) := by simp
            have d3 : (wr.alloc (.cells #[.int .i64 p1.1, .int .i64 p1.2] 134)).cell? ⟨b1, o1 + j * 2, none⟩ = some (.int .i64 p2) := by
              rw [World.cell?_alloc_lt _ _ _ (by show b1 < _; omega)]; exact c3
            have hbW : Below w.heap.size w (wr.alloc (.cells #[.int .i64 p1.1, .int .i64 p1.2] 134)) := hb.alloc hb.size _
            generalize wr.alloc (.cells #[.int .i64 p1.1, .int .i64 p1.2] 134) = W1 at d0 d3 hbW ⊢
            have q0 := fun d os => cell_regrown d0 d os
            have q3 := fun d os => cell_regrown d3 d os
            clear c1 c2 c3 d0 d3
            refine wp_region_quiet_below (by kernel_rfl) (by kernel_rfl) ?_
            repeat (any_goals (first | go_big_quiet_step (fail) | quiet_step (fail)))
            refine wpQuiet_nil ?_
            intro _ hw'
            obtain ⟨⟨dq, osq⟩, hw''⟩ := hw'
            subst hw''
            have hb3 := hbW.trans ((below_regrown W1 dq osq).mono hbW.size)
            generalize grow (redrawn W1 dq) osq = w2 at hb3 ⊢
            clear q0 q3 hbW
            go_wp2
            go_ret
            exact ⟨bool_end hn.out.symm, hb3⟩
    · have hn : Hid (orderB l = true) := orderB_yes fun j hj => hq.out j (by omega)
      clear hq
      go_wp2
      go_ret
      exact ⟨bool_end hn.out.symm, hb⟩
end
end Go.Proofs.YtbfkfklaplgebaaGreat
end

section
namespace Go.Proofs.YtbfkfklaplgebaaGreat
open Go.RowKit Go.Sort

def froms (l : List (Int × Int)) : List Int := l.map (·.1)
def tos (l : List (Int × Int)) : List Int := l.map (·.2)

theorem froms_at (l : List (Int × Int)) (i : Nat) (h : i < l.length) : (froms l)[i]? = some (prAt l i).1 := by
  simp [froms, prAt, h]
theorem tos_at (l : List (Int × Int)) (i : Nat) (h : i < l.length) : (tos l)[i]? = some (prAt l i).2 := by
  simp [tos, prAt, h]

theorem mem_froms {l : List (Int × Int)} {t : Int} : t ∈ froms l ↔ ∃ i, i < l.length ∧ (prAt l i).1 = t := by
  constructor
  · intro h
    obtain ⟨i, hi, e⟩ := List.getElem_of_mem h
    have hl : i < l.length := by simpa [froms] using hi
    refine ⟨i, hl, ?_⟩
    have h1 := froms_at l i hl
    rw [List.getElem?_eq_getElem hi, e] at h1
    injection h1 with h1
    exact h1.symm
  · rintro ⟨i, hi, rfl⟩
    exact List.mem_of_getElem? (froms_at l i hi)

theorem okAt_parts {l : List (Int × Int)} {i : Nat} (h : okAt l i = true) :
    (0 ≤ (prAt l i).1 ∧ (prAt l i).1 ≤ 999) ∧ (0 ≤ (prAt l i).2 ∧ (prAt l i).2 ≤ 999) ∧ (prAt l i).1 ≠ (prAt l i).2 ∧ (i = 0 ∨ (prAt l (i - 1)).1 < (prAt l i).1) := by
  simpa [okAt, atomB] using h

theorem order_at {l : List (Int × Int)} (h : orderB l = true) (i : Nat) (hi : i < l.length) : okAt l i = true := by
  unfold orderB at h
  rw [List.all_eq_true] at h
  exact h i (List.mem_range.2 hi)

theorem asc_of_order {l : List (Int × Int)} (h : orderB l = true) : Asc l := by
  intro i j hij hj
  induction j with
  | zero => omega
  | succ j ih =>
    have h1 := (okAt_parts (order_at h (j + 1) hj)).2.2.2
    rcases h1 with h1 | h1
    · omega
    · have e : j + 1 - 1 = j := by omega
      rw [e] at h1
      by_cases hc : i = j
      · rw [hc]; exact h1
      · have := ih (by omega) (by omega); omega

theorem found_iff {l : List (Int × Int)} {t : Int} {i : Nat} (hasc : Asc l) (hd : Divides l t i) : foundB l t i = (froms l).contains t := by
  rw [Bool.eq_iff_iff]
  simp only [foundB, decide_eq_true_eq, List.contains_iff_mem]
  rw [mem_froms]
  constructor
  · rintro ⟨h1, h2⟩
    exact ⟨i, h1, h2⟩
  · rintro ⟨q, hq, e⟩
    have h1 : i ≤ q := by
      rcases Nat.lt_or_ge q i with h | h
      · have := hd.2.1 q h; omega
      · exact h
    have h2 : i < l.length := by omega
    refine ⟨h2, ?_⟩
    have h3 := hd.2.2 i (Nat.le_refl _) h2
    by_cases hc : i = q
    · rw [hc]; exact e
    · have := hasc i q (by omega) hq; omega

/-- Which atoms of the pairs have been given by the first k. -/
def gBit (l : List (Int × Int)) (k q : Nat) : Bool := decide (q < l.length) && ((tos l).take k).contains (prAt l q).1
def gBits (l : List (Int × Int)) (k : Nat) : List Value := (List.range 40).map fun q => .bool (gBit l k q)

theorem gBits_at (l : List (Int × Int)) (k q : Nat) (h : q < 40) : (gBits l k)[q]? = some (.bool (gBit l k q)) := by
  simp [gBits, List.getElem?_map, List.getElem?_range h]

theorem gBits_set {l : List (Int × Int)} {k i : Nat} (hasc : Asc l) (hk : k < l.length) (hi : i < l.length) (e : (prAt l i).1 = (prAt l k).2) :
    (gBits l k).set i (.bool true) = gBits l (k + 1) := by
  have ht : (tos l).take (k + 1) = (tos l).take k ++ [(prAt l k).2] := by
    have hlt : k < (tos l).length := by simpa [tos] using hk
    rw [List.take_succ_eq_append_getElem hlt]
    have h1 := tos_at l k hk
    rw [List.getElem?_eq_getElem hlt] at h1
    injection h1 with h1
    rw [h1]
  apply List.ext_getElem?
  intro q
  by_cases hq : q < 40
  · rw [gBits_at l (k + 1) q hq, List.getElem?_set]
    by_cases hc : i = q
    · subst hc
      rw [if_pos rfl, if_pos (by simpa [gBits] using hq)]
      simp [gBit, hi, ht, e]
    · rw [if_neg hc, gBits_at l k q hq]
      by_cases hql : q < l.length
      · have hne : (prAt l q).1 ≠ (prAt l k).2 := by
          rw [← e]
          intro h
          rcases Nat.lt_or_gt_of_ne hc with h1 | h1
          · have := hasc i q h1 hql; omega
          · have := hasc q i h1 hi; omega
        simp [gBit, ht, hne]
      · simp [gBit, hql]
  · rw [List.getElem?_eq_none (by simp [gBits]; omega), List.getElem?_eq_none (by simp [gBits]; omega)]

theorem gBits_zero (l : List (Int × Int)) : gBits l 0 = List.replicate 40 (.bool false) := by
  apply List.ext_getElem?
  intro q
  by_cases hq : q < 40
  · rw [gBits_at l 0 q hq, List.getElem?_replicate, if_pos hq]
    simp [gBit]
  · rw [List.getElem?_eq_none (by simp [gBits]; omega), List.getElem?_eq_none (by simp; omega)]

def goodAt (l : List (Int × Int)) (k : Nat) : Bool := (froms l).contains (prAt l k).2 && !((tos l).take k).contains (prAt l k).2

/-- Whether a list of pairs is a permutation. -/
def permB (l : List (Int × Int)) : Bool := decide (l.length ≤ 40) && (orderB l && (List.range l.length).all (goodAt l))

theorem permB_no {l : List (Int × Int)} {i : Nat} (hi : i < l.length) (h : goodAt l i = false) : permB l = false := by
  unfold permB
  have : (List.range l.length).all (goodAt l) = false := by
    rw [List.all_eq_false]
    exact ⟨i, List.mem_range.2 hi, by simp [h]⟩
  rw [this]; simp

theorem permB_yes {l : List (Int × Int)} (h0 : l.length ≤ 40) (h1 : orderB l = true) (h : ∀ j, j < l.length → goodAt l j = true) : permB l = true := by
  unfold permB
  have : (List.range l.length).all (goodAt l) = true := by
    rw [List.all_eq_true]
    exact fun x hx => h x (List.mem_range.1 hx)
  rw [this, h1]; simp [h0]

/-- The block of marks after k pairs. -/
def Marks (w : World) (G : Nat) (l : List (Int × Int)) (k : Nat) : Prop := w.heap[G]? = some (.cells (gBits l k).toArray 209 (0, 0))

theorem Marks.lt {w : World} {G : Nat} {l : List (Int × Int)} {k : Nat} (h : Marks w G l k) : G < w.heap.size := (Array.getElem?_eq_some_iff.1 h).1
theorem Marks.cell {w : World} {G : Nat} {l : List (Int × Int)} {k : Nat} (h : Marks w G l k) (q : Nat) (hq : q < 40) : w.cell? ⟨G, q, none⟩ = some (.bool (gBit l k q)) := by
  rw [cell_of_row w G q _ _ _ h]
  simpa using gBits_at l k q hq
theorem Marks.frozen {w : World} {G : Nat} {l : List (Int × Int)} {k : Nat} (h : Marks w G l k) (q : Nat) : w.frozen? ⟨G, q, none⟩ = false := frozen_of_row w G q _ _ h
theorem Marks.below {w w' : World} {G : Nat} {l : List (Int × Int)} {k : Nat} (h : Marks w G l k) (hb : Below w.heap.size w w') : Marks w' G l k := (hb.block G h.lt).trans h
theorem Marks.alloc {w : World} {G : Nat} {l : List (Int × Int)} {k : Nat} (h : Marks w G l k) (o : Obj) : Marks (w.alloc o) G l k := h.below ((Below.refl _ _).alloc (Nat.le_refl _) o)
theorem Marks.set_ {w : World} {G : Nat} {l : List (Int × Int)} {k i : Nat} (h : Marks w G l k) (hasc : Asc l) (hk : k < l.length) (hi : i < l.length) (e : (prAt l i).1 = (prAt l k).2) :
    Marks (w.setCell ⟨G, i, none⟩ (.bool true)) G l (k + 1) := by
  unfold Marks at h ⊢
  rw [heap_setCell_same w G i _ _ _ h, ← gBits_set hasc hk hi e]
  simp

set_option maxRecDepth 100000 in
set_option maxHeartbeats 2000000 in
theorem isPerm_impl (A : Option Addr) (c : Nat) (l : List (Int × Int)) (w : World) (hA : PairsAt w A l) (hl : l.length ≤ 1099511627776) :
    Calls Tryz.prog 170 #[.slice A l.length c] w fun e w' => e = .returned (.bool (permB l)) ∧ Below w.heap.size w w' := by
  by_cases h40 : l.length ≤ 40
  · have hio := inOrder_any A c l w hA hl
    by_cases ho : orderB l = true
    · rw [ho] at hio
      have hasc := asc_of_order ho
      have HO := Lib.hid ho
      have HA := Lib.hid hasc
      clear ho hasc
      go_enter Tryz.func170, Tryz.ntmps170
      go_wp2_with fail
      refine hio.mono ?_
      rintro e w1 ⟨rfl, hb1⟩
      have k40 : decide (40 < (l.length : Int)) = false := by simp; omega
      clear hio
      go_wp2_with fail
      have hm0 : Marks (w1.alloc (.cells (gBits l 0).toArray 209)) w1.heap.size l 0 := heap_alloc_new w1 _
      rw [gBits_zero] at hm0
      have hb2 : Below w.heap.size w (w1.alloc (.cells (List.replicate 40 (Value.bool false)).toArray 209)) := hb1.alloc hb1.size _
      have e2 : w1.alloc (.cells (List.replicate 40 (Value.bool false)).toArray 209) = w1.alloc (.cells #[.bool false, .bool false, .bool false, .bool false, .bool false, .bool false, .bool false, .bool false, .bool false, .bool false, .bool false, .bool false, .bool false, .bool false, .bool false, .bool false, .bool false, .bool false, .bool false, .bool false, .bool false, .bool false, .bool false, .bool false, .bool false, .bool false, .bool false, .bool false, .bool false, .bool false, .bool false, .bool false, .bool false, .bool false, .bool false, .bool false, .bool false, .bool false, .bool false, .bool false] 209) := rfl
      rw [← e2]
      have hG : w.heap.size ≤ w1.heap.size := hb1.size
      generalize w1.alloc (.cells (List.replicate 40 (Value.bool false)).toArray 209) = w2 at hm0 hb2 ⊢
      clear e2 hb1
      generalize w1.heap.size = G at hm0 hG ⊢
      go_loopw [5, 6, 7, 18] (fun _ _ _ i wr => ∃ k : Nat, k ≤ l.length ∧ i = .int .i64 k ∧ Hid (∀ j, j < k → goodAt l j = true) ∧ Marks wr G l k ∧ Below w.heap.size w wr) (fun _ _ _ i _ => l.length - (intOf i).toNat)
      case atStart => exact ⟨0, Nat.zero_le _, rfl, fun j hj => absurd hj (by omega), hm0, hb2⟩
      case round =>
        clear hm0 hb2
        obtain ⟨k, hk, rfl, hq, hm, hb⟩ := hrel
        by_cases hlt : k < l.length
        · have hA1 := hA.below (w' := wr) (hb)
          obtain ⟨b1, o1, rfl, hb1, hc1⟩ := hA (by omega)
          obtain ⟨c1, c2⟩ := hc1 k hlt
          rw [← hb.cell (p := ⟨b1, _, none⟩) hb1] at c1 c2
          clear hc1 hA
          have hpl := fun W (hW : PairsAt W (some ⟨b1, o1, none⟩) l) => placeOf_any (some ⟨b1, o1, none⟩) c l (prAt l k).2 W hW hl HA.out
          have HG : Hid (goodAt l k = ((froms l).contains (prAt l k).2 && !((tos l).take k).contains (prAt l k).2)) := rfl
          generalize hp : prAt l k = p at c1 c2 hpl HG
          have HP := Lib.hid hp
          clear hp
          have hA2 : PairsAt (wr.alloc (.cells #[.int .i64 p.1, .int .i64 p.2] 134)) (some ⟨b1, o1, none⟩) l := hA1.below ((Below.refl _ _).alloc (Nat.le_refl _) _)
          have hm2 := hm.alloc (.cells #[.int .i64 p.1, .int .i64 p.2] 134)
          have hb2 := hb.alloc hb.size (.cells #[.int .i64 p.1, .int .i64 p.2] 134)
          clear hA1 hm
          go_wp2_with fail
          refine (hpl _ hA2).mono ?_
          rintro e w3 ⟨i, he, hd, hb3⟩
          have hfi := found_iff HA.out hd
          have hfp : foundB l p.2 i = true → i < l.length ∧ (prAt l i).1 = p.2 := fun h => by simpa [foundB] using h
          have hm3 := hm2.below hb3
          have hb4 := hb2.trans (hb3.mono hb2.size)
          clear hpl hA2 hm2 hb2 hb3 hd
          by_cases hfb : (froms l).contains p.2 = true
          · rw [hfb] at hfi
            obtain ⟨hi, hie⟩ := hfp hfi
            rw [hfi] at he
            subst he
            have hc := hm3.cell i (by omega)
            have hfz := hm3.frozen i
            have hgb : gBit l k i = ((tos l).take k).contains p.2 := by simp [gBit, hi, hie]
            have hst := hm3.set_ HA.out hlt hi (by rw [HP.out]; exact hie)
            have hst2 : Below w.heap.size w (w3.setCell ⟨G, i, none⟩ (.bool true)) := hb4.setCell hG _
            by_cases hg : ((tos l).take k).contains p.2 = true
            · have hn : Hid (permB l = false) := permB_no hlt (by rw [HG.out, hg]; simp)
              rw [hgb, hg] at hc
              clear hfp hfi hfb hgb hg hst hst2 hie hm3 hq HG
              go_wp2
              go_ret
              exact ⟨bool_end hn.out.symm, hb4⟩
            · have hg' : ((tos l).take k).contains p.2 = false := by simpa using hg
              have hn : Hid (∀ j, j < k + 1 → goodAt l j = true) := all_next hq.out (by rw [HG.out, hg', hfb]; rfl)
              rw [hgb, hg'] at hc
              clear hfp hfi hfb hgb hg hg' hie hm3 hq HG
              have HS := Lib.hid hst
              clear hst
              go_wp2
              refine ⟨⟨k + 1, by omega, by go_num, hn, HS.out, hst2⟩, ?_⟩
              simp only [intOf]
              omega
          · have hfb' : (froms l).contains p.2 = false := by simpa using hfb
            have hn : Hid (permB l = false) := permB_no hlt (by rw [HG.out, hfb']; rfl)
            rw [hfi, hfb'] at he
            subst he
            clear hfp hfi hfb hfb' hm3 hq HG
            go_wp2
            go_ret
            exact ⟨bool_end hn.out.symm, hb4⟩
        · have hn : Hid (permB l = true) := permB_yes h40 HO.out fun j hj => hq.out j (by omega)
          clear hq hm
          go_wp2
          go_ret
          exact ⟨bool_end hn.out.symm, hb⟩
    · have ho' : orderB l = false := by simpa using ho
      rw [ho'] at hio
      have hf : Hid (permB l = false) := by show permB l = false; unfold permB; rw [ho']; simp
      clear ho ho'
      go_enter Tryz.func170, Tryz.ntmps170
      go_wp2_with fail
      refine hio.mono ?_
      rintro e w1 ⟨rfl, hb1⟩
      go_wp2
      go_ret
      exact ⟨bool_end hf.out.symm, hb1⟩
  · have hf : Hid (permB l = false) := by show permB l = false; unfold permB; simp [h40]
    have h41 : 40 < l.length := by omega
    clear h40 hA
    go_enter Tryz.func170, Tryz.ntmps170
    go_wp2
    go_ret
    exact ⟨bool_end hf.out.symm, Below.refl _ _⟩

end Go.Proofs.YtbfkfklaplgebaaGreat
end

