/-
  The comparison of two pairs and of two lists of pairs, as contracts. Comparing and numbering lists of booleans, as contracts. Lists of moves: the laws' own copies and comparisons, as contracts. Comparing numbers, atoms, and finding a pair by its first atom, as contracts. Whether moves are in order, as a contract. Whether a list has a number: in the model, as a contract. Constants, tuples and patterns: plain words, no program is walked here. Whether a list of pairs is a permutation, as the program decides it: a contract. Whether a list of pairs is a permutation, as the model decides it: a contract; and that both decide alike. The moved atoms of a list of pairs: in the program, as a contract. A number is put into an ascending list, and the atoms of two lists of pairs together: in the model, as contracts. Comparing, numbering and copying lists of integers, as contracts. Patterns by themselves, all of them, and their order: plain words, no program is walked here. What is a term: plain words, no program is walked here. All terms within a term: plain words. The shape of a term, in the model, as contracts. The least atom that is not in a list: in the program, as a contract. The least atom that is not in a list: in the model, as a contract.
-/
import Derived.Test.YtkhjdidcpoefdaaKCountWords1
import Derived.WalkLawsBesides
import Derived.WalkSpells
import Derived.BigQuiet
import Derived.Lib.QuietBelow
import Derived.Lib.Hide
section
namespace Go.Proofs.Ytkhjdidcpoefdaa
open Go.RowKit Go.Sort

def prEq (a b c d : Int) : Bool := decide ((a, b) = (c, d))

theorem prEq_of {xs ys : List (Int × Int)} {k : Nat} : prEq (prAt xs k).1 (prAt xs k).2 (prAt ys k).1 (prAt ys k).2 = decide (prAt xs k = prAt ys k) := rfl

end Go.Proofs.Ytkhjdidcpoefdaa
end

section
namespace Go.Proofs.Ytkhjdidcpoefdaa
open Go.RowKit Go.Sort

theorem szB_yes (A : Option Addr) (n c : Nat) (left : Int) (w : World) (hn : n ≤ 1099511627776) (h1 : left ≤ 1099511627776) (h2 : (n : Int) ≤ left) :
    Calls Try.prog 51 #[.slice A n c, .int .i64 left] w fun e w' => e = .returned (.int .i64 (left - n)) ∧ w = w' := by
  have h3 : ¬ left - (n : Int) < 0 := by omega
  go_enter Try.func51, Try.ntmps51
  go_wp2
  go_ret
  exact ⟨rfl, rfl⟩
theorem szB_no (A : Option Addr) (n c : Nat) (left : Int) (w : World) (hn : n ≤ 9223372036854775807) (h0 : 0 ≤ left) (h1 : left ≤ 1099511627776) (h2 : left < (n : Int)) :
    Calls Try.prog 51 #[.slice A n c, .int .i64 left] w fun e w' => e = .returned (.int .i64 (-1)) ∧ w = w' := by
  have h3 : left - (n : Int) < 0 := by omega
  go_enter Try.func51, Try.ntmps51
  go_wp2
  go_ret
  exact ⟨rfl, rfl⟩

set_option maxHeartbeats 400000 in
theorem eqBoolS_any (A B : Option Addr) (c d : Nat) (xs ys : List Bool) (w : World) (hx : BoolsAt w A xs) (hy : BoolsAt w B ys) (hlx : xs.length ≤ 9223372036854775807) :
    Calls Try.prog 57 #[.slice A xs.length c, .slice B ys.length d] w
      fun e w' => e = .returned (.bool (decide (xs = ys))) ∧ Below w.heap.size w w' := by
  by_cases hl : xs.length = ys.length
  · have k0 : ((xs.length : Int) != (ys.length : Int)) = false := by simp [hl]
    have HL := Lib.hid hl
    clear hl
    go_enter Try.func57, Try.ntmps57
    go_wp2
    go_loopw [5] (fun i wr => ∃ k : Nat, k ≤ xs.length ∧ i = .int .i64 k ∧ xs.take k = ys.take k ∧ Below w.heap.size w wr) (fun i _ => xs.length - (intOf i).toNat)
    case atStart => exact ⟨0, Nat.zero_le _, rfl, rfl, Below.refl _ _⟩
    case round =>
      obtain ⟨k, hk, rfl, ht, hb⟩ := hrel
      have HT := Lib.hid ht
      clear ht
      by_cases hlt : k < xs.length
      · obtain ⟨b1, o1, rfl, hb1, hc1⟩ := hx (by omega)
        obtain ⟨b2, o2, rfl, hb2, hc2⟩ := hy (by have := HL.out; omega)
        have c1 := hc1 k hlt
        have c3 := hc2 k (by have := HL.out; omega)
        rw [← hb.cell (p := ⟨b1, _, none⟩) hb1] at c1
        rw [← hb.cell (p := ⟨b2, _, none⟩) hb2] at c3
        have hlt2 : k < ys.length := by have := HL.out; omega
        clear hc1 hc2 hx hy
        have q1 := fun d os => cell_regrown c1 d os
        have q3 := fun d os => cell_regrown c3 d os
        by_cases he : btAt xs k = btAt ys k
        · have hn : Hid (xs.take (k + 1) = ys.take (k + 1)) := (take_next false k hlt hlt2 HT.out).2 he
          rw [← he] at q3
          generalize btAt xs k = x at q1 q3
          clear he c1 c3
          cases x
          all_goals
            go_wp2
            refine wp_region_quiet_below (by kernel_rfl) (by kernel_rfl) ?_
            repeat (any_goals (first | go_big_quiet_step (fail) | quiet_step (fail)))
            refine wpQuiet_nil ?_
            intro _ hw'
            obtain ⟨⟨dq, osq⟩, hw''⟩ := hw'
            subst hw''
            have hb3 := hb.trans ((below_regrown wr dq osq).mono hb.size)
            generalize grow (redrawn wr dq) osq = w2 at hb3 ⊢
            clear q1 q3 hb
            go_wp2
            refine ⟨⟨k + 1, by omega, by go_num, hn.out, hb3⟩, ?_⟩
            simp only [intOf]
            omega
        · have hn : Hid (decide (xs = ys) = false) := bdiffer_at k he
          generalize btAt xs k = x at q1 he
          generalize btAt ys k = y at q3 he
          clear c1 c3
          cases x <;> cases y <;> first | exact absurd rfl he | skip
          all_goals
            clear he
            go_wp2
            refine wp_region_quiet_below (by kernel_rfl) (by kernel_rfl) ?_
            repeat (any_goals (first | go_big_quiet_step (fail) | quiet_step (fail)))
            refine wpQuiet_nil ?_
            intro _ hw'
            obtain ⟨⟨dq, osq⟩, hw''⟩ := hw'
            subst hw''
            have hb3 := hb.trans ((below_regrown wr dq osq).mono hb.size)
            generalize grow (redrawn wr dq) osq = w2 at hb3 ⊢
            clear q1 q3 hb
            go_wp2
            go_ret
            exact ⟨bool_end hn.out.symm, hb3⟩
      · go_wp2
        go_ret
        have e : k = xs.length := by omega
        subst e
        exact ⟨bool_end (bsame_all HL.out HT.out).symm, hb⟩
  · have k0 : ((xs.length : Int) != (ys.length : Int)) = true := by simp; omega
    have hf : decide (xs = ys) = false := by
      simp only [decide_eq_false_iff_not]
      intro e
      exact hl (by rw [e])
    have HF := Lib.hid hf
    clear hl hf
    go_enter Try.func57, Try.ntmps57
    go_wp2
    go_ret
    exact ⟨bool_end HF.out.symm, Below.refl _ _⟩

end Go.Proofs.Ytkhjdidcpoefdaa
end

section
namespace Go.Proofs.Ytkhjdidcpoefdaa
open Go.RowKit Go.Sort
set_option linter.unusedVariables false

/-- A new slice of the elements. -/
def NewMoves (l : List (Int × Int)) (w : World) (e : Ending) (w' : World) : Prop :=
  ∃ v, e = .returned v ∧ w'.ownsRow w.heap.size 70 2 v l.length (cellsOf l) ∧ Below w.heap.size w w'

theorem szM_yes (A : Option Addr) (n c : Nat) (left : Int) (w : World) (hn : n ≤ 1099511627776) (h1 : left ≤ 1099511627776) (h2 : (n : Int) ≤ left) :
    Calls Try.prog 52 #[.slice A n c, .int .i64 left] w fun e w' => e = .returned (.int .i64 (left - n)) ∧ w = w' := by
  have k0 : ¬ left - (n : Int) < 0 := by omega
  go_enter Try.func52, Try.ntmps52
  go_wp2
  go_ret
  exact ⟨rfl, rfl⟩

theorem szM_no (A : Option Addr) (n c : Nat) (left : Int) (w : World) (hn : n ≤ 9223372036854775807) (h0 : 0 ≤ left) (h1 : left ≤ 1099511627776) (h2 : left < (n : Int)) :
    Calls Try.prog 52 #[.slice A n c, .int .i64 left] w fun e w' => e = .returned (.int .i64 (-1)) ∧ w = w' := by
  have k0 : left - (n : Int) < 0 := by omega
  go_enter Try.func52, Try.ntmps52
  go_wp2
  go_ret
  exact ⟨rfl, rfl⟩

theorem toMove_any (a b : Int) (w : World) :
    Calls Try.prog 90 #[.agg #[.int .i64 a, .int .i64 b]] w
      fun e w' => e = .returned (.agg #[.int .i64 a, .int .i64 b]) ∧ Below w.heap.size w w' := by
  go_enter Try.func90, Try.ntmps90
  go_wp2
  refine bodyPost_ret (v := .agg #[.int .i64 a, .int .i64 b]) (by simp [results, Try.results90, go_sem]) rfl ⟨rfl, ?_⟩
  repeat (first | exact Below.refl _ _ | refine Below.setCell ?_ (by simp) _ | refine Below.alloc ?_ (by first | exact Nat.le_refl _ | (simp; done) | (simp; omega)) _)

theorem move_info : (Try.prog.info? 70).map (fun i => (i.zero, i.size, i.bytes)) = some (some (.agg #[.int .i64 0, .int .i64 0]), 2, 16) := by kernel_rfl

set_option maxHeartbeats 1000000 in
theorem toMoveS_any (A : Option Addr) (c : Nat) (l : List (Int × Int)) (w : World) (hA : PairsAt w A l) (hl : l.length ≤ 1099511627776) :
    Calls Try.prog 56 #[.slice A l.length c] w (NewMoves l w) := by
  obtain ⟨i0, hi0, hz0, hz1, hz2⟩ := info_parts move_info
  have HS := Lib.hid hz2
  clear hz2
  go_enter Try.func56, Try.ntmps56
  go_wp2_with (at_make; refine wpList_make_full _ rfl (.tmp 6) (.tmp 6) 28 rfl w.heap.size 70 i0 _ 2 Try.underlying28 hi0 hz0 hz1 .i64 .i64 _ _ l.length rfl rfl rfl rfl ?c1 ?c2 (Nat.le_refl _) ?_)
  case c1 => rw [HS.out]; omega
  case c2 => unfold maxLen; omega
  intro w1 ho hg
  have hb0 := (Below.refl w.heap.size w).grown hg (Nat.le_refl _) (fun k hk => by cases hk)
  clear hg
  generalize hz : (madeCells #[Value.int IntKind.i64 0, Value.int IntKind.i64 0] (l.length * 2)).toList = zs at ho
  have hzl : Hid (zs.length = l.length * 2) := Lib.hid ho.1
  clear hz
  have hlt0 : w.heap.size < w1.heap.size := (ho.lt w.heap.size rfl).2
  go_wp2
  go_loopw [4] (fun i wr => ∃ k : Nat, k ≤ l.length ∧ i = .int .i64 k ∧ wr.ownsRow w.heap.size 70 2 (.slice (some ⟨w.heap.size, 0, none⟩) l.length l.length) l.length (mixTo (cellsOf l) zs (k * 2)) ∧ Below w.heap.size w wr) (fun i _ => l.length - (intOf i).toNat)
  case atStart => exact ⟨0, Nat.zero_le _, rfl, by rw [Nat.zero_mul, mixTo_zero]; exact ho, hb0⟩
  case round =>
    obtain ⟨k, hk, rfl, ho1, hb⟩ := hrel
    by_cases hlt : k < l.length
    · obtain ⟨b1, o1, rfl, hb1, hc1⟩ := hA (by omega)
      obtain ⟨c1, c2⟩ := hc1 k hlt
      rw [← hb.cell (p := ⟨b1, _, none⟩) hb1] at c1 c2
      clear hc1 hA
      go_wp2_with fail
      refine (toMove_any _ _ _).mono ?_
      rintro e w2 ⟨rfl, hb2⟩
      have ho2 := own_below ho1 hb2
      have hb3 := hb.trans (hb2.mono hb.size)
      have hml : (mixTo (cellsOf l) zs (k * 2)).length = l.length * 2 := by rw [mixTo_len _ _ _ (by rw [cellsOf_len, hzl.out]), hzl.out]
      obtain ⟨v0, e0⟩ := some_of_lt (mixTo (cellsOf l) zs (k * 2)) (k * 2) (by omega)
      obtain ⟨v1, e1⟩ := some_of_lt (mixTo (cellsOf l) zs (k * 2)) (k * 2 + 1) (by omega)
      have d0 := (ho2.cellAt (k * 2) (by omega)).trans e0
      have d1 := (ho2.cellAt (k * 2 + 1) (by omega)).trans e1
      have f0 := ho2.frozenAt (k * 2)
      have f1 := ho2.frozenAt (k * 2 + 1)
      obtain ⟨hs1, hs2⟩ := cellsOf_at l k hlt
      obtain ⟨ho3, hg3⟩ := ho2.stored (k * 2) (.int .i64 (prAt l k).1)
      rw [mixTo_set (by rw [cellsOf_len, hzl.out]) hs1] at ho3
      obtain ⟨ho4, hg4⟩ := ho3.stored (k * 2 + 1) (.int .i64 (prAt l k).2)
      rw [mixTo_set (by rw [cellsOf_len, hzl.out]) hs2, show k * 2 + 1 + 1 = (k + 1) * 2 from by omega] at ho4
      have hb5 : Below w.heap.size w _ := hb3.grown (grownBy_trans hg3 hg4) hb3.size (fun j hj => by injection hj with hj; omega)
      clear ho1 ho2 ho3 hg3 hg4 hb hb2 hb3 e0 e1 hs1 hs2 hml c1 c2
      go_wp2
      refine ⟨⟨k + 1, by omega, by go_num, ho4, hb5⟩, ?_⟩
      simp [intOf]; omega
    · have e : k = l.length := by omega
      subst e
      rw [mixTo_all _ _ _ (cellsOf_len l) hzl.out] at ho1
      go_wp2
      go_ret
      exact ⟨_, rfl, ho1, hb⟩



theorem eqMove_any (a b c d : Int) (w : World) :
    Calls Try.prog 91 #[.agg #[.int .i64 a, .int .i64 b], .agg #[.int .i64 c, .int .i64 d]] w
      fun e w' => e = .returned (.bool (prEq a b c d)) ∧ Below w.heap.size w w' := by
  have hend : Below w.heap.size w ((w.alloc (.cells #[.int .i64 a, .int .i64 b] 70)).alloc (.cells #[.int .i64 c, .int .i64 d] 70)) :=
    ((Below.refl _ _).alloc (Nat.le_refl _) _).alloc (by simp) _
  by_cases h1 : a = c
  · subst h1
    have k1 : (a != a) = false := by simp
    by_cases h2 : b = d
    · subst h2
      have k2 : (b != b) = false := by simp
      go_enter Try.func91, Try.ntmps91
      go_wp2
      go_ret
      exact ⟨bool_end (by simp [prEq]), hend⟩
    · have k2 : (b != d) = true := by simpa using h2
      go_enter Try.func91, Try.ntmps91
      go_wp2
      go_ret
      exact ⟨bool_end (by simp [prEq, h2]), hend⟩
  · have k1 : (a != c) = true := by simpa using h1
    go_enter Try.func91, Try.ntmps91
    go_wp2
    go_ret
    exact ⟨bool_end (by simp [prEq, h1]), hend⟩

set_option maxHeartbeats 400000 in
theorem eqMoveS_any (A B : Option Addr) (c d : Nat) (xs ys : List (Int × Int)) (w : World) (hx : PairsAt w A xs) (hy : PairsAt w B ys) (hlx : xs.length ≤ 9223372036854775807) :
    Calls Try.prog 58 #[.slice A xs.length c, .slice B ys.length d] w
      fun e w' => e = .returned (.bool (decide (xs = ys))) ∧ Below w.heap.size w w' := by
  by_cases hl : xs.length = ys.length
  · have k0 : ((xs.length : Int) != (ys.length : Int)) = false := by simp [hl]
    have HL := Lib.hid hl
    clear hl
    go_enter Try.func58, Try.ntmps58
    go_wp2
    go_loopw [5] (fun i wr => ∃ k : Nat, k ≤ xs.length ∧ i = .int .i64 k ∧ xs.take k = ys.take k ∧ Below w.heap.size w wr) (fun i _ => xs.length - (intOf i).toNat)
    case atStart => exact ⟨0, Nat.zero_le _, rfl, rfl, Below.refl _ _⟩
    case round =>
      obtain ⟨k, hk, rfl, ht, hb⟩ := hrel
      have HT := Lib.hid ht
      clear ht
      by_cases hlt : k < xs.length
      · obtain ⟨b1, o1, rfl, hb1, hc1⟩ := hx (by omega)
        obtain ⟨b2, o2, rfl, hb2, hc2⟩ := hy (by have := HL.out; omega)
        obtain ⟨c1, c2⟩ := hc1 k hlt
        obtain ⟨c3, c4⟩ := hc2 k (by have := HL.out; omega)
        rw [← hb.cell (p := ⟨b1, _, none⟩) hb1] at c1 c2
        rw [← hb.cell (p := ⟨b2, _, none⟩) hb2] at c3 c4
        have hlt2 : k < ys.length := by have := HL.out; omega
        clear hc1 hc2 hx hy
        have q1 := fun d os => cell_regrown c1 d os
        have q2 := fun d os => cell_regrown c2 d os
        have q3 := fun d os => cell_regrown c3 d os
        have q4 := fun d os => cell_regrown c4 d os
        by_cases he : prAt xs k = prAt ys k
        · have hq : prEq (prAt xs k).1 (prAt xs k).2 (prAt ys k).1 (prAt ys k).2 = true := by rw [prEq_of]; simp [he]
          have HE := Lib.hid he
          clear he
          go_wp2
          refine wp_region_quiet_below (by kernel_rfl) (by kernel_rfl) ?_
          repeat (any_goals (first | go_big_quiet_step ((go_at_call 91; exact Calls.regrown_of (eqMove_any _ _ _ _ _))) | quiet_step ((go_at_call 91; exact Calls.regrown_of (eqMove_any _ _ _ _ _)))))
          refine wpQuiet_nil ?_
          intro _ hw'
          obtain ⟨⟨dq, osq⟩, hw''⟩ := hw'
          subst hw''
          have hb3 := hb.trans ((below_regrown wr dq osq).mono hb.size)
          clear q1 q2 q3 q4 c1 c2 c3 c4
          generalize grow (redrawn wr dq) osq = w2 at *
          go_wp2
          go_roundw
          case rel => exact ⟨k + 1, by omega, by go_num, (take_next (0, 0) k hlt hlt2 HT.out).2 HE.out, hb3⟩
          case measure => simp [intOf]; omega
        · have hq : prEq (prAt xs k).1 (prAt xs k).2 (prAt ys k).1 (prAt ys k).2 = false := by rw [prEq_of]; simp [he]
          have HE := Lib.hid he
          clear he
          go_wp2
          refine wp_region_quiet_below (by kernel_rfl) (by kernel_rfl) ?_
          repeat (any_goals (first | go_big_quiet_step ((go_at_call 91; exact Calls.regrown_of (eqMove_any _ _ _ _ _))) | quiet_step ((go_at_call 91; exact Calls.regrown_of (eqMove_any _ _ _ _ _)))))
          refine wpQuiet_nil ?_
          intro _ hw'
          obtain ⟨⟨dq, osq⟩, hw''⟩ := hw'
          subst hw''
          have hb3 := hb.trans ((below_regrown wr dq osq).mono hb.size)
          clear q1 q2 q3 q4 c1 c2 c3 c4
          generalize grow (redrawn wr dq) osq = w2 at *
          go_wp2
          go_ret
          exact ⟨bool_end (differ_at k HE.out).symm, hb3⟩
      · go_wp2
        go_ret
        have e : k = xs.length := by omega
        subst e
        exact ⟨bool_end (same_all HL.out HT.out).symm, hb⟩
  · have k0 : ((xs.length : Int) != (ys.length : Int)) = true := by simp; omega
    have hf : decide (xs = ys) = false := by
      simp only [decide_eq_false_iff_not]
      intro e
      exact hl (by rw [e])
    have HF := Lib.hid hf
    clear hl hf
    go_enter Try.func58, Try.ntmps58
    go_wp2
    go_ret
    exact ⟨bool_end HF.out.symm, Below.refl _ _⟩

end Go.Proofs.Ytkhjdidcpoefdaa
end

section
namespace Go.Proofs.Ytkhjdidcpoefdaa
section
open Go.RowKit Go.Sort

def atomB (a : Int) : Bool := decide (0 ≤ a ∧ a ≤ 999)

end

section
open Go.RowKit Go.Sort

/-- What is asked of the pair at a place. -/
def okAt (l : List (Int × Int)) (i : Nat) : Bool :=
  atomB (prAt l i).1 && (atomB (prAt l i).2 && (decide ((prAt l i).1 ≠ (prAt l i).2) && (decide (i = 0) || decide ((prAt l (i - 1)).1 < (prAt l i).1))))

def orderB (l : List (Int × Int)) : Bool := (List.range l.length).all (okAt l)

end
end Go.Proofs.Ytkhjdidcpoefdaa
end

section
namespace Go.Proofs.Ytkhjdidcpoefdaa
open Go.RowKit Go.Sort

/-- Whether a list has a number. -/
def hasB (l : List Int) (a : Int) : Bool := l.contains a

set_option maxHeartbeats 400000 in
theorem l1Has_any (A : Option Addr) (c : Nat) (l : List Int) (a : Int) (w : World) (hA : IntsAt w A l) (hl : l.length ≤ 1099511627776) :
    Calls Try.prog 129 #[.slice A l.length c, .int .i64 a] w fun e w' => e = .returned (.bool (hasB l a)) ∧ w = w' := by
  go_enter Try.func129, Try.ntmps129
  go_wp2
  go_loop [5] (fun i => ∃ k : Nat, k ≤ l.length ∧ i = .int .i64 k ∧ Hid (∀ j, j < k → itAt l j ≠ a)) (fun i => l.length - (intOf i).toNat)
  case atStart => exact ⟨0, Nat.zero_le _, rfl, fun j hj => absurd hj (by omega)⟩
  case round =>
    obtain ⟨k, hk, rfl, hq⟩ := hrel
    by_cases hlt : k < l.length
    · obtain ⟨b1, o1, rfl, hb1, hc1⟩ := hA (by omega)
      have c1 := hc1 k hlt
      clear hc1 hA
      by_cases he : (itAt l k == a) = true
      · have hres : Hid (hasB l a = true) := by
          show hasB l a = true
          unfold hasB
          rw [List.contains_iff_mem]
          have e : itAt l k = a := by simpa using he
          rw [← e, itAt_get l k hlt]
          exact List.getElem_mem hlt
        generalize itAt l k = x at c1 he
        clear hq
        go_wp2
        go_ret
        exact ⟨bool_end hres.out.symm, rfl⟩
      · have he' : (itAt l k == a) = false := by simpa using he
        have hn : Hid (∀ j, j < k + 1 → itAt l j ≠ a) := by
          intro j hj
          by_cases e : j = k
          · rw [e]; simpa using he'
          · exact hq.out j (by omega)
        generalize itAt l k = x at c1 he he'
        clear hq he
        go_wp2
        go_round
        case rel => exact ⟨k + 1, by omega, by go_num, hn⟩
        case measure => simp [intOf]; omega
    · have hres : Hid (hasB l a = false) := by
        show hasB l a = false
        unfold hasB
        rw [← Bool.not_eq_true, List.contains_iff_mem]
        intro hmem
        obtain ⟨j, hj, e⟩ := List.getElem_of_mem hmem
        exact hq.out j (by omega) (by rw [itAt_get l j hj]; exact e)
      clear hq hA
      go_wp2
      go_ret
      exact ⟨bool_end hres.out.symm, rfl⟩

end Go.Proofs.Ytkhjdidcpoefdaa
end

section
namespace Go.Proofs.Ytkhjdidcpoefdaa
open Go.RowKit
set_option linter.unusedVariables false

end Go.Proofs.Ytkhjdidcpoefdaa
end

section
namespace Go.Proofs.Ytkhjdidcpoefdaa
open Go.RowKit Go.Sort

def froms (l : List (Int × Int)) : List Int := l.map (·.1)
def tos (l : List (Int × Int)) : List Int := l.map (·.2)

def goodAt (l : List (Int × Int)) (k : Nat) : Bool := (froms l).contains (prAt l k).2 && !((tos l).take k).contains (prAt l k).2

/-- Whether a list of pairs is a permutation. -/
def permB (l : List (Int × Int)) : Bool := decide (l.length ≤ 40) && (orderB l && (List.range l.length).all (goodAt l))

end Go.Proofs.Ytkhjdidcpoefdaa
end

section
namespace Go.Proofs.Ytkhjdidcpoefdaa
open Go.RowKit Go.Sort

end Go.Proofs.Ytkhjdidcpoefdaa
end

section
namespace Go.Proofs.Ytkhjdidcpoefdaa
open Go.RowKit Go.Sort

theorem int_infoM : (Try.prog.info? 3).map (fun i => (i.zero, i.size, i.bytes)) = some (some (.int .i64 0), 1, 8) := by kernel_rfl

theorem int_one (x : Int) : ∀ u ∈ [Value.int .i64 x], u.oneCell' = true := by
  intro u hu
  simp at hu
  subst hu
  rfl

theorem one_cell {w : World} {g : Nat} {u : Value} (h : w.cell? ⟨g, 0, none⟩ = some u) : ∀ j x, [u][j]? = some x → w.cell? ((⟨g, 0, none⟩ : Addr).add j) = some x := by
  intro j x hj
  cases j with
  | zero => simp at hj; subst hj; simpa [Addr.add] using h
  | succ j => simp at hj

end Go.Proofs.Ytkhjdidcpoefdaa
end

section
namespace Go.Proofs.Ytkhjdidcpoefdaa
open Go.RowKit Go.Sort

/-- A number is put into an ascending list, if it is not there. -/
def insL : List Int → Int → List Int
  | [], n => [n]
  | x :: r, n => if n < x then n :: x :: r else if n = x then x :: r else x :: insL r n

def AscP (l : List Int) : Prop := l.Pairwise (· < ·)

theorem mem_insL : ∀ (l : List Int) (n a : Int), a ∈ insL l n ↔ a = n ∨ a ∈ l
  | [], n, a => by simp [insL]
  | x :: r, n, a => by
    unfold insL
    split
    · simp
    · split
      · rename_i h; subst h; simp
      · simp only [List.mem_cons, mem_insL r n a]
        constructor
        · rintro (h | h | h)
          · exact .inr (.inl h)
          · exact .inl h
          · exact .inr (.inr h)
        · rintro (h | h | h)
          · exact .inr (.inl h)
          · exact .inl h
          · exact .inr (.inr h)

theorem asc_insL : ∀ (l : List Int) (n : Int), AscP l → AscP (insL l n)
  | [], n, _ => by simp [insL, AscP]
  | x :: r, n, h => by
    unfold AscP at h
    rw [List.pairwise_cons] at h
    unfold insL
    split
    · rename_i h1
      unfold AscP
      rw [List.pairwise_cons, List.pairwise_cons]
      refine ⟨fun a ha => ?_, h.1, h.2⟩
      rcases List.mem_cons.1 ha with e | e
      · rw [e]; exact h1
      · have := h.1 a e; omega
    · split
      · unfold AscP; rw [List.pairwise_cons]; exact h
      · rename_i h1 h2
        unfold AscP
        rw [List.pairwise_cons]
        refine ⟨fun a ha => ?_, asc_insL r n h.2⟩
        rcases (mem_insL r n a).1 ha with e | e
        · rw [e]; omega
        · exact h.1 a e

theorem insL_there : ∀ (l : List Int) (n : Int), AscP l → n ∈ l → insL l n = l
  | [], n, _, h => by simp at h
  | x :: r, n, h, hm => by
    unfold AscP at h
    rw [List.pairwise_cons] at h
    unfold insL
    rcases List.mem_cons.1 hm with e | e
    · rw [if_neg (by omega), if_pos e]
    · have h1 := h.1 n e
      rw [if_neg (by omega), if_neg (by omega), insL_there r n h.2 e]

theorem ins_eq : ∀ (l : List Int) (k : Nat) (n : Int), AscP l → k ≤ l.length → (∀ j, k ≤ j → j < l.length → n < itAt l j) → (k = 0 ∨ itAt l (k - 1) ≤ n) → n ∉ l → l.take k ++ n :: l.drop k = insL l n
  | [], k, n, _, hk, _, _, _ => by
    have e : k = 0 := by simpa using hk
    subst e
    rfl
  | x :: r, 0, n, _, _, h1, _, _ => by
    have h2 : n < x := h1 0 (Nat.le_refl _) (by simp)
    show n :: x :: r = insL (x :: r) n
    unfold insL
    rw [if_pos h2]
  | x :: r, k + 1, n, ha, hk, h1, h2, hn => by
    unfold AscP at ha
    rw [List.pairwise_cons] at ha
    have hk' : k ≤ r.length := by simpa using hk
    have hlast : itAt (x :: r) k ≤ n := by
      rcases h2 with h2 | h2
      · omega
      · exact h2
    have hx : x ≤ n := by
      cases k with
      | zero => exact hlast
      | succ k =>
        have h3 : k < r.length := by omega
        have h4 : itAt (x :: r) (k + 1) = r[k] := by simp [itAt, h3]
        have h5 := ha.1 r[k] (List.getElem_mem h3)
        omega
    have hne : n ≠ x := fun e => hn (by rw [e]; exact List.mem_cons_self)
    have ih := ins_eq r k n ha.2 hk' (fun j hj hl => h1 (j + 1) (by omega) (by simpa using hl)) (by
      cases k with
      | zero => exact .inl rfl
      | succ k => exact .inr hlast) (fun h => hn (List.mem_cons_of_mem _ h))
    show x :: (r.take k ++ n :: r.drop k) = insL (x :: r) n
    unfold insL
    rw [if_neg (by omega), if_neg hne, ih]

/-- Several numbers are put into an ascending list. -/
def insAll (acc xs : List Int) : List Int := xs.foldl insL acc

theorem asc_insAll (acc xs : List Int) (h : AscP acc) : AscP (insAll acc xs) := by
  unfold insAll
  induction xs generalizing acc with
  | nil => exact h
  | cons x r ih => exact ih _ (asc_insL acc x h)

theorem mem_insAll (acc xs : List Int) (a : Int) : a ∈ insAll acc xs ↔ a ∈ acc ∨ a ∈ xs := by
  unfold insAll
  induction xs generalizing acc with
  | nil => simp
  | cons x r ih =>
    rw [List.foldl_cons, ih, mem_insL, List.mem_cons]
    constructor
    · rintro ((h | h) | h)
      · exact .inr (.inl h)
      · exact .inl h
      · exact .inr (.inr h)
    · rintro (h | h | h)
      · exact .inl (.inr h)
      · exact .inl (.inl h)
      · exact .inr h

theorem ints_news {w : World} {a : Addr} {l : List Int} (h : IntsAt w (some a) l) : ∀ j u, (icells l)[j]? = some u → w.cell? (a.add j) = some u := by
  intro j u hj
  have hl : j < l.length := by
    rcases Nat.lt_or_ge j l.length with h1 | h1
    · exact h1
    · rw [List.getElem?_eq_none (by rw [icells_len]; exact h1)] at hj; cases hj
  obtain ⟨b, off, e, _, hc⟩ := h (by omega)
  injection e with e
  subst e
  rw [icells_at l j hl] at hj
  injection hj with hj
  subst hj
  have hadd : (⟨b, off, none⟩ : Addr).add j = ⟨b, off + j, none⟩ := by
    unfold Addr.add
    split
    · rename_i h0; rw [h0]; rfl
    · rfl
  rw [hadd]
  exact hc j hl

theorem icells_one (l : List Int) : ∀ u ∈ icells l, u.oneCell' = true := by
  intro u hu
  simp only [icells, List.mem_map] at hu
  obtain ⟨x, _, rfl⟩ := hu
  rfl

set_option maxHeartbeats 1000000 in
theorem l1Copy_any (a : Addr) (c : Nat) (l : List Int) (w : World) (hA : IntsAt w (some a) l) (hl : l.length ≤ 1099511627776) :
    Calls Try.prog 93 #[.slice (some a) l.length c] w (NewInts l w) := by
  obtain ⟨i0, hi0, hz0, hz1, hz2⟩ := info_parts int_infoM
  have HS := Lib.hid hz2
  clear hz2
  have hb : Below w.heap.size w (w.alloc (.cells #[] 3)) := (Below.refl _ _).alloc (Nat.le_refl _) _
  have HN := Lib.hid (ints_news (hA.below hb))
  have ho : (w.alloc (.cells #[] 3)).ownsRow w.heap.size 3 1 (.slice (some ⟨w.heap.size, 0, none⟩) 0 0) 0 [] := World.ownsRow_lit w #[] 0 (Nat.le_refl _) (by decide) rfl
  have HL := Lib.hid (icells_len l)
  go_enter Try.func93, Try.ntmps93
  go_wp2_with (at_builtin; refine wpList_append_own _ rfl (.tmp 3) (.tmp 4) 34 rfl w.heap.size 3 i0 (.int .i64 0) 1 8 Try.underlying34 hi0 hz0 hz1 HS.out rfl (by decide) _ 0 [] rfl ho a l.length c (icells l) rfl (by rw [HL.out, Nat.mul_one]) HN.out (icells_one l) ?c3 ?c4 ?c5 ?_)
  case c3 => unfold maxLen; omega
  case c4 => omega
  case c5 => simp
  intro v2 w2 ho3 hg _
  have hb4 : Below w.heap.size w w2 := below_own hb ho (Nat.le_refl _) (by simp) hg
  clear ho hg hb HN hA
  go_wp2
  go_ret
  exact ⟨_, rfl, ho3, hb4⟩

theorem IntsAt.take {w : World} {A : Option Addr} {l : List Int} (h : IntsAt w A l) (k : Nat) : IntsAt w A (l.take k) := by
  intro hp
  rw [List.length_take] at hp
  obtain ⟨b, off, rfl, hlt, hc⟩ := h (by omega)
  refine ⟨b, off, rfl, hlt, fun i hi => ?_⟩
  rw [List.length_take] at hi
  rw [hc i (by omega)]
  have : i < k := by omega
  simp [itAt, this]

theorem IntsAt.drop {w : World} {b off : Nat} {l : List Int} (h : IntsAt w (some ⟨b, off, none⟩) l) (k : Nat) : IntsAt w (some ⟨b, off + k, none⟩) (l.drop k) := by
  intro hp
  rw [List.length_drop] at hp
  obtain ⟨b', off', e, hlt, hc⟩ := h (by omega)
  simp only [Option.some.injEq, Addr.mk.injEq, and_true] at e
  obtain ⟨rfl, rfl⟩ := e
  refine ⟨b, off + k, rfl, hlt, fun i hi => ?_⟩
  rw [List.length_drop] at hi
  rw [Nat.add_assoc, hc (k + i) (by omega)]
  simp [itAt]

/-- A slice of the call's own that holds the numbers; of what was there nothing has turned. -/
def InsPost (base : Nat) (l : List Int) (w : World) (e : Ending) (w' : World) : Prop :=
  ∃ g cap, e = .returned (.slice (some ⟨g, 0, none⟩) l.length cap) ∧ w'.ownsRow base 3 1 (.slice (some ⟨g, 0, none⟩) l.length cap) l.length (icells l) ∧ Below w.heap.size w w'

theorem insPost_of {base : Nat} {l : List Int} {w w8 : World} {v8 : Value} (hb : base ≤ w.heap.size) (hp : 0 < l.length) (h : w8.ownsRow w.heap.size 3 1 v8 l.length (icells l)) (hbel : Below w.heap.size w w8) : InsPost base l w (.returned v8) w8 := by
  rcases h.2 with ⟨_, h0⟩ | ⟨g, cap, cur, rfl, _⟩
  · omega
  · exact ⟨g, cap, rfl, own_le h hb, hbel⟩

set_option maxRecDepth 100000 in
set_option maxHeartbeats 2000000 in
theorem l1Insert_any (base g cap : Nat) (l : List Int) (a : Int) (w : World) (hown : w.ownsRow base 3 1 (.slice (some ⟨g, 0, none⟩) l.length cap) l.length (icells l)) (hcap : l.length ≤ cap) (hl : l.length ≤ 1099511627776) (hasc : AscP l) :
    Calls Try.prog 119 #[.slice (some ⟨g, 0, none⟩) l.length cap, .int .i64 a] w (InsPost base (insL l a) w) := by
  obtain ⟨i0, hi0, hz0, hz1, hz2⟩ := info_parts int_infoM
  have HS := Lib.hid hz2
  clear hz2
  have hIA : IntsAt w (some ⟨g, 0, none⟩) l := by
    obtain ⟨A, c, e, h⟩ := own_intsAt hown
    simp only [Value.slice.injEq] at e
    rw [e.1]
    exact h
  have hh := l1Has_any (some ⟨g, 0, none⟩) cap l a w hIA hl
  by_cases hin : hasB l a = true
  · have hres : Hid (insL l a = l) := insL_there l a hasc (by unfold hasB at hin; exact List.contains_iff_mem.1 hin)
    rw [hin] at hh
    rw [hres.out]
    have hpost : InsPost base l w (.returned (.slice (some ⟨g, 0, none⟩) l.length cap)) w := ⟨g, cap, rfl, hown, Below.refl _ _⟩
    clear hin hasc hown hIA
    go_enter Try.func119, Try.ntmps119
    go_wp2_with fail
    refine hh.mono ?_
    rintro e w1 ⟨rfl, rfl⟩
    go_wp2
    go_ret
    exact hpost
  · have hin' : hasB l a = false := by simpa using hin
    have hni : Hid (a ∉ l) := fun h => by unfold hasB at hin'; rw [List.contains_iff_mem.2 h] at hin'; cases hin'
    have HA := Lib.hid hasc
    rw [hin'] at hh
    clear hin hin' hasc
    go_enter Try.func119, Try.ntmps119
    go_wp2_with fail
    refine hh.mono ?_
    rintro e w1 ⟨rfl, rfl⟩
    clear hh
    go_wp2
    go_loop [5] (fun i => ∃ k : Nat, k ≤ l.length ∧ i = .int .i64 k ∧ Hid (∀ j, k ≤ j → j < l.length → a < itAt l j)) (fun i => (intOf i).toNat)
    case atStart => exact ⟨l.length, Nat.le_refl _, rfl, fun j h1 h2 => absurd h1 (by omega)⟩
    case round =>
      obtain ⟨k, hk, rfl, hq⟩ := hrel
      by_cases hz : k = 0
      · subst hz
        have hfin : Hid (l.take 0 ++ a :: l.drop 0 = insL l a) := ins_eq l 0 a HA.out hk hq.out (.inl rfl) hni.out
        have ek : (l.take 0).length = 0 := by rw [List.length_take]; omega
        have hcp := l1Copy_any ⟨g, 0, none⟩ cap (l.take 0) w (hIA.take 0) (by omega)
        rw [ek] at hcp
        have EK := Lib.hid ek
        have hd0 := hIA.drop 0
        rw [Nat.zero_add] at hd0
        have HD := Lib.hid hd0
        have hgs : g < w.heap.size := (hown.lt g rfl).2
        have hbase : base ≤ g := (hown.lt g rfl).1
        have hlen : Hid ((insL l a).length = 0 + 1 + (l.length - 0)) := by
          show (insL l a).length = 0 + 1 + (l.length - 0)
          rw [← hfin.out]
          simp only [List.length_append, List.length_cons, List.length_take, List.length_drop]
          omega
        clear ek hq hown hIA hd0
        go_wp2_with fail
        refine hcp.mono ?_
        rintro e w6 ⟨v6, rfl, ho6, hb6⟩
        rw [EK.out] at ho6
        have hs6 := hb6.size
        have ho6b := ho6.alloc (.cells #[.int .i64 a] 3)
        have hb6b := hb6.alloc hb6.size (.cells #[.int .i64 a] 3)
        have hcell : (w6.alloc (.cells #[.int .i64 a] 3)).cell? ⟨w6.heap.size, 0, none⟩ = some (.int .i64 a) := by simp
        have HC := Lib.hid (one_cell hcell)
        clear hcell hcp ho6
        go_wp2_with (at_builtin; refine wpList_append_own _ rfl (.tmp 29) (.tmp 31) 34 rfl w.heap.size 3 i0 (.int .i64 0) 1 8 Try.underlying34 hi0 hz0 hz1 HS.out rfl (by decide) _ 0 _ rfl ho6b ⟨w6.heap.size, 0, none⟩ 1 1 [.int .i64 a] rfl rfl HC.out (int_one _) ?c3 ?c4 ?c5 ?_)
        case c3 => unfold maxLen; omega
        case c4 => omega
        case c5 => simp; omega
        intro v7 w7 ho7 hg7 _
        have hb7 : Below w.heap.size w w7 := below_own hb6b ho6b (Nat.le_refl _) (by simp; omega) hg7
        have HN := Lib.hid (ints_news (HD.out.below hb7))
        have HL := Lib.hid (show (icells (l.drop 0)).length = (l.length - 0) * 1 by rw [icells_len, List.length_drop, Nat.mul_one])
        have hs7 := hb7.size
        clear ho6b hg7 hb6 hb6b HC
        by_cases hck : cap = 0
        · have hnil : l.length - 0 = 0 := by omega
          have hdn : Hid (l.drop 0 = []) := List.drop_of_length_le (by omega)
          subst hck
          go_wp2_with (at_builtin; refine wpList_append_own _ rfl (.tmp 33) (.tmp 36) 34 rfl w.heap.size 3 i0 (.int .i64 0) 1 8 Try.underlying34 hi0 hz0 hz1 HS.out rfl (by decide) _ (0 + 1) _ rfl ho7 ⟨g, 0, none⟩ _ _ [] rfl ?d2 ?d3 ?d4 ?d5 ?d6 ?d7 ?_)
          case d2 => simp; try omega
          case d3 => intro j u hj; simp at hj
          case d4 => intro u hu; simp at hu
          case d5 => unfold maxLen; omega
          case d6 => omega
          case d7 => omega
          intro v8 w8 ho8 hg8 _
          have ho9 : w8.ownsRow w.heap.size 3 1 v8 (insL l a).length (icells (insL l a)) := by
            rw [hlen.out, ← hfin.out]
            rw [hdn.out]; simpa [icells, hnil] using ho8
          have hb9 : Below w.heap.size w w8 := below_own hb7 ho7 (Nat.le_refl _) hs7 hg8
          have hpost := insPost_of (base := base) (by omega) (by rw [hlen.out]; omega) ho9 hb9
          clear ho8 hg8 ho9 hb9 ho7 hb7 HN HL hlen hfin
          go_wp2
          go_ret
          exact hpost
        · go_wp2_with (at_builtin; refine wpList_append_own _ rfl (.tmp 33) (.tmp 36) 34 rfl w.heap.size 3 i0 (.int .i64 0) 1 8 Try.underlying34 hi0 hz0 hz1 HS.out rfl (by decide) _ (0 + 1) _ rfl ho7 ⟨g, 0, none⟩ (l.length - 0) (cap - 0) (icells (l.drop 0)) rfl HL.out HN.out (icells_one _) ?d3 ?d4 ?d5 ?_)
          case d3 => unfold maxLen; omega
          case d4 => omega
          case d5 => omega
          intro v8 w8 ho8 hg8 _
          have ho9 : w8.ownsRow w.heap.size 3 1 v8 (insL l a).length (icells (insL l a)) := by
            rw [hlen.out, ← hfin.out]
            simpa [icells] using ho8
          have hb9 : Below w.heap.size w w8 := below_own hb7 ho7 (Nat.le_refl _) hs7 hg8
          have hpost := insPost_of (base := base) (by omega) (by rw [hlen.out]; omega) ho9 hb9
          clear ho8 hg8 ho9 hb9 ho7 hb7 HN HL hlen hfin
          go_wp2
          go_ret
          exact hpost
      · obtain ⟨j, rfl⟩ : ∃ j, k = j + 1 := ⟨k - 1, by omega⟩
        have c1 := (hown.cellAt j (by omega)).trans (icells_at l j (by omega))
        by_cases hgt : a < itAt l j
        · have hn : Hid (∀ q, j ≤ q → q < l.length → a < itAt l q) := by
            intro q h1 h2
            by_cases e : q = j
            · rw [e]; exact hgt
            · exact hq.out q (by omega) h2
          generalize itAt l j = x at c1 hgt
          clear hq hown hIA hz
          go_wp2_with fail
          refine ⟨⟨j, by omega, by go_num, hn⟩, ?_⟩
          simp only [intOf]
          omega
        · have hle : itAt l j ≤ a := by omega
          have hfin : Hid (l.take (j + 1) ++ a :: l.drop (j + 1) = insL l a) := ins_eq l (j + 1) a HA.out hk hq.out (.inr hle) hni.out
          generalize itAt l j = x at c1 hle hgt
          have ek : (l.take (j + 1)).length = (j + 1) := by rw [List.length_take]; omega
          have hcp := l1Copy_any ⟨g, 0, none⟩ cap (l.take (j + 1)) w (hIA.take (j + 1)) (by omega)
          rw [ek] at hcp
          have EK := Lib.hid ek
          have hd0 := hIA.drop (j + 1)
          rw [Nat.zero_add] at hd0
          have HD := Lib.hid hd0
          have hgs : g < w.heap.size := (hown.lt g rfl).2
          have hbase : base ≤ g := (hown.lt g rfl).1
          have hlen : Hid ((insL l a).length = (j + 1) + 1 + (l.length - (j + 1))) := by
            show (insL l a).length = (j + 1) + 1 + (l.length - (j + 1))
            rw [← hfin.out]
            simp only [List.length_append, List.length_cons, List.length_take, List.length_drop]
            omega
          clear ek hq hown hIA hd0 hgt hz
          go_wp2_with fail
          refine hcp.mono ?_
          rintro e w6 ⟨v6, rfl, ho6, hb6⟩
          rw [EK.out] at ho6
          have hs6 := hb6.size
          have ho6b := ho6.alloc (.cells #[.int .i64 a] 3)
          have hb6b := hb6.alloc hb6.size (.cells #[.int .i64 a] 3)
          have hcell : (w6.alloc (.cells #[.int .i64 a] 3)).cell? ⟨w6.heap.size, 0, none⟩ = some (.int .i64 a) := by simp
          have HC := Lib.hid (one_cell hcell)
          clear hcell hcp ho6
          go_wp2_with (at_builtin; refine wpList_append_own _ rfl (.tmp 29) (.tmp 31) 34 rfl w.heap.size 3 i0 (.int .i64 0) 1 8 Try.underlying34 hi0 hz0 hz1 HS.out rfl (by decide) _ (j + 1) _ rfl ho6b ⟨w6.heap.size, 0, none⟩ 1 1 [.int .i64 a] rfl rfl HC.out (int_one _) ?c3 ?c4 ?c5 ?_)
          case c3 => unfold maxLen; omega
          case c4 => omega
          case c5 => simp; omega
          intro v7 w7 ho7 hg7 _
          have hb7 : Below w.heap.size w w7 := below_own hb6b ho6b (Nat.le_refl _) (by simp; omega) hg7
          have HN := Lib.hid (ints_news (HD.out.below hb7))
          have HL := Lib.hid (show (icells (l.drop (j + 1))).length = (l.length - (j + 1)) * 1 by rw [icells_len, List.length_drop, Nat.mul_one])
          have hs7 := hb7.size
          clear ho6b hg7 hb6 hb6b HC
          by_cases hck : cap = (j + 1)
          · have hnil : l.length - (j + 1) = 0 := by omega
            have hdn : Hid (l.drop (j + 1) = []) := List.drop_of_length_le (by omega)
            subst hck
            go_wp2_with (at_builtin; refine wpList_append_own _ rfl (.tmp 33) (.tmp 36) 34 rfl w.heap.size 3 i0 (.int .i64 0) 1 8 Try.underlying34 hi0 hz0 hz1 HS.out rfl (by decide) _ ((j + 1) + 1) _ rfl ho7 ⟨g, 0, none⟩ _ _ [] rfl ?d2 ?d3 ?d4 ?d5 ?d6 ?d7 ?_)
            case d2 => simp; try omega
            case d3 => intro j u hj; simp at hj
            case d4 => intro u hu; simp at hu
            case d5 => unfold maxLen; omega
            case d6 => omega
            case d7 => omega
            intro v8 w8 ho8 hg8 _
            have ho9 : w8.ownsRow w.heap.size 3 1 v8 (insL l a).length (icells (insL l a)) := by
              rw [hlen.out, ← hfin.out]
              rw [hdn.out]; simpa [icells, hnil] using ho8
            have hb9 : Below w.heap.size w w8 := below_own hb7 ho7 (Nat.le_refl _) hs7 hg8
            have hpost := insPost_of (base := base) (by omega) (by rw [hlen.out]; omega) ho9 hb9
            clear ho8 hg8 ho9 hb9 ho7 hb7 HN HL hlen hfin
            go_wp2
            go_ret
            exact hpost
          · go_wp2_with (at_builtin; refine wpList_append_own _ rfl (.tmp 33) (.tmp 36) 34 rfl w.heap.size 3 i0 (.int .i64 0) 1 8 Try.underlying34 hi0 hz0 hz1 HS.out rfl (by decide) _ ((j + 1) + 1) _ rfl ho7 ⟨g, (j + 1), none⟩ (l.length - (j + 1)) (cap - (j + 1)) (icells (l.drop (j + 1))) rfl HL.out HN.out (icells_one _) ?d3 ?d4 ?d5 ?_)
            case d3 => unfold maxLen; omega
            case d4 => omega
            case d5 => omega
            intro v8 w8 ho8 hg8 _
            have ho9 : w8.ownsRow w.heap.size 3 1 v8 (insL l a).length (icells (insL l a)) := by
              rw [hlen.out, ← hfin.out]
              simpa [icells] using ho8
            have hb9 : Below w.heap.size w w8 := below_own hb7 ho7 (Nat.le_refl _) hs7 hg8
            have hpost := insPost_of (base := base) (by omega) (by rw [hlen.out]; omega) ho9 hb9
            clear ho8 hg8 ho9 hb9 ho7 hb7 HN HL hlen hfin
            go_wp2
            go_ret
            exact hpost

end Go.Proofs.Ytkhjdidcpoefdaa
end

section
namespace Go.Proofs.Ytkhjdidcpoefdaa
open Go.RowKit Go.Sort

end Go.Proofs.Ytkhjdidcpoefdaa
end

section
namespace Go.Proofs.Ytkhjdidcpoefdaa
open Go.RowKit
set_option linter.unusedVariables false

/-- The number that one more atom gets. -/
def newN (k : Int) (p : List Int) : Int := p.foldl (fun m n => max m (n + 1)) k
theorem newN_next {k : Int} {p : List Int} {i : Nat} (h : i < p.length) : newN k (p.take (i + 1)) = max (newN k (p.take i)) (itAt p i + 1) := by
  rw [itake_next h]
  unfold newN
  rw [List.foldl_append]
  rfl
theorem newN_ge (k : Int) (p : List Int) : k ≤ newN k p := by
  unfold newN
  induction p generalizing k with
  | nil => exact Int.le_refl _
  | cons a r ih => rw [List.foldl_cons]; have := ih (max k (a + 1)); omega
theorem newN_snoc (k : Int) (p : List Int) (n : Int) : newN k (p ++ [n]) = max (newN k p) (n + 1) := by
  unfold newN
  rw [List.foldl_append]
  rfl
theorem newN_bound {k B : Int} : ∀ {p : List Int}, k ≤ B → (∀ i, i < p.length → itAt p i < B) → newN k p ≤ B
  | [], h, _ => h
  | a :: r, h, hp => by
    have h0 := hp 0 (by simp)
    have h1 : itAt (a :: r) 0 = a := rfl
    rw [h1] at h0
    show newN (max k (a + 1)) r ≤ B
    exact newN_bound (by omega) fun i hi => hp (i + 1) (by simpa using hi)

def isPatB (k : Int) (p : List Int) : Bool := (List.range p.length).all fun i => decide (0 ≤ itAt p i) && decide (itAt p i ≤ newN k (p.take i))
theorem isPat_yes {k : Int} {p : List Int} (h : ∀ i, i < p.length → 0 ≤ itAt p i ∧ itAt p i ≤ newN k (p.take i)) : isPatB k p = true := by
  unfold isPatB
  rw [List.all_eq_true]
  intro i hi
  simp only [Bool.and_eq_true, decide_eq_true_eq]
  exact h i (List.mem_range.1 hi)
theorem isPat_at {k : Int} {p : List Int} (h : isPatB k p = true) {i : Nat} (hi : i < p.length) : 0 ≤ itAt p i ∧ itAt p i ≤ newN k (p.take i) := by
  unfold isPatB at h
  rw [List.all_eq_true] at h
  have := h i (List.mem_range.2 hi)
  simpa only [Bool.and_eq_true, decide_eq_true_eq] using this
theorem newN_le {k : Int} {p : List Int} : ∀ {i : Nat}, i ≤ p.length → (∀ j, j < i → itAt p j ≤ newN k (p.take j)) → newN k (p.take i) ≤ k + i
  | 0, _, _ => by simp [newN]
  | i + 1, hi, h => by
    rw [newN_next (by omega)]
    have h1 := newN_le (i := i) (by omega) fun j hj => h j (by omega)
    have h2 := h i (by omega)
    omega
theorem newN_pat {k : Int} {p : List Int} (h : isPatB k p = true) : newN k p ≤ k + p.length := by
  have := newN_le (k := k) (p := p) (i := p.length) (Nat.le_refl _) fun j hj => (isPat_at h hj).2
  rwa [List.take_length] at this

theorem itAt_snoc_lt {p : List Int} {n : Int} {i : Nat} (h : i < p.length) : itAt (p ++ [n]) i = itAt p i := by
  rw [itAt_get _ _ (by simp; omega), itAt_get _ _ h, List.getElem_append_left h]
theorem itAt_snoc_eq (p : List Int) (n : Int) : itAt (p ++ [n]) p.length = n := by
  rw [itAt_get _ _ (by simp), List.getElem_append_right (Nat.le_refl _)]
  simp
theorem isPat_snoc {k : Int} {p : List Int} {n : Int} : isPatB k (p ++ [n]) = true ↔ isPatB k p = true ∧ 0 ≤ n ∧ n ≤ newN k p := by
  constructor
  · intro h
    refine ⟨isPat_yes fun i hi => ?_, ?_⟩
    · have h1 := isPat_at h (i := i) (by simp; omega)
      rw [itAt_snoc_lt hi, List.take_append_of_le_length (by omega)] at h1
      exact h1
    · have h1 := isPat_at h (i := p.length) (by simp)
      rw [itAt_snoc_eq, List.take_append_of_le_length (Nat.le_refl _), List.take_length] at h1
      exact h1
  · rintro ⟨h, h0, h1⟩
    refine isPat_yes fun i hi => ?_
    rcases Nat.lt_or_ge i p.length with h2 | h2
    · rw [itAt_snoc_lt h2, List.take_append_of_le_length (by omega)]
      exact isPat_at h h2
    · have e : i = p.length := by simp at hi; omega
      subst e
      rw [itAt_snoc_eq, List.take_append_of_le_length (Nat.le_refl _), List.take_length]
      exact ⟨h0, h1⟩

/-- The patterns that go on from one. -/
def extP (k : Int) (p : List Int) : List (List Int) := (List.range (newN k p + 1).toNat).map fun n : Nat => p ++ [(n : Int)]
/-- All patterns of a width. -/
def allP : Nat → Int → List (List Int)
  | 0, _ => [[]]
  | w + 1, k => (allP w k).flatMap (extP k)

theorem mem_allP {k : Int} (hk : 0 ≤ k) : ∀ {w : Nat} {p : List Int}, p ∈ allP w k ↔ p.length = w ∧ isPatB k p = true
  | 0, p => by
    rw [allP, List.mem_singleton]
    constructor
    · rintro rfl; exact ⟨rfl, rfl⟩
    · rintro ⟨h, _⟩; exact List.eq_nil_of_length_eq_zero h
  | w + 1, p => by
    rw [allP, List.mem_flatMap]
    constructor
    · rintro ⟨q, hq, hp⟩
      obtain ⟨h1, h2⟩ := (mem_allP hk).1 hq
      unfold extP at hp
      rw [List.mem_map] at hp
      obtain ⟨n, hn, rfl⟩ := hp
      rw [List.mem_range] at hn
      refine ⟨by simp [h1], isPat_snoc.2 ⟨h2, by omega, by omega⟩⟩
    · rintro ⟨h1, h2⟩
      have hne : p ≠ [] := fun e => by rw [e] at h1; simp at h1
      have e := List.dropLast_concat_getLast hne
      rw [← e] at h2
      obtain ⟨h3, h4, h5⟩ := isPat_snoc.1 h2
      refine ⟨p.dropLast, (mem_allP hk).2 ⟨by simp [h1], h3⟩, ?_⟩
      unfold extP
      rw [List.mem_map]
      refine ⟨(p.getLast hne).toNat, List.mem_range.2 (by omega), ?_⟩
      rw [show (((p.getLast hne).toNat : Nat) : Int) = p.getLast hne by omega]
      exact e
theorem extP_len (k : Int) (p : List Int) : (extP k p).length = (newN k p + 1).toNat := by simp [extP]
theorem flat_len {α β : Type} {f : α → List β} {B : Nat} : ∀ {l : List α}, (∀ a ∈ l, (f a).length ≤ B) → (l.flatMap f).length ≤ l.length * B
  | [], _ => by simp
  | a :: r, h => by
    rw [List.flatMap_cons, List.length_append, List.length_cons, Nat.succ_mul]
    have h1 := h a List.mem_cons_self
    have h2 := flat_len (l := r) fun b hb => h b (List.mem_cons_of_mem _ hb)
    omega
theorem allP_len {k : Int} (hk : 0 ≤ k) (hk3 : k ≤ 3) : ∀ {w : Nat}, w ≤ 4 → (allP w k).length ≤ 8 ^ w
  | 0, _ => by simp [allP]
  | w + 1, h => by
    rw [allP, Nat.pow_succ]
    have h1 := allP_len hk hk3 (w := w) (by omega)
    have h2 : ((allP w k).flatMap (extP k)).length ≤ (allP w k).length * 8 := flat_len fun p hp => by
      obtain ⟨h3, h4⟩ := (mem_allP hk).1 hp
      have := newN_pat h4
      rw [extP_len]
      omega
    exact Nat.le_trans h2 (Nat.mul_le_mul_right _ h1)
theorem allP_4096 {k : Int} (hk : 0 ≤ k) (hk3 : k ≤ 3) {w : Nat} (hw : w ≤ 4) : (allP w k).length ≤ 4096 := by
  have h1 := allP_len hk hk3 hw
  have h2 : 8 ^ w ≤ 8 ^ 4 := Nat.pow_le_pow_right (by decide) hw
  omega
theorem allP_row {k : Int} (hk : 0 ≤ k) {w : Nat} {i : Nat} (hi : i < (allP w k).length) : (rwAt (allP w k) i).length = w ∧ isPatB k (rwAt (allP w k) i) = true :=
  (mem_allP hk).1 (by rw [rwAt_get _ _ hi]; exact List.getElem_mem hi)
theorem flat_next {k : Int} {ls : List (List Int)} {j : Nat} (h : j < ls.length) : (ls.take (j + 1)).flatMap (extP k) = (ls.take j).flatMap (extP k) ++ extP k (rwAt ls j) := by
  rw [rw_take_next h, List.flatMap_append]
  simp
theorem flat_take_len {k : Int} (ls : List (List Int)) (j : Nat) : ((ls.take j).flatMap (extP k)).length ≤ (ls.flatMap (extP k)).length := by
  have h : ls.flatMap (extP k) = (ls.take j).flatMap (extP k) ++ (ls.drop j).flatMap (extP k) := by rw [← List.flatMap_append, List.take_append_drop]
  rw [h, List.length_append]
  omega
/-- The first so many that go on from one. -/
def extTo (p : List Int) (n : Nat) : List (List Int) := (List.range n).map fun i : Nat => p ++ [(i : Int)]
theorem extTo_next (p : List Int) (n : Nat) : extTo p (n + 1) = extTo p n ++ [p ++ [(n : Int)]] := by simp [extTo, List.range_succ]
theorem extTo_all (k : Int) (p : List Int) : extTo p (newN k p + 1).toNat = extP k p := rfl
theorem extTo_len (p : List Int) (n : Nat) : (extTo p n).length = n := by simp [extTo]

end Go.Proofs.Ytkhjdidcpoefdaa
end

section
namespace Go.Proofs.Ytkhjdidcpoefdaa
section
open Go.RowKit

def shapeB (t : Tm) : Bool :=
  if t.op = 1 then atomB t.num && (decide (t.perm.length = 0) && decide (t.kids.length = 0))
  else if t.op = 2 then decide (0 ≤ t.num ∧ t.num ≤ 11) && (decide (t.perm.length = 0) && decide ((t.kids.length : Int) = t.num % 4))
  else if t.op = 3 then atomB t.num && (decide (t.perm.length = 0) && decide (t.kids.length = 1))
  else if t.op = 4 then decide (0 ≤ t.num ∧ t.num ≤ 9) && (permB t.perm && decide (t.kids.length = 0))
  else false

mutual
/-- Right, however great. -/
def goodT : Tm → Bool
  | .mk o n p ks => shapeB (.mk o n p ks) && goodTs ks
def goodTs : List Tm → Bool
  | [] => true
  | t :: r => goodT t && goodTs r
end

end

section
open Go.RowKit

mutual
def nodesT : Tm → List Tm
  | .mk o n p ks => .mk o n p ks :: nodesTs ks
def nodesTs : List Tm → List Tm
  | [] => []
  | t :: r => nodesT t ++ nodesTs r
end

/-- What is known while the terms within t are gone through: i of F have been looked at. -/
structure Walk (t : Tm) (F : List Tm) (i : Nat) : Prop where
  le : i ≤ F.length
  most : F.length ≤ 60
  good : goodT t = goodTs (F.drop i)
  size : szT t = i + szTs (F.drop i)
  mem : ∀ y, y ∈ nodesT t ↔ y ∈ F.take i ∨ y ∈ nodesTs (F.drop i)

end
end Go.Proofs.Ytkhjdidcpoefdaa
end

section
namespace Go.Proofs.Ytkhjdidcpoefdaa
open Go.RowKit Go.Sort
set_option linter.unusedVariables false

end Go.Proofs.Ytkhjdidcpoefdaa
end

section
namespace Go.Proofs.Ytkhjdidcpoefdaa
open Go.RowKit Go.Sort

/-- The least atom that is not in a list; -1: there is none. -/
def leastF (l : List Int) : Int := match (List.range 1000).find? (fun a : Nat => !hasB l (a : Int)) with
  | some a => a
  | none => -1

theorem leastF_at {l : List Int} {a : Nat} (ha : a < 1000) (hn : hasB l (a : Int) = false) (hb : ∀ b : Nat, b < a → hasB l (b : Int) = true) : leastF l = a := by
  have h : (List.range 1000).find? (fun a : Nat => !hasB l (a : Int)) = some a := by
    rw [List.find?_range_eq_some]
    refine ⟨by simp [hn], by simpa using ha, fun j hj => ?_⟩
    simp [hb j hj]
  unfold leastF
  rw [h]

theorem leastF_none {l : List Int} (hb : ∀ b : Nat, b < 1000 → hasB l (b : Int) = true) : leastF l = -1 := by
  have h : (List.range 1000).find? (fun a : Nat => !hasB l (a : Int)) = none := by
    rw [List.find?_eq_none]
    intro x hx
    rw [hb x (List.mem_range.1 hx)]
    simp
  unfold leastF
  rw [h]

theorem leastF_cases (l : List Int) : (leastF l = -1 ∧ ∀ b : Nat, b < 1000 → hasB l (b : Int) = true) ∨ ∃ a : Nat, a < 1000 ∧ leastF l = a ∧ hasB l (a : Int) = false ∧ ∀ b : Nat, b < a → hasB l (b : Int) = true := by
  rcases h : (List.range 1000).find? (fun a : Nat => !hasB l (a : Int)) with _ | a
  · left
    refine ⟨by unfold leastF; rw [h], fun b hb => ?_⟩
    rw [List.find?_eq_none] at h
    simpa using h b (List.mem_range.2 hb)
  · right
    have h' := h
    rw [List.find?_range_eq_some] at h'
    refine ⟨a, by simpa using h'.2.1, by unfold leastF; rw [h], by simpa using h'.1, fun b hb => by simpa using h'.2.2 b hb⟩

end Go.Proofs.Ytkhjdidcpoefdaa
end

section
namespace Go.Proofs.Ytkhjdidcpoefdaa
open Go.RowKit Go.Sort

set_option maxRecDepth 100000 in
set_option maxHeartbeats 400000 in
theorem least_spec (A : Option Addr) (c : Nat) (l : List Int) (w : World) (hA : IntsAt w A l) (hl : l.length ≤ 1099511627776) :
    Calls Try.prog 120 #[.slice A l.length c] w fun e w' => e = .returned (.int .i64 (leastF l)) ∧ w = w' := by
  go_enter Try.func120, Try.ntmps120
  go_wp2
  go_loop [3] (fun i => ∃ a : Nat, a ≤ 1000 ∧ i = .int .i64 a ∧ Hid (∀ b : Nat, b < a → hasB l (b : Int) = true)) (fun i => 1000 - (intOf i).toNat)
  case atStart => exact ⟨0, Nat.zero_le _, rfl, fun b hb => absurd hb (by omega)⟩
  case round =>
    obtain ⟨a, ha, rfl, hq⟩ := hrel
    by_cases hlt : a < 1000
    · have hh := l1Has_any A c l a w hA hl
      by_cases hin : hasB l (a : Int) = true
      · have hn : Hid (∀ b : Nat, b < a + 1 → hasB l (b : Int) = true) := by
          intro b hb'
          by_cases e : b = a
          · rw [e]; exact hin
          · exact hq.out b (by omega)
        rw [hin] at hh
        clear hin hq
        go_wp2_with (go_at_call 129; refine hh.mono ?_; rintro e w' ⟨rfl, rfl⟩)
        go_round
        case rel => exact ⟨a + 1, by omega, by go_num, hn⟩
        case measure => simp [intOf]; omega
      · have hin' : hasB l (a : Int) = false := by simpa using hin
        have hn : Hid (leastF l = a) := leastF_at hlt hin' hq.out
        rw [hin'] at hh
        clear hin hin' hq
        go_wp2_with (go_at_call 129; refine hh.mono ?_; rintro e w' ⟨rfl, rfl⟩)
        go_ret
        exact ⟨int_end hn.out.symm, rfl⟩
    · have hn : Hid (leastF l = -1) := leastF_none fun b hb' => hq.out b (by omega)
      clear hq
      go_wp2
      go_ret
      exact ⟨int_end hn.out.symm, rfl⟩

end Go.Proofs.Ytkhjdidcpoefdaa
end

