/-
  The laws' own comparison of two lists of pairs, as a contract.
-/
import Derived.Test.YtddmoempagcjeaaBase
import Derived.Laws.StructEq
namespace Go.Proofs.Ytddmoempagcjeaa
open Go.RowKit Go.Sort

theorem eqP (x y : Int × Int) (w : World) : (Op.equalIn 10000 81 (.agg #[.int .i64 x.1, .int .i64 x.2]) (.agg #[.int .i64 y.1, .int .i64 y.2])).run Try.prog w = .ok (decide (x = y)) w := by
  have u3 := Try.underlying3
  have a3 := Try.isAgg3
  have z3 := Try.sizeOf3
  have hS : Try.prog.underlying 81 = some (.struct (Try.prog.fieldsOf 81)) := by kernel_rfl
  have hp : Try.prog.stoodInHeld 81 = false := by kernel_rfl
  rw [show (10000 : Nat) = 9999 + 1 from rfl, run_equalIn_agg w 9999 81 _ _ hS hp]
  simp only [Program.fieldsOf, Try.underlying81]
  go_simp
  obtain ⟨a, b⟩ := x
  obtain ⟨c, d⟩ := y
  by_cases h1 : a = c <;> by_cases h2 : b = d <;> simp [h1, h2]

theorem neqP_same (x y : Int × Int) (w : World) (h : x = y) : (binOp .neq 81 (.agg #[.int .i64 x.1, .int .i64 x.2]) (.agg #[.int .i64 y.1, .int .i64 y.2])).run Try.prog w = .ok (.bool false) w := by
  rw [run_neq_struct, eqP]
  simp [h]

theorem neqP_other (x y : Int × Int) (w : World) (h : ¬ x = y) : (binOp .neq 81 (.agg #[.int .i64 x.1, .int .i64 x.2]) (.agg #[.int .i64 y.1, .int .i64 y.2])).run Try.prog w = .ok (.bool true) w := by
  rw [run_neq_struct, eqP]
  simp [h]

theorem guardP (x y : Int × Int) (w : World) (op : BinOp) (a b : Operand) : (eqGuard op 81 a b (.agg #[.int .i64 x.1, .int .i64 x.2]) (.agg #[.int .i64 y.1, .int .i64 y.2])).run Try.prog w = .ok () w :=
  run_eqGuard_agg w op 81 a b _ _ (by kernel_rfl)

set_option maxRecDepth 100000 in
set_option maxHeartbeats 1000000 in
theorem lawPairs_any (A B : Option Addr) (c d : Nat) (xs ys : List (Int × Int)) (w : World) (hx : PairsAt w A xs) (hy : PairsAt w B ys) (hlx : xs.length ≤ 9223372036854775807) :
    Calls Try.prog 22 #[.slice A xs.length c, .slice B ys.length d] w
      fun e w' => e = .returned (.bool (decide (xs = ys))) ∧ Below w.heap.size w w' := by
  by_cases hl : xs.length = ys.length
  · have k0 : ((xs.length : Int) != (ys.length : Int)) = false := by simp [hl]
    have HL := Lib.hid hl
    clear hl
    go_enter Try.func22, Try.ntmps22
    go_wp2
    go_loopw [5] (fun i wr => ∃ k : Nat, k ≤ xs.length ∧ i = .int .i64 k ∧ xs.take k = ys.take k ∧ Below w.heap.size w wr) (fun i _ => xs.length - (intOf i).toNat)
    case atStart => exact ⟨0, Nat.zero_le _, rfl, rfl, Below.refl _ _⟩
    case round =>
      obtain ⟨k, hk, rfl, ht, hb⟩ := hrel
      have HT := Lib.hid ht
      clear ht
      by_cases hlt : k < xs.length
      · obtain ⟨b1, o1, rfl, hb1, hc1⟩ := hx (by omega)
        obtain ⟨b2, o2, rfl, hb2, hc2⟩ := hy (by have := HL.out; omega)
        obtain ⟨c1, c2⟩ := hc1 k hlt
        obtain ⟨c3, c4⟩ := hc2 k (by have := HL.out; omega)
        rw [← hb.cell (p := ⟨b1, _, none⟩) hb1] at c1 c2
        rw [← hb.cell (p := ⟨b2, _, none⟩) hb2] at c3 c4
        have hlt2 : k < ys.length := by have := HL.out; omega
        clear hc1 hc2 hx hy
        have q1 := fun d os => cell_regrown c1 d os
        have q2 := fun d os => cell_regrown c2 d os
        have q3 := fun d os => cell_regrown c3 d os
        have q4 := fun d os => cell_regrown c4 d os
        by_cases he : prAt xs k = prAt ys k
        · have hn : Hid (xs.take (k + 1) = ys.take (k + 1)) := (take_next (0, 0) k hlt hlt2 HT.out).2 he
          have hq := fun W => neqP_same (prAt xs k) (prAt ys k) W he
          have hgd := fun W op a b => guardP (prAt xs k) (prAt ys k) W op a b
          generalize prAt xs k = x at q1 q2 hq hgd
          generalize prAt ys k = y at q3 q4 hq hgd
          clear he c1 c2 c3 c4
          go_wp2
          refine wp_region_quiet_below (by kernel_rfl) (by kernel_rfl) ?_
          repeat (any_goals (first | go_big_quiet_step (fail) | quiet_step (fail)))
          refine wpQuiet_nil ?_
          intro _ hw'
          obtain ⟨⟨dq, osq⟩, hw''⟩ := hw'
          subst hw''
          have hb3 := hb.trans ((below_regrown wr dq osq).mono hb.size)
          generalize grow (redrawn wr dq) osq = w2 at hb3 ⊢
          clear q1 q2 q3 q4 hq hgd hb
          go_wp2
          refine ⟨⟨k + 1, by omega, by go_num, hn.out, hb3⟩, ?_⟩
          simp only [intOf]
          omega
        · have hn : Hid (decide (xs = ys) = false) := differ_at k he
          have hq := fun W => neqP_other (prAt xs k) (prAt ys k) W he
          have hgd := fun W op a b => guardP (prAt xs k) (prAt ys k) W op a b
          generalize prAt xs k = x at q1 q2 hq hgd
          generalize prAt ys k = y at q3 q4 hq hgd
          clear he c1 c2 c3 c4
          go_wp2
          refine wp_region_quiet_below (by kernel_rfl) (by kernel_rfl) ?_
          repeat (any_goals (first | go_big_quiet_step (fail) | quiet_step (fail)))
          refine wpQuiet_nil ?_
          intro _ hw'
          obtain ⟨⟨dq, osq⟩, hw''⟩ := hw'
          subst hw''
          have hb3 := hb.trans ((below_regrown wr dq osq).mono hb.size)
          generalize grow (redrawn wr dq) osq = w2 at hb3 ⊢
          clear q1 q2 q3 q4 hq hgd hb
          go_wp2
          go_ret
          exact ⟨bool_end hn.out.symm, hb3⟩
      · go_wp2
        go_ret
        have e : k = xs.length := by omega
        subst e
        exact ⟨bool_end (same_all HL.out HT.out).symm, hb⟩
  · have k0 : ((xs.length : Int) != (ys.length : Int)) = true := by simp; omega
    have hf : decide (xs = ys) = false := by
      simp only [decide_eq_false_iff_not]
      intro e
      exact hl (by rw [e])
    have HF := Lib.hid hf
    clear hl hf
    go_enter Try.func22, Try.ntmps22
    go_wp2
    go_ret
    exact ⟨bool_end HF.out.symm, Below.refl _ _⟩

end Go.Proofs.Ytddmoempagcjeaa
