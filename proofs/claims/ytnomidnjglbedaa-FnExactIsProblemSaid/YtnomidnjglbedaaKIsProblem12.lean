/-
  The laws' own comparison of two values that read as the same term, as contracts. Equations: what they read as, in memory. Equations: their sizes, as the laws count them.
-/
import Derived.Test.YtnomidnjglbedaaKIsProblem1
import Derived.Test.YtnomidnjglbedaaKIsProblem3
import Derived.Deep.RegionHeld3
import Derived.Deep.DrawnRows
import Derived.Test.YtnomidnjglbedaaKIsProblem7
section
namespace Go.Proofs.Ytnomidnjglbedaa
open Go.RowKit Go.Sort

/-- Yes, and new blocks at most. -/
def YesPost (w : World) (e : Ending) (w' : World) : Prop := e = .returned (.bool true) ∧ Below w.heap.size w w'

set_option maxRecDepth 100000 in
set_option maxHeartbeats 1000000 in
theorem eqTerm_of (t : Tm) (x y : Value) (w : World) (hx : TmIn w x t) (hy : TmIn w y t) (hlen : t.perm.length ≤ 1048576)
    (ih : ∀ (w' : World) (x' y' : Value), TmsIn w' x' t.kids → TmsIn w' y' t.kids → Calls Try.prog 72 #[x', y'] w' (YesPost w')) :
    Calls Try.prog 19 #[x, y] w (YesPost w) := by
  obtain ⟨A1, c1, kv1, rfl, hp1, hk1⟩ := hx
  obtain ⟨A2, c2, kv2, rfl, hp2, hk2⟩ := hy
  have hb0 : Below w.heap.size w ((w.alloc (.cells #[.int .i64 t.op, .int .i64 t.num, .slice A1 t.perm.length c1, kv1] 31)).alloc (.cells #[.int .i64 t.op, .int .i64 t.num, .slice A2 t.perm.length c2, kv2] 31)) :=
    ((Below.refl _ _).alloc (Nat.le_refl _) _).alloc (by simp) _
  have heq := eqPairS_any A1 A2 c1 c2 t.perm t.perm _ (hp1.below hb0) (hp2.below hb0) (by omega)
  rw [decide_eq_true (rfl : t.perm = t.perm)] at heq
  have hk3 := hk1.below hb0
  have hk4 := hk2.below hb0
  have k1 : (t.op != t.op) = false := by simp
  have k2 : (t.num != t.num) = false := by simp
  generalize t.op = o at heq hb0 hk3 hk4 k1 ⊢
  generalize t.num = n at heq hb0 hk3 hk4 k2 ⊢
  generalize t.perm.length = pl at heq hb0 hk3 hk4 ⊢
  have hB1 : ((w.alloc (.cells #[.int .i64 o, .int .i64 n, .slice A1 pl c1, kv1] 31)).alloc (.cells #[.int .i64 o, .int .i64 n, .slice A2 pl c2, kv2] 31)).cell? ⟨w.heap.size, 3, none⟩ = some kv1 := by
    rw [cell_of_row _ w.heap.size 3 _ _ _ ((Below.heap_alloc _ _ _ (by simp)).trans (heap_alloc_new w _))]; rfl
  have hB2 : ((w.alloc (.cells #[.int .i64 o, .int .i64 n, .slice A1 pl c1, kv1] 31)).alloc (.cells #[.int .i64 o, .int .i64 n, .slice A2 pl c2, kv2] 31)).cell? ⟨w.heap.size + 1, 3, none⟩ = some kv2 := by
    have h9 := heap_alloc_new (w.alloc (.cells #[.int .i64 o, .int .i64 n, .slice A1 pl c1, kv1] 31)) (.cells #[.int .i64 o, .int .i64 n, .slice A2 pl c2, kv2] 31)
    rw [World.size_alloc] at h9
    rw [cell_of_row _ (w.heap.size + 1) 3 _ _ _ h9]; rfl
  have H1 := Lib.hid hB1
  have H2 := Lib.hid hB2
  clear hp1 hp2 hk1 hk2 hB1 hB2
  go_enter Try.func19, Try.ntmps19
  go_wp2_with fail
  refine heq.mono ?_
  rintro e w1 ⟨rfl, hb1⟩
  have d1 := (hb1.cell (p := ⟨w.heap.size, 3, none⟩) (by simp; omega)).trans H1.out
  have d2 := (hb1.cell (p := ⟨w.heap.size + 1, 3, none⟩) (by simp)).trans H2.out
  have hs1 := hb0.trans (hb1.mono hb0.size)
  have hih := ih w1 kv1 kv2 (hk3.below hb1) (hk4.below hb1)
  clear heq hb0 hb1 hk3 hk4 H1 H2 ih
  go_wp2_with fail
  refine hih.mono ?_
  rintro e w2 ⟨rfl, hb2⟩
  have hpost : YesPost w (.returned (.bool true)) w2 := ⟨rfl, hs1.trans (hb2.mono hs1.size)⟩
  clear hih hs1 hb2 d1 d2
  go_wp2
  go_ret
  exact hpost

theorem Calls.regrown_yes {f : FuncId} {args : Array Value} {w : World} {d : Nat} {os : Array Obj} (h : Calls Try.prog f args (grow (redrawn w d) os) (YesPost (grow (redrawn w d) os))) :
    Calls Try.prog f args (grow (redrawn w d) os) fun e w'' => e = .returned (.bool true) ∧ ∃ p : Regrown, w'' = grow (redrawn w p.d) p.os := Calls.regrown_of h

set_option maxRecDepth 100000 in
set_option maxHeartbeats 2000000 in
theorem eqTermS_step (ts : List Tm) (hlen : ts.length ≤ 1048576) (w : World) (x y : Value) (hx : TmsIn w x ts) (hy : TmsIn w y ts)
    (ih : ∀ i, i < ts.length → ∀ (w' : World) (x' y' : Value), TmIn w' x' (tmAt ts i) → TmIn w' y' (tmAt ts i) → Calls Try.prog 19 #[x', y'] w' (YesPost w')) :
    Calls Try.prog 72 #[x, y] w (YesPost w) := by
  obtain ⟨A, c, rfl⟩ := hx.form
  obtain ⟨B, d, rfl⟩ := hy.form
  have k0 : ((ts.length : Int) != (ts.length : Int)) = false := by simp
  go_enter Try.func72, Try.ntmps72
  go_wp2
  go_loopw [5] (fun i wr => ∃ k : Nat, k ≤ ts.length ∧ i = .int .i64 k ∧ Below w.heap.size w wr) (fun i _ => ts.length - (intOf i).toNat)
  case atStart => exact ⟨0, Nat.zero_le _, rfl, Below.refl _ _⟩
  case round =>
    obtain ⟨k, hk, rfl, hb⟩ := hrel
    by_cases hlt : k < ts.length
    · obtain ⟨b1, o1, rfl, hb1, hg1⟩ := (hx.below hb).get (by omega)
      obtain ⟨b2, o2, rfl, hb2, hg2⟩ := (hy.below hb).get (by omega)
      obtain ⟨A1, c1, kv1, d0, d1, d2, d3, hp1, hk1⟩ := hg1 k hlt
      obtain ⟨A2, c2, kv2, e0, e1, e2, e3, hp2, hk2⟩ := hg2 k hlt
      have hct := fun dq os => Calls.regrown_yes (ih k hlt (grow (redrawn wr dq) os) _ _ ⟨A1, c1, kv1, rfl, hp1.below (below_regrown wr dq os), hk1.below (below_regrown wr dq os)⟩ ⟨A2, c2, kv2, rfl, hp2.below (below_regrown wr dq os), hk2.below (below_regrown wr dq os)⟩)
      have p0 := fun d os => cell_regrown d0 d os
      have p1 := fun d os => cell_regrown d1 d os
      have p2 := fun d os => cell_regrown d2 d os
      have p3 := fun d os => cell_regrown d3 d os
      have q0 := fun d os => cell_regrown e0 d os
      have q1 := fun d os => cell_regrown e1 d os
      have q2 := fun d os => cell_regrown e2 d os
      have q3 := fun d os => cell_regrown e3 d os
      generalize tmAt ts k = t at hct p0 p1 p2 p3 q0 q1 q2 q3
      clear hg1 hg2 hp1 hp2 hk1 hk2 hx hy ih hb1 hb2 d0 d1 d2 d3 e0 e1 e2 e3
      go_wp2
      refine wp_region_quiet_below (by kernel_rfl) (by kernel_rfl) ?_
      repeat (any_goals (first | go_big_quiet_step ((go_at_call 19; exact hct _ _)) | quiet_step ((go_at_call 19; exact hct _ _))))
      refine wpQuiet_nil ?_
      intro _ hw'
      obtain ⟨⟨dq, osq⟩, hw''⟩ := hw'
      subst hw''
      have hb3 := hb.trans ((below_regrown wr dq osq).mono hb.size)
      clear p0 p1 p2 p3 q0 q1 q2 q3 hct
      generalize grow (redrawn wr dq) osq = w2 at *
      go_wp2
      refine ⟨⟨k + 1, by omega, by go_num, hb3⟩, ?_⟩
      simp only [intOf]
      omega
    · have hpost : YesPost w (.returned (.bool true)) wr := ⟨rfl, hb⟩
      clear hx hy ih hb
      go_wp2
      go_ret
      exact hpost

theorem eqTermS_any : ∀ (N : Nat) (ts : List Tm), szTs ts ≤ N → Fits ts → ts.length ≤ 1048576 → ∀ (w : World) (x y : Value), TmsIn w x ts → TmsIn w y ts → Calls Try.prog 72 #[x, y] w (YesPost w) := by
  intro N
  induction N with
  | zero =>
    intro ts hN hf hlen w x y hx hy
    exact eqTermS_step ts hlen w x y hx hy fun i hi => absurd (szTs_kid hi) (by omega)
  | succ N ih =>
    intro ts hN hf hlen w x y hx hy
    refine eqTermS_step ts hlen w x y hx hy fun i hi w' x' y' hx' hy' => ?_
    have h2 := (fit_eq _).1 (fits_at hf hi)
    exact eqTerm_of _ x' y' w' hx' hy' h2.1 fun w'' x'' y'' h3 h4 => ih _ (by have := szTs_kid hi; omega) h2.2.2 h2.2.1 w'' x'' y'' h3 h4

theorem eqTerm_any (t : Tm) (hf : Fit t) (w : World) (x y : Value) (hx : TmIn w x t) (hy : TmIn w y t) : Calls Try.prog 19 #[x, y] w (YesPost w) := by
  have h2 := (fit_eq _).1 hf
  exact eqTerm_of t x y w hx hy h2.1 fun w' x' y' h3 h4 => eqTermS_any _ _ (Nat.le_refl _) h2.2.2 h2.2.1 w' x' y' h3 h4

end Go.Proofs.Ytnomidnjglbedaa
end

section
namespace Go.Proofs.Ytnomidnjglbedaa
open Go.RowKit
set_option linter.unusedVariables false

structure REquation where
  f0 : Tm
  f1 : Tm
def zeroREquation : REquation := { f0 := tm0, f1 := tm0 }
instance : Inhabited REquation := ⟨zeroREquation⟩
def atREquation (rs : List REquation) (i : Nat) : REquation := rs.getD i zeroREquation
theorem atREquation_zero (r : REquation) (rs : List REquation) : atREquation (r :: rs) 0 = r := rfl
theorem atREquation_succ (r : REquation) (rs : List REquation) (i : Nat) : atREquation (r :: rs) (i + 1) = atREquation rs i := by simp [atREquation]
theorem takeREquation_next : ∀ {rs : List REquation} {k : Nat}, k < rs.length → rs.take (k + 1) = rs.take k ++ [atREquation rs k]
  | [], k, h => by simp at h
  | r :: rs, 0, _ => by simp [atREquation_zero]
  | r :: rs, k + 1, h => by rw [List.take_succ_cons, List.take_succ_cons, takeREquation_next (rs := rs) (by simpa using h), atREquation_succ]; rfl
/-- The parts that are counted. -/
def cntREquation (r : REquation) : Nat := cntT r.f0 + cntT r.f1
def sumREquation : List REquation → Nat
  | [] => 0
  | r :: rs => cntREquation r + sumREquation rs
theorem sumREquation_append : ∀ a b : List REquation, sumREquation (a ++ b) = sumREquation a + sumREquation b
  | [], b => by simp [sumREquation]
  | r :: a, b => by rw [List.cons_append, sumREquation, sumREquation, sumREquation_append a b]; omega
theorem sumREquation_next {rs : List REquation} {k : Nat} (h : k < rs.length) : sumREquation (rs.take (k + 1)) = sumREquation (rs.take k) + cntREquation (atREquation rs k) := by
  rw [takeREquation_next h, sumREquation_append]; simp [sumREquation]
theorem sumREquation_take (rs : List REquation) (k : Nat) : sumREquation (rs.take k) ≤ sumREquation rs := by
  have h := sumREquation_append (rs.take k) (rs.drop k)
  rw [List.take_append_drop] at h
  omega
theorem cntREquation_le : ∀ {rs : List REquation} {k : Nat}, k < rs.length → cntREquation (atREquation rs k) ≤ sumREquation rs
  | [], k, h => by simp at h
  | r :: rs, 0, _ => by rw [atREquation_zero, sumREquation]; omega
  | r :: rs, k + 1, h => by have := cntREquation_le (rs := rs) (k := k) (by simpa using h); rw [atREquation_succ, sumREquation]; omega
/-- A value reads as a record. -/
def REquationIn (w : World) (v : Value) (r : REquation) : Prop := ∃ A0 c0 B0 d0 A1 c1 B1 d1, v = .agg #[.int .i64 r.f0.op, .int .i64 r.f0.num, .slice A0 r.f0.perm.length c0, .slice B0 r.f0.kids.length d0, .int .i64 r.f1.op, .int .i64 r.f1.num, .slice A1 r.f1.perm.length c1, .slice B1 r.f1.kids.length d1] ∧ TmIn w (.agg #[.int .i64 r.f0.op, .int .i64 r.f0.num, .slice A0 r.f0.perm.length c0, .slice B0 r.f0.kids.length d0]) r.f0 ∧ TmIn w (.agg #[.int .i64 r.f1.op, .int .i64 r.f1.num, .slice A1 r.f1.perm.length c1, .slice B1 r.f1.kids.length d1]) r.f1
/-- Cells read as a record. -/
def REquationAt (w : World) (b off : Nat) (r : REquation) : Prop := ∃ A0 c0 B0 d0 A1 c1 B1 d1, w.cell? ⟨b, off, none⟩ = some (.int .i64 r.f0.op) ∧ w.cell? ⟨b, off + 1, none⟩ = some (.int .i64 r.f0.num) ∧ w.cell? ⟨b, off + 2, none⟩ = some (.slice A0 r.f0.perm.length c0) ∧ w.cell? ⟨b, off + 3, none⟩ = some (.slice B0 r.f0.kids.length d0) ∧ w.cell? ⟨b, off + 4, none⟩ = some (.int .i64 r.f1.op) ∧ w.cell? ⟨b, off + 5, none⟩ = some (.int .i64 r.f1.num) ∧ w.cell? ⟨b, off + 6, none⟩ = some (.slice A1 r.f1.perm.length c1) ∧ w.cell? ⟨b, off + 7, none⟩ = some (.slice B1 r.f1.kids.length d1) ∧ TmIn w (.agg #[.int .i64 r.f0.op, .int .i64 r.f0.num, .slice A0 r.f0.perm.length c0, .slice B0 r.f0.kids.length d0]) r.f0 ∧ TmIn w (.agg #[.int .i64 r.f1.op, .int .i64 r.f1.num, .slice A1 r.f1.perm.length c1, .slice B1 r.f1.kids.length d1]) r.f1
/-- A slice reads as a list of records. -/
def REquationsIn (w : World) (v : Value) (rs : List REquation) : Prop :=
  ∃ B d, v = .slice B rs.length d ∧ (0 < rs.length → ∃ b off, B = some ⟨b, off, none⟩ ∧ b < w.heap.size ∧ ∀ k, k < rs.length → REquationAt w b (off + k * 8) (atREquation rs k))
theorem REquationIn.below {w w' : World} {v : Value} {r : REquation} (h : REquationIn w v r) (hb : Below w.heap.size w w') : REquationIn w' v r := by
  obtain ⟨A0, c0, B0, d0, A1, c1, B1, d1, e, h0, h1⟩ := h
  exact ⟨A0, c0, B0, d0, A1, c1, B1, d1, e, h0.below hb, h1.below hb⟩
theorem REquationAt.below {w w' : World} {b off : Nat} {r : REquation} (h : REquationAt w b off r) (hl : b < w.heap.size) (hb : Below w.heap.size w w') : REquationAt w' b off r := by
  obtain ⟨A0, c0, B0, d0, A1, c1, B1, d1, e0, e1, e2, e3, e4, e5, e6, e7, h0, h1⟩ := h
  exact ⟨A0, c0, B0, d0, A1, c1, B1, d1, (hb.cell (p := ⟨b, off, none⟩) hl).trans e0, (hb.cell (p := ⟨b, off + 1, none⟩) hl).trans e1, (hb.cell (p := ⟨b, off + 2, none⟩) hl).trans e2, (hb.cell (p := ⟨b, off + 3, none⟩) hl).trans e3, (hb.cell (p := ⟨b, off + 4, none⟩) hl).trans e4, (hb.cell (p := ⟨b, off + 5, none⟩) hl).trans e5, (hb.cell (p := ⟨b, off + 6, none⟩) hl).trans e6, (hb.cell (p := ⟨b, off + 7, none⟩) hl).trans e7, h0.below hb, h1.below hb⟩
theorem REquationsIn.below {w w' : World} {v : Value} {rs : List REquation} (h : REquationsIn w v rs) (hb : Below w.heap.size w w') : REquationsIn w' v rs := by
  obtain ⟨B, d, e, hg⟩ := h
  refine ⟨B, d, e, fun hp => ?_⟩
  obtain ⟨b, off, e2, hl, hk⟩ := hg hp
  exact ⟨b, off, e2, Nat.lt_of_lt_of_le hl hb.size, fun k hk' => (hk k hk').below hl hb⟩
end Go.Proofs.Ytnomidnjglbedaa
end

section
namespace Go.Proofs.Ytnomidnjglbedaa
open Go.RowKit
set_option linter.unusedVariables false

set_option maxRecDepth 100000 in
set_option maxHeartbeats 2000000 in
theorem szEquation_any (r : REquation) (v : Value) (w : World) (left : Int) (h0 : 0 ≤ left) (h1 : left ≤ 1099511627776) (hv : REquationIn w v r) (hs : Short r.f0 ∧ Short r.f1) :
    Calls Try.prog 84 #[v, .int .i64 left] w (LeftPost left (cntREquation r) w) := by
  obtain ⟨A0, c0, B0, d0, A1, c1, B1, d1, rfl, hv0, hv1⟩ := hv
  have hb0 : Below w.heap.size w (w.alloc (.cells #[.int .i64 r.f0.op, .int .i64 r.f0.num, .slice A0 r.f0.perm.length c0, .slice B0 r.f0.kids.length d0, .int .i64 r.f1.op, .int .i64 r.f1.num, .slice A1 r.f1.perm.length c1, .slice B1 r.f1.kids.length d1] 113)) := (Below.refl _ _).alloc (Nat.le_refl _) _
  have k0 := heap_alloc_new w (.cells #[.int .i64 r.f0.op, .int .i64 r.f0.num, .slice A0 r.f0.perm.length c0, .slice B0 r.f0.kids.length d0, .int .i64 r.f1.op, .int .i64 r.f1.num, .slice A1 r.f1.perm.length c1, .slice B1 r.f1.kids.length d1] 113)
  have m0 : (w.alloc (.cells #[.int .i64 r.f0.op, .int .i64 r.f0.num, .slice A0 r.f0.perm.length c0, .slice B0 r.f0.kids.length d0, .int .i64 r.f1.op, .int .i64 r.f1.num, .slice A1 r.f1.perm.length c1, .slice B1 r.f1.kids.length d1] 113)).cell? ⟨w.heap.size, 0, none⟩ = some (.int .i64 r.f0.op) := by rw [cell_of_row _ _ 0 _ _ _ k0]; rfl
  have m1 : (w.alloc (.cells #[.int .i64 r.f0.op, .int .i64 r.f0.num, .slice A0 r.f0.perm.length c0, .slice B0 r.f0.kids.length d0, .int .i64 r.f1.op, .int .i64 r.f1.num, .slice A1 r.f1.perm.length c1, .slice B1 r.f1.kids.length d1] 113)).cell? ⟨w.heap.size, 1, none⟩ = some (.int .i64 r.f0.num) := by rw [cell_of_row _ _ 1 _ _ _ k0]; rfl
  have m2 : (w.alloc (.cells #[.int .i64 r.f0.op, .int .i64 r.f0.num, .slice A0 r.f0.perm.length c0, .slice B0 r.f0.kids.length d0, .int .i64 r.f1.op, .int .i64 r.f1.num, .slice A1 r.f1.perm.length c1, .slice B1 r.f1.kids.length d1] 113)).cell? ⟨w.heap.size, 2, none⟩ = some (.slice A0 r.f0.perm.length c0) := by rw [cell_of_row _ _ 2 _ _ _ k0]; rfl
  have m3 : (w.alloc (.cells #[.int .i64 r.f0.op, .int .i64 r.f0.num, .slice A0 r.f0.perm.length c0, .slice B0 r.f0.kids.length d0, .int .i64 r.f1.op, .int .i64 r.f1.num, .slice A1 r.f1.perm.length c1, .slice B1 r.f1.kids.length d1] 113)).cell? ⟨w.heap.size, 3, none⟩ = some (.slice B0 r.f0.kids.length d0) := by rw [cell_of_row _ _ 3 _ _ _ k0]; rfl
  have m4 : (w.alloc (.cells #[.int .i64 r.f0.op, .int .i64 r.f0.num, .slice A0 r.f0.perm.length c0, .slice B0 r.f0.kids.length d0, .int .i64 r.f1.op, .int .i64 r.f1.num, .slice A1 r.f1.perm.length c1, .slice B1 r.f1.kids.length d1] 113)).cell? ⟨w.heap.size, 4, none⟩ = some (.int .i64 r.f1.op) := by rw [cell_of_row _ _ 4 _ _ _ k0]; rfl
  have m5 : (w.alloc (.cells #[.int .i64 r.f0.op, .int .i64 r.f0.num, .slice A0 r.f0.perm.length c0, .slice B0 r.f0.kids.length d0, .int .i64 r.f1.op, .int .i64 r.f1.num, .slice A1 r.f1.perm.length c1, .slice B1 r.f1.kids.length d1] 113)).cell? ⟨w.heap.size, 5, none⟩ = some (.int .i64 r.f1.num) := by rw [cell_of_row _ _ 5 _ _ _ k0]; rfl
  have m6 : (w.alloc (.cells #[.int .i64 r.f0.op, .int .i64 r.f0.num, .slice A0 r.f0.perm.length c0, .slice B0 r.f0.kids.length d0, .int .i64 r.f1.op, .int .i64 r.f1.num, .slice A1 r.f1.perm.length c1, .slice B1 r.f1.kids.length d1] 113)).cell? ⟨w.heap.size, 6, none⟩ = some (.slice A1 r.f1.perm.length c1) := by rw [cell_of_row _ _ 6 _ _ _ k0]; rfl
  have m7 : (w.alloc (.cells #[.int .i64 r.f0.op, .int .i64 r.f0.num, .slice A0 r.f0.perm.length c0, .slice B0 r.f0.kids.length d0, .int .i64 r.f1.op, .int .i64 r.f1.num, .slice A1 r.f1.perm.length c1, .slice B1 r.f1.kids.length d1] 113)).cell? ⟨w.heap.size, 7, none⟩ = some (.slice B1 r.f1.kids.length d1) := by rw [cell_of_row _ _ 7 _ _ _ k0]; rfl
  have HC := Lib.hid (fun w' (h : Below (w.alloc (.cells #[.int .i64 r.f0.op, .int .i64 r.f0.num, .slice A0 r.f0.perm.length c0, .slice B0 r.f0.kids.length d0, .int .i64 r.f1.op, .int .i64 r.f1.num, .slice A1 r.f1.perm.length c1, .slice B1 r.f1.kids.length d1] 113)).heap.size (w.alloc (.cells #[.int .i64 r.f0.op, .int .i64 r.f0.num, .slice A0 r.f0.perm.length c0, .slice B0 r.f0.kids.length d0, .int .i64 r.f1.op, .int .i64 r.f1.num, .slice A1 r.f1.perm.length c1, .slice B1 r.f1.kids.length d1] 113)) w') => (show w'.cell? ⟨w.heap.size, 0, none⟩ = some (.int .i64 r.f0.op) ∧ w'.cell? ⟨w.heap.size, 1, none⟩ = some (.int .i64 r.f0.num) ∧ w'.cell? ⟨w.heap.size, 2, none⟩ = some (.slice A0 r.f0.perm.length c0) ∧ w'.cell? ⟨w.heap.size, 3, none⟩ = some (.slice B0 r.f0.kids.length d0) ∧ w'.cell? ⟨w.heap.size, 4, none⟩ = some (.int .i64 r.f1.op) ∧ w'.cell? ⟨w.heap.size, 5, none⟩ = some (.int .i64 r.f1.num) ∧ w'.cell? ⟨w.heap.size, 6, none⟩ = some (.slice A1 r.f1.perm.length c1) ∧ w'.cell? ⟨w.heap.size, 7, none⟩ = some (.slice B1 r.f1.kids.length d1) from ⟨(h.cell (p := ⟨w.heap.size, 0, none⟩) (by simp)).trans m0, (h.cell (p := ⟨w.heap.size, 1, none⟩) (by simp)).trans m1, (h.cell (p := ⟨w.heap.size, 2, none⟩) (by simp)).trans m2, (h.cell (p := ⟨w.heap.size, 3, none⟩) (by simp)).trans m3, (h.cell (p := ⟨w.heap.size, 4, none⟩) (by simp)).trans m4, (h.cell (p := ⟨w.heap.size, 5, none⟩) (by simp)).trans m5, (h.cell (p := ⟨w.heap.size, 6, none⟩) (by simp)).trans m6, (h.cell (p := ⟨w.heap.size, 7, none⟩) (by simp)).trans m7⟩))
  have hs0 := (short_eq r.f0).1 hs.1
  have hs1 := (short_eq r.f1).1 hs.2
  have hct := szTerm_of r.f0 _ _ left h0 h1 (hv0.below hb0) hs0.1 fun l' w' y g0 g1 hy => szTermS_any _ r.f0.kids (Nat.le_refl _) hs0.2.2 hs0.2.1 l' w' y g0 g1 hy
  have HCT := Lib.hid (fun (l : Int) (g0 : 0 ≤ l) (g1 : l ≤ 1099511627776) W (h : Below w.heap.size w W) => szTerm_of r.f1 _ W l g0 g1 (hv1.below h) hs1.1 fun l' w' y g0 g1 hy => szTermS_any _ r.f1.kids (Nat.le_refl _) hs1.2.2 hs1.2.1 l' w' y g0 g1 hy)
  have hcn : cntREquation r = cntT r.f0 + cntT r.f1 := rfl
  rw [hcn]
  unfold LeftPost at hct HCT ⊢
  generalize cntT r.f0 = a at *
  generalize cntT r.f1 = b at *
  clear hv0 hv1 hs hs0 hs1 hcn k0
  by_cases h3 : (a : Int) ≤ left
  · rw [leftR_yes h3] at hct
    have hl : ¬ left - (a : Int) < 0 := by omega
    by_cases h4 : (b : Int) ≤ left - a
    · have hl2 : ¬ left - (a : Int) - (b : Int) < 0 := by omega
      have HR := Lib.hid (show leftR left (a + b) = left - a - b by rw [leftR_yes (by omega)]; omega)
      go_enter Try.func84, Try.ntmps84
      go_wp2_with fail
      refine hct.mono ?_
      rintro e w2 ⟨rfl, hb2⟩
      have hs2 := hb0.trans (hb2.mono hb0.size)
      have hc2 := HCT.out (left - a) (by omega) (by omega) w2 hs2
      rw [leftR_yes h4] at hc2
      obtain ⟨n0, n1, n2, n3, n4, n5, n6, n7⟩ := HC.out w2 hb2
      clear hct hb0 hb2 m0 m1 m2 m3 m4 m5 m6 m7 HC HCT
      go_wp2_with fail
      refine hc2.mono ?_
      rintro e w3 ⟨rfl, hb3⟩
      have hpost := hs2.trans (hb3.mono hs2.size)
      clear hc2 hb3 hs2 n0 n1 n2 n3 n4 n5 n6 n7
      go_wp2
      go_ret
      exact ⟨(by rw [HR.out]; rfl), hpost⟩
    · have HR := Lib.hid (show leftR left (a + b) = -1 by rw [leftR_no (by omega)])
      go_enter Try.func84, Try.ntmps84
      go_wp2_with fail
      refine hct.mono ?_
      rintro e w2 ⟨rfl, hb2⟩
      have hs2 := hb0.trans (hb2.mono hb0.size)
      have hc2 := HCT.out (left - a) (by omega) (by omega) w2 hs2
      rw [leftR_no (by omega)] at hc2
      obtain ⟨n0, n1, n2, n3, n4, n5, n6, n7⟩ := HC.out w2 hb2
      clear hct hb0 hb2 m0 m1 m2 m3 m4 m5 m6 m7 HC HCT
      go_wp2_with fail
      refine hc2.mono ?_
      rintro e w3 ⟨rfl, hb3⟩
      have hpost := hs2.trans (hb3.mono hs2.size)
      clear hc2 hb3 hs2 n0 n1 n2 n3 n4 n5 n6 n7
      go_wp2
      go_ret
      exact ⟨(by rw [HR.out]; rfl), hpost⟩
  · rw [leftR_no (by omega)] at hct
    have HR := Lib.hid (show leftR left (a + b) = -1 by rw [leftR_no (by omega)])
    go_enter Try.func84, Try.ntmps84
    go_wp2_with fail
    refine hct.mono ?_
    rintro e w2 ⟨rfl, hb2⟩
    have hpost := hb0.trans (hb2.mono hb0.size)
    clear hct hb0 hb2 m0 m1 m2 m3 m4 m5 m6 m7 HC HCT
    go_wp2
    go_ret
    exact ⟨(by rw [HR.out]; rfl), hpost⟩

/-- Every record of a list is short. -/
def ShortREquations (rs : List REquation) : Prop := ∀ k, k < rs.length → Short (atREquation rs k).f0 ∧ Short (atREquation rs k).f1

set_option maxRecDepth 100000 in
set_option maxHeartbeats 2000000 in
theorem szEquationS_any (rs : List REquation) (hsh : ShortREquations rs) (hlen : rs.length ≤ maxLen) (left : Int) (w : World) (x : Value) (h0 : 0 ≤ left) (h1 : left ≤ 1099511627776) (hx : REquationsIn w x rs) :
    Calls Try.prog 35 #[x, .int .i64 left] w (LeftPost left (rs.length + sumREquation rs) w) := by
  obtain ⟨A, c, rfl, hg⟩ := hx
  unfold maxLen at hlen
  by_cases h2 : (rs.length : Int) ≤ left
  · have hl2 : ¬ left - (rs.length : Int) < 0 := by omega
    go_enter Try.func35, Try.ntmps35
    go_wp2
    go_loopw [1, 5] (fun l i wr => ∃ k : Nat, k ≤ rs.length ∧ i = .int .i64 k ∧ l = .int .i64 (left - rs.length - sumREquation (rs.take k)) ∧ (sumREquation (rs.take k) : Int) ≤ left - rs.length ∧ Below w.heap.size w wr) (fun _ i _ => rs.length - (intOf i).toNat)
    case atStart => exact ⟨0, Nat.zero_le _, rfl, by simp [sumREquation], by simp [sumREquation]; omega, Below.refl _ _⟩
    case round =>
      obtain ⟨k, hk, rfl, rfl, hle, hb⟩ := hrel
      by_cases hlt : k < rs.length
      · obtain ⟨b, off, rfl, hbl, hget⟩ := hg (by omega)
        obtain ⟨A0, c0, B0, d0, A1, c1, B1, d1, e0, e1, e2, e3, e4, e5, e6, e7, h0, h1⟩ := (hget k hlt).below hbl hb
        have hct := szEquation_any (atREquation rs k) _ wr (left - rs.length - sumREquation (rs.take k)) (by omega) (by omega) ⟨A0, c0, B0, d0, A1, c1, B1, d1, rfl, h0, h1⟩ (hsh k hlt)
        have hnx := Lib.hid (sumREquation_next hlt)
        have hst := sumREquation_take rs (k + 1)
        generalize hc : cntREquation (atREquation rs k) = cc at hct hnx
        generalize hs : sumREquation (rs.take k) = s at hct hnx hle
        generalize atREquation rs k = r at *
        clear hget hg hc hs hsh h0 h1
        by_cases h3 : (cc : Int) ≤ left - rs.length - s
        · have hl3 : ¬ left - (rs.length : Int) - (s : Int) - (cc : Int) < 0 := by omega
          unfold LeftPost at hct
          rw [leftR_yes h3] at hct
          have hse : Hid (((sumREquation (rs.take (k + 1)) : Nat) : Int) = s + cc) := by show ((sumREquation (rs.take (k + 1)) : Nat) : Int) = s + cc; rw [hnx.out]; omega
          clear hst
          go_wp2_with fail
          refine hct.mono ?_
          rintro e w2 ⟨rfl, hb2⟩
          have hb3 := hb.trans (hb2.mono hb.size)
          clear hct hb2 e0 e1 e2 e3 e4 e5 e6 e7
          go_wp2
          refine ⟨⟨k + 1, by omega, by go_num, by rw [hse.out]; go_num, by rw [hse.out]; omega, hb3⟩, ?_⟩
          simp only [intOf]
          omega
        · unfold LeftPost at hct
          rw [leftR_no (by omega)] at hct
          have hr : Hid (leftR left (rs.length + sumREquation rs) = -1) := by
            show leftR left (rs.length + sumREquation rs) = -1
            refine leftR_no ?_
            have := hnx.out
            omega
          clear hst
          go_wp2_with fail
          refine hct.mono ?_
          rintro e w2 ⟨rfl, hb2⟩
          have hpost : LeftPost left (rs.length + sumREquation rs) w (.returned (.int .i64 (-1))) w2 := ⟨by rw [hr.out], hb.trans (hb2.mono hb.size)⟩
          clear hct hb2 hr hb e0 e1 e2 e3 e4 e5 e6 e7
          go_wp2
          go_ret
          exact hpost
      · have e : k = rs.length := by omega
        have hr : Hid (left - rs.length - sumREquation (rs.take k) = leftR left (rs.length + sumREquation rs)) := by
          show left - rs.length - sumREquation (rs.take k) = leftR left (rs.length + sumREquation rs)
          rw [List.take_of_length_le (by omega)] at hle ⊢
          rw [leftR_yes (by omega)]
          omega
        have hpost : LeftPost left (rs.length + sumREquation rs) w (.returned (.int .i64 (left - rs.length - sumREquation (rs.take k)))) wr := ⟨by rw [hr.out], hb⟩
        clear hg e hr hb
        go_wp2
        go_ret
        exact hpost
  · have hl2 : left - (rs.length : Int) < 0 := by omega
    have hpost : LeftPost left (rs.length + sumREquation rs) w (.returned (.int .i64 (-1))) w := ⟨by rw [leftR_no (by omega)], Below.refl _ _⟩
    clear hg
    go_enter Try.func35, Try.ntmps35
    go_wp2
    go_ret
    exact hpost
end Go.Proofs.Ytnomidnjglbedaa
end

