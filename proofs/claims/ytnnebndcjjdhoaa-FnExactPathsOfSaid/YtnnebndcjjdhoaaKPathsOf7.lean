/-
  The laws' own comparison of two values that read as the same term, as contracts.
-/
import Derived.Test.YtnnebndcjjdhoaaKPathsOf1
import Derived.Test.YtnnebndcjjdhoaaKPathsOf2
import Derived.Deep.RegionHeld3
import Derived.Deep.DrawnRows
namespace Go.Proofs.Ytnnebndcjjdhoaa
open Go.RowKit Go.Sort

/-- Yes, and new blocks at most. -/
def YesPost (w : World) (e : Ending) (w' : World) : Prop := e = .returned (.bool true) ∧ Below w.heap.size w w'

set_option maxRecDepth 100000 in
set_option maxHeartbeats 1000000 in
theorem eqTerm_of (t : Tm) (x y : Value) (w : World) (hx : TmIn w x t) (hy : TmIn w y t) (hlen : t.perm.length ≤ 1048576)
    (ih : ∀ (w' : World) (x' y' : Value), TmsIn w' x' t.kids → TmsIn w' y' t.kids → Calls Try.prog 23 #[x', y'] w' (YesPost w')) :
    Calls Try.prog 9 #[x, y] w (YesPost w) := by
  obtain ⟨A1, c1, kv1, rfl, hp1, hk1⟩ := hx
  obtain ⟨A2, c2, kv2, rfl, hp2, hk2⟩ := hy
  have hb0 : Below w.heap.size w ((w.alloc (.cells #[.int .i64 t.op, .int .i64 t.num, .slice A1 t.perm.length c1, kv1] 32)).alloc (.cells #[.int .i64 t.op, .int .i64 t.num, .slice A2 t.perm.length c2, kv2] 32)) :=
    ((Below.refl _ _).alloc (Nat.le_refl _) _).alloc (by simp) _
  have heq := eqPairS_any A1 A2 c1 c2 t.perm t.perm _ (hp1.below hb0) (hp2.below hb0) (by omega)
  rw [decide_eq_true (rfl : t.perm = t.perm)] at heq
  have hk3 := hk1.below hb0
  have hk4 := hk2.below hb0
  have k1 : (t.op != t.op) = false := by simp
  have k2 : (t.num != t.num) = false := by simp
  generalize t.op = o at heq hb0 hk3 hk4 k1 ⊢
  generalize t.num = n at heq hb0 hk3 hk4 k2 ⊢
  generalize t.perm.length = pl at heq hb0 hk3 hk4 ⊢
  have hB1 : ((w.alloc (.cells #[.int .i64 o, .int .i64 n, .slice A1 pl c1, kv1] 32)).alloc (.cells #[.int .i64 o, .int .i64 n, .slice A2 pl c2, kv2] 32)).cell? ⟨w.heap.size, 3, none⟩ = some kv1 := by
    rw [cell_of_row _ w.heap.size 3 _ _ _ ((Below.heap_alloc _ _ _ (by simp)).trans (heap_alloc_new w _))]; rfl
  have hB2 : ((w.alloc (.cells #[.int .i64 o, .int .i64 n, .slice A1 pl c1, kv1] 32)).alloc (.cells #[.int .i64 o, .int .i64 n, .slice A2 pl c2, kv2] 32)).cell? ⟨w.heap.size + 1, 3, none⟩ = some kv2 := by
    have h9 := heap_alloc_new (w.alloc (.cells #[.int .i64 o, .int .i64 n, .slice A1 pl c1, kv1] 32)) (.cells #[.int .i64 o, .int .i64 n, .slice A2 pl c2, kv2] 32)
    rw [World.size_alloc] at h9
    rw [cell_of_row _ (w.heap.size + 1) 3 _ _ _ h9]; rfl
  have H1 := Lib.hid hB1
  have H2 := Lib.hid hB2
  clear hp1 hp2 hk1 hk2 hB1 hB2
  go_enter Try.func9, Try.ntmps9
  go_wp2_with fail
  refine heq.mono ?_
  rintro e w1 ⟨rfl, hb1⟩
  have d1 := (hb1.cell (p := ⟨w.heap.size, 3, none⟩) (by simp; omega)).trans H1.out
  have d2 := (hb1.cell (p := ⟨w.heap.size + 1, 3, none⟩) (by simp)).trans H2.out
  have hs1 := hb0.trans (hb1.mono hb0.size)
  have hih := ih w1 kv1 kv2 (hk3.below hb1) (hk4.below hb1)
  clear heq hb0 hb1 hk3 hk4 H1 H2 ih
  go_wp2_with fail
  refine hih.mono ?_
  rintro e w2 ⟨rfl, hb2⟩
  have hpost : YesPost w (.returned (.bool true)) w2 := ⟨rfl, hs1.trans (hb2.mono hs1.size)⟩
  clear hih hs1 hb2 d1 d2
  go_wp2
  go_ret
  exact hpost

theorem Calls.regrown_yes {f : FuncId} {args : Array Value} {w : World} {d : Nat} {os : Array Obj} (h : Calls Try.prog f args (grow (redrawn w d) os) (YesPost (grow (redrawn w d) os))) :
    Calls Try.prog f args (grow (redrawn w d) os) fun e w'' => e = .returned (.bool true) ∧ ∃ p : Regrown, w'' = grow (redrawn w p.d) p.os := Calls.regrown_of h

set_option maxRecDepth 100000 in
set_option maxHeartbeats 2000000 in
theorem eqTermS_step (ts : List Tm) (hlen : ts.length ≤ 1048576) (w : World) (x y : Value) (hx : TmsIn w x ts) (hy : TmsIn w y ts)
    (ih : ∀ i, i < ts.length → ∀ (w' : World) (x' y' : Value), TmIn w' x' (tmAt ts i) → TmIn w' y' (tmAt ts i) → Calls Try.prog 9 #[x', y'] w' (YesPost w')) :
    Calls Try.prog 23 #[x, y] w (YesPost w) := by
  obtain ⟨A, c, rfl⟩ := hx.form
  obtain ⟨B, d, rfl⟩ := hy.form
  have k0 : ((ts.length : Int) != (ts.length : Int)) = false := by simp
  go_enter Try.func23, Try.ntmps23
  go_wp2
  go_loopw [5] (fun i wr => ∃ k : Nat, k ≤ ts.length ∧ i = .int .i64 k ∧ Below w.heap.size w wr) (fun i _ => ts.length - (intOf i).toNat)
  case atStart => exact ⟨0, Nat.zero_le _, rfl, Below.refl _ _⟩
  case round =>
    obtain ⟨k, hk, rfl, hb⟩ := hrel
    by_cases hlt : k < ts.length
    · obtain ⟨b1, o1, rfl, hb1, hg1⟩ := (hx.below hb).get (by omega)
      obtain ⟨b2, o2, rfl, hb2, hg2⟩ := (hy.below hb).get (by omega)
      obtain ⟨A1, c1, kv1, d0, d1, d2, d3, hp1, hk1⟩ := hg1 k hlt
      obtain ⟨A2, c2, kv2, e0, e1, e2, e3, hp2, hk2⟩ := hg2 k hlt
      have hct := fun dq os => Calls.regrown_yes (ih k hlt (grow (redrawn wr dq) os) _ _ ⟨A1, c1, kv1, rfl, hp1.below (below_regrown wr dq os), hk1.below (below_regrown wr dq os)⟩ ⟨A2, c2, kv2, rfl, hp2.below (below_regrown wr dq os), hk2.below (below_regrown wr dq os)⟩)
      have p0 := fun d os => cell_regrown d0 d os
      have p1 := fun d os => cell_regrown d1 d os
      have p2 := fun d os => cell_regrown d2 d os
      have p3 := fun d os => cell_regrown d3 d os
      have q0 := fun d os => cell_regrown e0 d os
      have q1 := fun d os => cell_regrown e1 d os
      have q2 := fun d os => cell_regrown e2 d os
      have q3 := fun d os => cell_regrown e3 d os
      generalize tmAt ts k = t at hct p0 p1 p2 p3 q0 q1 q2 q3
      clear hg1 hg2 hp1 hp2 hk1 hk2 hx hy ih hb1 hb2 d0 d1 d2 d3 e0 e1 e2 e3
      go_wp2
      refine wp_region_quiet_below (by kernel_rfl) (by kernel_rfl) ?_
      repeat (any_goals (first | go_big_quiet_step ((go_at_call 9; exact hct _ _)) | quiet_step ((go_at_call 9; exact hct _ _))))
      refine wpQuiet_nil ?_
      intro _ hw'
      obtain ⟨⟨dq, osq⟩, hw''⟩ := hw'
      subst hw''
      have hb3 := hb.trans ((below_regrown wr dq osq).mono hb.size)
      clear p0 p1 p2 p3 q0 q1 q2 q3 hct
      generalize grow (redrawn wr dq) osq = w2 at *
      go_wp2
      refine ⟨⟨k + 1, by omega, by go_num, hb3⟩, ?_⟩
      simp only [intOf]
      omega
    · have hpost : YesPost w (.returned (.bool true)) wr := ⟨rfl, hb⟩
      clear hx hy ih hb
      go_wp2
      go_ret
      exact hpost

theorem eqTermS_any : ∀ (N : Nat) (ts : List Tm), szTs ts ≤ N → Fits ts → ts.length ≤ 1048576 → ∀ (w : World) (x y : Value), TmsIn w x ts → TmsIn w y ts → Calls Try.prog 23 #[x, y] w (YesPost w) := by
  intro N
  induction N with
  | zero =>
    intro ts hN hf hlen w x y hx hy
    exact eqTermS_step ts hlen w x y hx hy fun i hi => absurd (szTs_kid hi) (by omega)
  | succ N ih =>
    intro ts hN hf hlen w x y hx hy
    refine eqTermS_step ts hlen w x y hx hy fun i hi w' x' y' hx' hy' => ?_
    have h2 := (fit_eq _).1 (fits_at hf hi)
    exact eqTerm_of _ x' y' w' hx' hy' h2.1 fun w'' x'' y'' h3 h4 => ih _ (by have := szTs_kid hi; omega) h2.2.2 h2.2.1 w'' x'' y'' h3 h4

theorem eqTerm_any (t : Tm) (hf : Fit t) (w : World) (x y : Value) (hx : TmIn w x t) (hy : TmIn w y t) : Calls Try.prog 9 #[x, y] w (YesPost w) := by
  have h2 := (fit_eq _).1 hf
  exact eqTerm_of t x y w hx hy h2.1 fun w' x' y' h3 h4 => eqTermS_any _ _ (Nat.le_refl _) h2.2.2 h2.2.1 w' x' y' h3 h4

end Go.Proofs.Ytnnebndcjjdhoaa
