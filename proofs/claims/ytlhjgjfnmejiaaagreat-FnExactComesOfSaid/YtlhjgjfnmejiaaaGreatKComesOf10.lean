/-
  The laws' own comparison of two values that read as the same term, as contracts. Bindings: what they read as, in memory. Bindings: their sizes, as the laws count them. The same bindings compared, as contracts. Copies of bindings, in memory of their own, as the laws make them. Copies of slices of bindings, in memory of their own, as the laws make them. A copy of bindings reads as the bindings. Slices of bindings numbered in place, as the laws do it.
-/
import Derived.Test.YtlhjgjfnmejiaaaGreatKComesOf4
import Derived.Test.YtlhjgjfnmejiaaaGreatKComesOf6
import Derived.Deep.RegionHeld3
import Derived.Deep.DrawnRows
import Derived.Test.YtlhjgjfnmejiaaaGreatKComesOf7
import Derived.Test.YtlhjgjfnmejiaaaGreatKComesOf5
section
namespace Go.Proofs.YtlhjgjfnmejiaaaGreat
open Go.RowKit Go.Sort

/-- Yes, and new blocks at most. -/
def YesPost (w : World) (e : Ending) (w' : World) : Prop := e = .returned (.bool true) ∧ Below w.heap.size w w'

set_option maxRecDepth 100000 in
set_option maxHeartbeats 1000000 in
theorem eqTerm_of (t : Tm) (x y : Value) (w : World) (hx : TmIn w x t) (hy : TmIn w y t) (hlen : t.perm.length ≤ 1048576)
    (ih : ∀ (w' : World) (x' y' : Value), TmsIn w' x' t.kids → TmsIn w' y' t.kids → Calls Tryz.prog 62 #[x', y'] w' (YesPost w')) :
    Calls Tryz.prog 20 #[x, y] w (YesPost w) := by
  obtain ⟨A1, c1, kv1, rfl, hp1, hk1⟩ := hx
  obtain ⟨A2, c2, kv2, rfl, hp2, hk2⟩ := hy
  have hb0 : Below w.heap.size w ((w.alloc (.cells #[.int .i64 t.op, .int .i64 t.num, .slice A1 t.perm.length c1, kv1] 46)).alloc (.cells #[.int .i64 t.op, .int .i64 t.num, .slice A2 t.perm.length c2, kv2] 46)) :=
    ((Below.refl _ _).alloc (Nat.le_refl _) _).alloc (by simp) _
  have heq := eqPairS_any A1 A2 c1 c2 t.perm t.perm _ (hp1.below hb0) (hp2.below hb0) (by omega)
  rw [decide_eq_true (rfl : t.perm = t.perm)] at heq
  have hk3 := hk1.below hb0
  have hk4 := hk2.below hb0
  have k1 : (t.op != t.op) = false := by simp
  have k2 : (t.num != t.num) = false := by simp
  generalize t.op = o at heq hb0 hk3 hk4 k1 ⊢
  generalize t.num = n at heq hb0 hk3 hk4 k2 ⊢
  generalize t.perm.length = pl at heq hb0 hk3 hk4 ⊢
  have hB1 : ((w.alloc (.cells #[.int .i64 o, .int .i64 n, .slice A1 pl c1, kv1] 46)).alloc (.cells #[.int .i64 o, .int .i64 n, .slice A2 pl c2, kv2] 46)).cell? ⟨w.heap.size, 3, none⟩ = some kv1 := by
    rw [cell_of_row _ w.heap.size 3 _ _ _ ((Below.heap_alloc _ _ _ (by simp)).trans (heap_alloc_new w _))]; rfl
  have hB2 : ((w.alloc (.cells #[.int .i64 o, .int .i64 n, .slice A1 pl c1, kv1] 46)).alloc (.cells #[.int .i64 o, .int .i64 n, .slice A2 pl c2, kv2] 46)).cell? ⟨w.heap.size + 1, 3, none⟩ = some kv2 := by
    have h9 := heap_alloc_new (w.alloc (.cells #[.int .i64 o, .int .i64 n, .slice A1 pl c1, kv1] 46)) (.cells #[.int .i64 o, .int .i64 n, .slice A2 pl c2, kv2] 46)
    rw [World.size_alloc] at h9
    rw [cell_of_row _ (w.heap.size + 1) 3 _ _ _ h9]; rfl
  have H1 := Lib.hid hB1
  have H2 := Lib.hid hB2
  clear hp1 hp2 hk1 hk2 hB1 hB2
  go_enter Tryz.func20, Tryz.ntmps20
  go_wp2_with fail
  refine heq.mono ?_
  rintro e w1 ⟨rfl, hb1⟩
  have d1 := (hb1.cell (p := ⟨w.heap.size, 3, none⟩) (by simp; omega)).trans H1.out
  have d2 := (hb1.cell (p := ⟨w.heap.size + 1, 3, none⟩) (by simp)).trans H2.out
  have hs1 := hb0.trans (hb1.mono hb0.size)
  have hih := ih w1 kv1 kv2 (hk3.below hb1) (hk4.below hb1)
  clear heq hb0 hb1 hk3 hk4 H1 H2 ih
  go_wp2_with fail
  refine hih.mono ?_
  rintro e w2 ⟨rfl, hb2⟩
  have hpost : YesPost w (.returned (.bool true)) w2 := ⟨rfl, hs1.trans (hb2.mono hs1.size)⟩
  clear hih hs1 hb2 d1 d2
  go_wp2
  go_ret
  exact hpost

theorem Calls.regrown_yes {f : FuncId} {args : Array Value} {w : World} {d : Nat} {os : Array Obj} (h : Calls Tryz.prog f args (grow (redrawn w d) os) (YesPost (grow (redrawn w d) os))) :
    Calls Tryz.prog f args (grow (redrawn w d) os) fun e w'' => e = .returned (.bool true) ∧ ∃ p : Regrown, w'' = grow (redrawn w p.d) p.os := Calls.regrown_of h

set_option maxRecDepth 100000 in
set_option maxHeartbeats 2000000 in
theorem eqTermS_step (ts : List Tm) (hlen : ts.length ≤ 1048576) (w : World) (x y : Value) (hx : TmsIn w x ts) (hy : TmsIn w y ts)
    (ih : ∀ i, i < ts.length → ∀ (w' : World) (x' y' : Value), TmIn w' x' (tmAt ts i) → TmIn w' y' (tmAt ts i) → Calls Tryz.prog 20 #[x', y'] w' (YesPost w')) :
    Calls Tryz.prog 62 #[x, y] w (YesPost w) := by
  obtain ⟨A, c, rfl⟩ := hx.form
  obtain ⟨B, d, rfl⟩ := hy.form
  have k0 : ((ts.length : Int) != (ts.length : Int)) = false := by simp
  go_enter Tryz.func62, Tryz.ntmps62
  go_wp2
  go_loopw [5] (fun i wr => ∃ k : Nat, k ≤ ts.length ∧ i = .int .i64 k ∧ Below w.heap.size w wr) (fun i _ => ts.length - (intOf i).toNat)
  case atStart => exact ⟨0, Nat.zero_le _, rfl, Below.refl _ _⟩
  case round =>
    obtain ⟨k, hk, rfl, hb⟩ := hrel
    by_cases hlt : k < ts.length
    · obtain ⟨b1, o1, rfl, hb1, hg1⟩ := (hx.below hb).get (by omega)
      obtain ⟨b2, o2, rfl, hb2, hg2⟩ := (hy.below hb).get (by omega)
      obtain ⟨A1, c1, kv1, d0, d1, d2, d3, hp1, hk1⟩ := hg1 k hlt
      obtain ⟨A2, c2, kv2, e0, e1, e2, e3, hp2, hk2⟩ := hg2 k hlt
      have hct := fun dq os => Calls.regrown_yes (ih k hlt (grow (redrawn wr dq) os) _ _ ⟨A1, c1, kv1, rfl, hp1.below (below_regrown wr dq os), hk1.below (below_regrown wr dq os)⟩ ⟨A2, c2, kv2, rfl, hp2.below (below_regrown wr dq os), hk2.below (below_regrown wr dq os)⟩)
      have p0 := fun d os => cell_regrown d0 d os
      have p1 := fun d os => cell_regrown d1 d os
      have p2 := fun d os => cell_regrown d2 d os
      have p3 := fun d os => cell_regrown d3 d os
      have q0 := fun d os => cell_regrown e0 d os
      have q1 := fun d os => cell_regrown e1 d os
      have q2 := fun d os => cell_regrown e2 d os
      have q3 := fun d os => cell_regrown e3 d os
      generalize tmAt ts k = t at hct p0 p1 p2 p3 q0 q1 q2 q3
      clear hg1 hg2 hp1 hp2 hk1 hk2 hx hy ih hb1 hb2 d0 d1 d2 d3 e0 e1 e2 e3
      go_wp2
      refine wp_region_quiet_below (by kernel_rfl) (by kernel_rfl) ?_
      repeat (any_goals (first | go_big_quiet_step ((go_at_call 20; exact hct _ _)) | quiet_step ((go_at_call 20; exact hct _ _))))
      refine wpQuiet_nil ?_
      intro _ hw'
      obtain ⟨⟨dq, osq⟩, hw''⟩ := hw'
      subst hw''
      have hb3 := hb.trans ((below_regrown wr dq osq).mono hb.size)
      clear p0 p1 p2 p3 q0 q1 q2 q3 hct
      generalize grow (redrawn wr dq) osq = w2 at *
      go_wp2
      refine ⟨⟨k + 1, by omega, by go_num, hb3⟩, ?_⟩
      simp only [intOf]
      omega
    · have hpost : YesPost w (.returned (.bool true)) wr := ⟨rfl, hb⟩
      clear hx hy ih hb
      go_wp2
      go_ret
      exact hpost

theorem eqTermS_any : ∀ (N : Nat) (ts : List Tm), szTs ts ≤ N → Fits ts → ts.length ≤ 1048576 → ∀ (w : World) (x y : Value), TmsIn w x ts → TmsIn w y ts → Calls Tryz.prog 62 #[x, y] w (YesPost w) := by
  intro N
  induction N with
  | zero =>
    intro ts hN hf hlen w x y hx hy
    exact eqTermS_step ts hlen w x y hx hy fun i hi => absurd (szTs_kid hi) (by omega)
  | succ N ih =>
    intro ts hN hf hlen w x y hx hy
    refine eqTermS_step ts hlen w x y hx hy fun i hi w' x' y' hx' hy' => ?_
    have h2 := (fit_eq _).1 (fits_at hf hi)
    exact eqTerm_of _ x' y' w' hx' hy' h2.1 fun w'' x'' y'' h3 h4 => ih _ (by have := szTs_kid hi; omega) h2.2.2 h2.2.1 w'' x'' y'' h3 h4

theorem eqTerm_any (t : Tm) (hf : Fit t) (w : World) (x y : Value) (hx : TmIn w x t) (hy : TmIn w y t) : Calls Tryz.prog 20 #[x, y] w (YesPost w) := by
  have h2 := (fit_eq _).1 hf
  exact eqTerm_of t x y w hx hy h2.1 fun w' x' y' h3 h4 => eqTermS_any _ _ (Nat.le_refl _) h2.2.2 h2.2.1 w' x' y' h3 h4

end Go.Proofs.YtlhjgjfnmejiaaaGreat
end

section
namespace Go.Proofs.YtlhjgjfnmejiaaaGreat
open Go.RowKit
set_option linter.unusedVariables false

structure RBinding where
  f0 : Int
  f1 : Tm
def zeroRBinding : RBinding := { f0 := 0, f1 := tm0 }
instance : Inhabited RBinding := ⟨zeroRBinding⟩
def atRBinding (rs : List RBinding) (i : Nat) : RBinding := rs.getD i zeroRBinding
theorem atRBinding_zero (r : RBinding) (rs : List RBinding) : atRBinding (r :: rs) 0 = r := rfl
theorem atRBinding_succ (r : RBinding) (rs : List RBinding) (i : Nat) : atRBinding (r :: rs) (i + 1) = atRBinding rs i := by simp [atRBinding]
theorem takeRBinding_next : ∀ {rs : List RBinding} {k : Nat}, k < rs.length → rs.take (k + 1) = rs.take k ++ [atRBinding rs k]
  | [], k, h => by simp at h
  | r :: rs, 0, _ => by simp [atRBinding_zero]
  | r :: rs, k + 1, h => by rw [List.take_succ_cons, List.take_succ_cons, takeRBinding_next (rs := rs) (by simpa using h), atRBinding_succ]; rfl
/-- The parts that are counted. -/
def cntRBinding (r : RBinding) : Nat := cntT r.f1
def sumRBinding : List RBinding → Nat
  | [] => 0
  | r :: rs => cntRBinding r + sumRBinding rs
theorem sumRBinding_append : ∀ a b : List RBinding, sumRBinding (a ++ b) = sumRBinding a + sumRBinding b
  | [], b => by simp [sumRBinding]
  | r :: a, b => by rw [List.cons_append, sumRBinding, sumRBinding, sumRBinding_append a b]; omega
theorem sumRBinding_next {rs : List RBinding} {k : Nat} (h : k < rs.length) : sumRBinding (rs.take (k + 1)) = sumRBinding (rs.take k) + cntRBinding (atRBinding rs k) := by
  rw [takeRBinding_next h, sumRBinding_append]; simp [sumRBinding]
theorem sumRBinding_take (rs : List RBinding) (k : Nat) : sumRBinding (rs.take k) ≤ sumRBinding rs := by
  have h := sumRBinding_append (rs.take k) (rs.drop k)
  rw [List.take_append_drop] at h
  omega
theorem cntRBinding_le : ∀ {rs : List RBinding} {k : Nat}, k < rs.length → cntRBinding (atRBinding rs k) ≤ sumRBinding rs
  | [], k, h => by simp at h
  | r :: rs, 0, _ => by rw [atRBinding_zero, sumRBinding]; omega
  | r :: rs, k + 1, h => by have := cntRBinding_le (rs := rs) (k := k) (by simpa using h); rw [atRBinding_succ, sumRBinding]; omega
/-- A value reads as a record. -/
def RBindingIn (w : World) (v : Value) (r : RBinding) : Prop := ∃ A1 c1 B1 d1, v = .agg #[.int .i64 r.f0, .int .i64 r.f1.op, .int .i64 r.f1.num, .slice A1 r.f1.perm.length c1, .slice B1 r.f1.kids.length d1] ∧ TmIn w (.agg #[.int .i64 r.f1.op, .int .i64 r.f1.num, .slice A1 r.f1.perm.length c1, .slice B1 r.f1.kids.length d1]) r.f1
/-- Cells read as a record. -/
def RBindingAt (w : World) (b off : Nat) (r : RBinding) : Prop := ∃ A1 c1 B1 d1, w.cell? ⟨b, off, none⟩ = some (.int .i64 r.f0) ∧ w.cell? ⟨b, off + 1, none⟩ = some (.int .i64 r.f1.op) ∧ w.cell? ⟨b, off + 2, none⟩ = some (.int .i64 r.f1.num) ∧ w.cell? ⟨b, off + 3, none⟩ = some (.slice A1 r.f1.perm.length c1) ∧ w.cell? ⟨b, off + 4, none⟩ = some (.slice B1 r.f1.kids.length d1) ∧ TmIn w (.agg #[.int .i64 r.f1.op, .int .i64 r.f1.num, .slice A1 r.f1.perm.length c1, .slice B1 r.f1.kids.length d1]) r.f1
/-- A slice reads as a list of records. -/
def RBindingsIn (w : World) (v : Value) (rs : List RBinding) : Prop :=
  ∃ B d, v = .slice B rs.length d ∧ (0 < rs.length → ∃ b off, B = some ⟨b, off, none⟩ ∧ b < w.heap.size ∧ ∀ k, k < rs.length → RBindingAt w b (off + k * 5) (atRBinding rs k))
theorem RBindingIn.below {w w' : World} {v : Value} {r : RBinding} (h : RBindingIn w v r) (hb : Below w.heap.size w w') : RBindingIn w' v r := by
  obtain ⟨A1, c1, B1, d1, e, h1⟩ := h
  exact ⟨A1, c1, B1, d1, e, h1.below hb⟩
theorem RBindingAt.below {w w' : World} {b off : Nat} {r : RBinding} (h : RBindingAt w b off r) (hl : b < w.heap.size) (hb : Below w.heap.size w w') : RBindingAt w' b off r := by
  obtain ⟨A1, c1, B1, d1, e0, e1, e2, e3, e4, h1⟩ := h
  exact ⟨A1, c1, B1, d1, (hb.cell (p := ⟨b, off, none⟩) hl).trans e0, (hb.cell (p := ⟨b, off + 1, none⟩) hl).trans e1, (hb.cell (p := ⟨b, off + 2, none⟩) hl).trans e2, (hb.cell (p := ⟨b, off + 3, none⟩) hl).trans e3, (hb.cell (p := ⟨b, off + 4, none⟩) hl).trans e4, h1.below hb⟩
theorem RBindingsIn.below {w w' : World} {v : Value} {rs : List RBinding} (h : RBindingsIn w v rs) (hb : Below w.heap.size w w') : RBindingsIn w' v rs := by
  obtain ⟨B, d, e, hg⟩ := h
  refine ⟨B, d, e, fun hp => ?_⟩
  obtain ⟨b, off, e2, hl, hk⟩ := hg hp
  exact ⟨b, off, e2, Nat.lt_of_lt_of_le hl hb.size, fun k hk' => (hk k hk').below hl hb⟩
end Go.Proofs.YtlhjgjfnmejiaaaGreat
end

section
namespace Go.Proofs.YtlhjgjfnmejiaaaGreat
open Go.RowKit
set_option linter.unusedVariables false

set_option maxRecDepth 100000 in
set_option maxHeartbeats 2000000 in
theorem szBinding_any (r : RBinding) (v : Value) (w : World) (left : Int) (h0 : 0 ≤ left) (h1 : left ≤ 1099511627776) (hv : RBindingIn w v r) (hs : Short r.f1) :
    Calls Tryz.prog 34 #[v, .int .i64 left] w (LeftPost left (cntRBinding r) w) := by
  obtain ⟨A1, c1, B1, d1, rfl, hv1⟩ := hv
  have hb0 : Below w.heap.size w (w.alloc (.cells #[.int .i64 r.f0, .int .i64 r.f1.op, .int .i64 r.f1.num, .slice A1 r.f1.perm.length c1, .slice B1 r.f1.kids.length d1] 73)) := (Below.refl _ _).alloc (Nat.le_refl _) _
  have k0 := heap_alloc_new w (.cells #[.int .i64 r.f0, .int .i64 r.f1.op, .int .i64 r.f1.num, .slice A1 r.f1.perm.length c1, .slice B1 r.f1.kids.length d1] 73)
  have m0 : (w.alloc (.cells #[.int .i64 r.f0, .int .i64 r.f1.op, .int .i64 r.f1.num, .slice A1 r.f1.perm.length c1, .slice B1 r.f1.kids.length d1] 73)).cell? ⟨w.heap.size, 0, none⟩ = some (.int .i64 r.f0) := by rw [cell_of_row _ _ 0 _ _ _ k0]; rfl
  have m1 : (w.alloc (.cells #[.int .i64 r.f0, .int .i64 r.f1.op, .int .i64 r.f1.num, .slice A1 r.f1.perm.length c1, .slice B1 r.f1.kids.length d1] 73)).cell? ⟨w.heap.size, 1, none⟩ = some (.int .i64 r.f1.op) := by rw [cell_of_row _ _ 1 _ _ _ k0]; rfl
  have m2 : (w.alloc (.cells #[.int .i64 r.f0, .int .i64 r.f1.op, .int .i64 r.f1.num, .slice A1 r.f1.perm.length c1, .slice B1 r.f1.kids.length d1] 73)).cell? ⟨w.heap.size, 2, none⟩ = some (.int .i64 r.f1.num) := by rw [cell_of_row _ _ 2 _ _ _ k0]; rfl
  have m3 : (w.alloc (.cells #[.int .i64 r.f0, .int .i64 r.f1.op, .int .i64 r.f1.num, .slice A1 r.f1.perm.length c1, .slice B1 r.f1.kids.length d1] 73)).cell? ⟨w.heap.size, 3, none⟩ = some (.slice A1 r.f1.perm.length c1) := by rw [cell_of_row _ _ 3 _ _ _ k0]; rfl
  have m4 : (w.alloc (.cells #[.int .i64 r.f0, .int .i64 r.f1.op, .int .i64 r.f1.num, .slice A1 r.f1.perm.length c1, .slice B1 r.f1.kids.length d1] 73)).cell? ⟨w.heap.size, 4, none⟩ = some (.slice B1 r.f1.kids.length d1) := by rw [cell_of_row _ _ 4 _ _ _ k0]; rfl
  have hsh := (short_eq r.f1).1 hs
  have hct := szTerm_of r.f1 _ _ left h0 h1 (hv1.below hb0) hsh.1 fun l' w' y g0 g1 hy => szTermS_any _ r.f1.kids (Nat.le_refl _) hsh.2.2 hsh.2.1 l' w' y g0 g1 hy
  have hcn : cntRBinding r = cntT r.f1 := rfl
  rw [hcn]
  unfold LeftPost at hct ⊢
  by_cases h3 : (cntT r.f1 : Int) ≤ left
  · rw [leftR_yes h3] at hct ⊢
    have hl : ¬ left - (cntT r.f1 : Int) < 0 := by omega
    generalize (cntT r.f1 : Int) = cc at hct hl ⊢
    clear hv1 hs hsh hcn h3 k0
    go_enter Tryz.func34, Tryz.ntmps34
    go_wp2_with fail
    refine hct.mono ?_
    rintro e w2 ⟨rfl, hb2⟩
    have hpost := hb0.trans (hb2.mono hb0.size)
    clear hct hb0 hb2 m0 m1 m2 m3 m4
    go_wp2
    go_ret
    exact ⟨rfl, hpost⟩
  · rw [leftR_no h3] at hct ⊢
    clear hv1 hs hsh hcn h3 k0
    go_enter Tryz.func34, Tryz.ntmps34
    go_wp2_with fail
    refine hct.mono ?_
    rintro e w2 ⟨rfl, hb2⟩
    have hpost := hb0.trans (hb2.mono hb0.size)
    clear hct hb0 hb2 m0 m1 m2 m3 m4
    go_wp2
    go_ret
    exact ⟨rfl, hpost⟩

/-- Every record of a list is short. -/
def ShortRBindings (rs : List RBinding) : Prop := ∀ k, k < rs.length → Short (atRBinding rs k).f1

set_option maxRecDepth 100000 in
set_option maxHeartbeats 2000000 in
theorem szBindingS_any (rs : List RBinding) (hsh : ShortRBindings rs) (hlen : rs.length ≤ maxLen) (left : Int) (w : World) (x : Value) (h0 : 0 ≤ left) (h1 : left ≤ 1099511627776) (hx : RBindingsIn w x rs) :
    Calls Tryz.prog 9 #[x, .int .i64 left] w (LeftPost left (rs.length + sumRBinding rs) w) := by
  obtain ⟨A, c, rfl, hg⟩ := hx
  unfold maxLen at hlen
  by_cases h2 : (rs.length : Int) ≤ left
  · have hl2 : ¬ left - (rs.length : Int) < 0 := by omega
    go_enter Tryz.func9, Tryz.ntmps9
    go_wp2
    go_loopw [1, 5] (fun l i wr => ∃ k : Nat, k ≤ rs.length ∧ i = .int .i64 k ∧ l = .int .i64 (left - rs.length - sumRBinding (rs.take k)) ∧ (sumRBinding (rs.take k) : Int) ≤ left - rs.length ∧ Below w.heap.size w wr) (fun _ i _ => rs.length - (intOf i).toNat)
    case atStart => exact ⟨0, Nat.zero_le _, rfl, by simp [sumRBinding], by simp [sumRBinding]; omega, Below.refl _ _⟩
    case round =>
      obtain ⟨k, hk, rfl, rfl, hle, hb⟩ := hrel
      by_cases hlt : k < rs.length
      · obtain ⟨b, off, rfl, hbl, hget⟩ := hg (by omega)
        obtain ⟨A1, c1, B1, d1, e0, e1, e2, e3, e4, h1⟩ := (hget k hlt).below hbl hb
        have hct := szBinding_any (atRBinding rs k) _ wr (left - rs.length - sumRBinding (rs.take k)) (by omega) (by omega) ⟨A1, c1, B1, d1, rfl, h1⟩ (hsh k hlt)
        have hnx := Lib.hid (sumRBinding_next hlt)
        have hst := sumRBinding_take rs (k + 1)
        generalize hc : cntRBinding (atRBinding rs k) = cc at hct hnx
        generalize hs : sumRBinding (rs.take k) = s at hct hnx hle
        generalize atRBinding rs k = r at *
        clear hget hg hc hs hsh h1
        by_cases h3 : (cc : Int) ≤ left - rs.length - s
        · have hl3 : ¬ left - (rs.length : Int) - (s : Int) - (cc : Int) < 0 := by omega
          unfold LeftPost at hct
          rw [leftR_yes h3] at hct
          have hse : Hid (((sumRBinding (rs.take (k + 1)) : Nat) : Int) = s + cc) := by show ((sumRBinding (rs.take (k + 1)) : Nat) : Int) = s + cc; rw [hnx.out]; omega
          clear hst
          go_wp2_with fail
          refine hct.mono ?_
          rintro e w2 ⟨rfl, hb2⟩
          have hb3 := hb.trans (hb2.mono hb.size)
          clear hct hb2 e0 e1 e2 e3 e4
          go_wp2
          refine ⟨⟨k + 1, by omega, by go_num, by rw [hse.out]; go_num, by rw [hse.out]; omega, hb3⟩, ?_⟩
          simp only [intOf]
          omega
        · unfold LeftPost at hct
          rw [leftR_no (by omega)] at hct
          have hr : Hid (leftR left (rs.length + sumRBinding rs) = -1) := by
            show leftR left (rs.length + sumRBinding rs) = -1
            refine leftR_no ?_
            have := hnx.out
            omega
          clear hst
          go_wp2_with fail
          refine hct.mono ?_
          rintro e w2 ⟨rfl, hb2⟩
          have hpost : LeftPost left (rs.length + sumRBinding rs) w (.returned (.int .i64 (-1))) w2 := ⟨by rw [hr.out], hb.trans (hb2.mono hb.size)⟩
          clear hct hb2 hr hb e0 e1 e2 e3 e4
          go_wp2
          go_ret
          exact hpost
      · have e : k = rs.length := by omega
        have hr : Hid (left - rs.length - sumRBinding (rs.take k) = leftR left (rs.length + sumRBinding rs)) := by
          show left - rs.length - sumRBinding (rs.take k) = leftR left (rs.length + sumRBinding rs)
          rw [List.take_of_length_le (by omega)] at hle ⊢
          rw [leftR_yes (by omega)]
          omega
        have hpost : LeftPost left (rs.length + sumRBinding rs) w (.returned (.int .i64 (left - rs.length - sumRBinding (rs.take k)))) wr := ⟨by rw [hr.out], hb⟩
        clear hg e hr hb
        go_wp2
        go_ret
        exact hpost
  · have hl2 : left - (rs.length : Int) < 0 := by omega
    have hpost : LeftPost left (rs.length + sumRBinding rs) w (.returned (.int .i64 (-1))) w := ⟨by rw [leftR_no (by omega)], Below.refl _ _⟩
    clear hg
    go_enter Tryz.func9, Tryz.ntmps9
    go_wp2
    go_ret
    exact hpost
end Go.Proofs.YtlhjgjfnmejiaaaGreat
end

section
namespace Go.Proofs.YtlhjgjfnmejiaaaGreat
open Go.RowKit
set_option linter.unusedVariables false

set_option maxRecDepth 100000 in
set_option maxHeartbeats 2000000 in
theorem eqBinding_any (r : RBinding) (hf1 : Fit r.f1) (w : World) (x y : Value) (hx : RBindingIn w x r) (hy : RBindingIn w y r) : Calls Tryz.prog 47 #[x, y] w (YesPost w) := by
  obtain ⟨A1, c1, B1, d1, rfl, hx1⟩ := hx
  obtain ⟨A1q, c1q, B1q, d1q, rfl, hy1⟩ := hy
  have hb0 : Below w.heap.size w ((w.alloc (.cells #[.int .i64 r.f0, .int .i64 r.f1.op, .int .i64 r.f1.num, .slice A1 r.f1.perm.length c1, .slice B1 r.f1.kids.length d1] 78)).alloc (.cells #[.int .i64 r.f0, .int .i64 r.f1.op, .int .i64 r.f1.num, .slice A1q r.f1.perm.length c1q, .slice B1q r.f1.kids.length d1q] 78)) := ((Below.refl _ w).alloc (Nat.le_refl _) _).alloc (by simp) _
  have k0 : ((w.alloc (.cells #[.int .i64 r.f0, .int .i64 r.f1.op, .int .i64 r.f1.num, .slice A1 r.f1.perm.length c1, .slice B1 r.f1.kids.length d1] 78)).alloc (.cells #[.int .i64 r.f0, .int .i64 r.f1.op, .int .i64 r.f1.num, .slice A1q r.f1.perm.length c1q, .slice B1q r.f1.kids.length d1q] 78)).heap[w.heap.size]? = some (.cells #[.int .i64 r.f0, .int .i64 r.f1.op, .int .i64 r.f1.num, .slice A1 r.f1.perm.length c1, .slice B1 r.f1.kids.length d1] 78 (0, 0)) := (Below.heap_alloc _ _ _ (by simp)).trans (heap_alloc_new w _)
  have k1 : ((w.alloc (.cells #[.int .i64 r.f0, .int .i64 r.f1.op, .int .i64 r.f1.num, .slice A1 r.f1.perm.length c1, .slice B1 r.f1.kids.length d1] 78)).alloc (.cells #[.int .i64 r.f0, .int .i64 r.f1.op, .int .i64 r.f1.num, .slice A1q r.f1.perm.length c1q, .slice B1q r.f1.kids.length d1q] 78)).heap[w.heap.size + 1]? = some (.cells #[.int .i64 r.f0, .int .i64 r.f1.op, .int .i64 r.f1.num, .slice A1q r.f1.perm.length c1q, .slice B1q r.f1.kids.length d1q] 78 (0, 0)) := by
    have h := heap_alloc_new (w.alloc (.cells #[.int .i64 r.f0, .int .i64 r.f1.op, .int .i64 r.f1.num, .slice A1 r.f1.perm.length c1, .slice B1 r.f1.kids.length d1] 78)) (.cells #[.int .i64 r.f0, .int .i64 r.f1.op, .int .i64 r.f1.num, .slice A1q r.f1.perm.length c1q, .slice B1q r.f1.kids.length d1q] 78)
    rw [World.size_alloc] at h
    exact h
  have m0 : ((w.alloc (.cells #[.int .i64 r.f0, .int .i64 r.f1.op, .int .i64 r.f1.num, .slice A1 r.f1.perm.length c1, .slice B1 r.f1.kids.length d1] 78)).alloc (.cells #[.int .i64 r.f0, .int .i64 r.f1.op, .int .i64 r.f1.num, .slice A1q r.f1.perm.length c1q, .slice B1q r.f1.kids.length d1q] 78)).cell? ⟨w.heap.size, 0, none⟩ = some (.int .i64 r.f0) := by rw [cell_of_row _ _ 0 _ _ _ k0]; rfl
  have m1 : ((w.alloc (.cells #[.int .i64 r.f0, .int .i64 r.f1.op, .int .i64 r.f1.num, .slice A1 r.f1.perm.length c1, .slice B1 r.f1.kids.length d1] 78)).alloc (.cells #[.int .i64 r.f0, .int .i64 r.f1.op, .int .i64 r.f1.num, .slice A1q r.f1.perm.length c1q, .slice B1q r.f1.kids.length d1q] 78)).cell? ⟨w.heap.size, 1, none⟩ = some (.int .i64 r.f1.op) := by rw [cell_of_row _ _ 1 _ _ _ k0]; rfl
  have m2 : ((w.alloc (.cells #[.int .i64 r.f0, .int .i64 r.f1.op, .int .i64 r.f1.num, .slice A1 r.f1.perm.length c1, .slice B1 r.f1.kids.length d1] 78)).alloc (.cells #[.int .i64 r.f0, .int .i64 r.f1.op, .int .i64 r.f1.num, .slice A1q r.f1.perm.length c1q, .slice B1q r.f1.kids.length d1q] 78)).cell? ⟨w.heap.size, 2, none⟩ = some (.int .i64 r.f1.num) := by rw [cell_of_row _ _ 2 _ _ _ k0]; rfl
  have m3 : ((w.alloc (.cells #[.int .i64 r.f0, .int .i64 r.f1.op, .int .i64 r.f1.num, .slice A1 r.f1.perm.length c1, .slice B1 r.f1.kids.length d1] 78)).alloc (.cells #[.int .i64 r.f0, .int .i64 r.f1.op, .int .i64 r.f1.num, .slice A1q r.f1.perm.length c1q, .slice B1q r.f1.kids.length d1q] 78)).cell? ⟨w.heap.size, 3, none⟩ = some (.slice A1 r.f1.perm.length c1) := by rw [cell_of_row _ _ 3 _ _ _ k0]; rfl
  have m4 : ((w.alloc (.cells #[.int .i64 r.f0, .int .i64 r.f1.op, .int .i64 r.f1.num, .slice A1 r.f1.perm.length c1, .slice B1 r.f1.kids.length d1] 78)).alloc (.cells #[.int .i64 r.f0, .int .i64 r.f1.op, .int .i64 r.f1.num, .slice A1q r.f1.perm.length c1q, .slice B1q r.f1.kids.length d1q] 78)).cell? ⟨w.heap.size, 4, none⟩ = some (.slice B1 r.f1.kids.length d1) := by rw [cell_of_row _ _ 4 _ _ _ k0]; rfl
  have m0q : ((w.alloc (.cells #[.int .i64 r.f0, .int .i64 r.f1.op, .int .i64 r.f1.num, .slice A1 r.f1.perm.length c1, .slice B1 r.f1.kids.length d1] 78)).alloc (.cells #[.int .i64 r.f0, .int .i64 r.f1.op, .int .i64 r.f1.num, .slice A1q r.f1.perm.length c1q, .slice B1q r.f1.kids.length d1q] 78)).cell? ⟨w.heap.size + 1, 0, none⟩ = some (.int .i64 r.f0) := by rw [cell_of_row _ _ 0 _ _ _ k1]; rfl
  have m1q : ((w.alloc (.cells #[.int .i64 r.f0, .int .i64 r.f1.op, .int .i64 r.f1.num, .slice A1 r.f1.perm.length c1, .slice B1 r.f1.kids.length d1] 78)).alloc (.cells #[.int .i64 r.f0, .int .i64 r.f1.op, .int .i64 r.f1.num, .slice A1q r.f1.perm.length c1q, .slice B1q r.f1.kids.length d1q] 78)).cell? ⟨w.heap.size + 1, 1, none⟩ = some (.int .i64 r.f1.op) := by rw [cell_of_row _ _ 1 _ _ _ k1]; rfl
  have m2q : ((w.alloc (.cells #[.int .i64 r.f0, .int .i64 r.f1.op, .int .i64 r.f1.num, .slice A1 r.f1.perm.length c1, .slice B1 r.f1.kids.length d1] 78)).alloc (.cells #[.int .i64 r.f0, .int .i64 r.f1.op, .int .i64 r.f1.num, .slice A1q r.f1.perm.length c1q, .slice B1q r.f1.kids.length d1q] 78)).cell? ⟨w.heap.size + 1, 2, none⟩ = some (.int .i64 r.f1.num) := by rw [cell_of_row _ _ 2 _ _ _ k1]; rfl
  have m3q : ((w.alloc (.cells #[.int .i64 r.f0, .int .i64 r.f1.op, .int .i64 r.f1.num, .slice A1 r.f1.perm.length c1, .slice B1 r.f1.kids.length d1] 78)).alloc (.cells #[.int .i64 r.f0, .int .i64 r.f1.op, .int .i64 r.f1.num, .slice A1q r.f1.perm.length c1q, .slice B1q r.f1.kids.length d1q] 78)).cell? ⟨w.heap.size + 1, 3, none⟩ = some (.slice A1q r.f1.perm.length c1q) := by rw [cell_of_row _ _ 3 _ _ _ k1]; rfl
  have m4q : ((w.alloc (.cells #[.int .i64 r.f0, .int .i64 r.f1.op, .int .i64 r.f1.num, .slice A1 r.f1.perm.length c1, .slice B1 r.f1.kids.length d1] 78)).alloc (.cells #[.int .i64 r.f0, .int .i64 r.f1.op, .int .i64 r.f1.num, .slice A1q r.f1.perm.length c1q, .slice B1q r.f1.kids.length d1q] 78)).cell? ⟨w.heap.size + 1, 4, none⟩ = some (.slice B1q r.f1.kids.length d1q) := by rw [cell_of_row _ _ 4 _ _ _ k1]; rfl
  have q0 : (r.f0 != r.f0) = false := by simp
  have hlt : w.heap.size + 1 < ((w.alloc (.cells #[.int .i64 r.f0, .int .i64 r.f1.op, .int .i64 r.f1.num, .slice A1 r.f1.perm.length c1, .slice B1 r.f1.kids.length d1] 78)).alloc (.cells #[.int .i64 r.f0, .int .i64 r.f1.op, .int .i64 r.f1.num, .slice A1q r.f1.perm.length c1q, .slice B1q r.f1.kids.length d1q] 78)).heap.size := by simp
  have HC : Hid (∀ w', Below ((w.alloc (.cells #[.int .i64 r.f0, .int .i64 r.f1.op, .int .i64 r.f1.num, .slice A1 r.f1.perm.length c1, .slice B1 r.f1.kids.length d1] 78)).alloc (.cells #[.int .i64 r.f0, .int .i64 r.f1.op, .int .i64 r.f1.num, .slice A1q r.f1.perm.length c1q, .slice B1q r.f1.kids.length d1q] 78)).heap.size ((w.alloc (.cells #[.int .i64 r.f0, .int .i64 r.f1.op, .int .i64 r.f1.num, .slice A1 r.f1.perm.length c1, .slice B1 r.f1.kids.length d1] 78)).alloc (.cells #[.int .i64 r.f0, .int .i64 r.f1.op, .int .i64 r.f1.num, .slice A1q r.f1.perm.length c1q, .slice B1q r.f1.kids.length d1q] 78)) w' → w'.cell? ⟨w.heap.size, 0, none⟩ = some (.int .i64 r.f0) ∧ w'.cell? ⟨w.heap.size, 1, none⟩ = some (.int .i64 r.f1.op) ∧ w'.cell? ⟨w.heap.size, 2, none⟩ = some (.int .i64 r.f1.num) ∧ w'.cell? ⟨w.heap.size, 3, none⟩ = some (.slice A1 r.f1.perm.length c1) ∧ w'.cell? ⟨w.heap.size, 4, none⟩ = some (.slice B1 r.f1.kids.length d1) ∧ w'.cell? ⟨w.heap.size + 1, 0, none⟩ = some (.int .i64 r.f0) ∧ w'.cell? ⟨w.heap.size + 1, 1, none⟩ = some (.int .i64 r.f1.op) ∧ w'.cell? ⟨w.heap.size + 1, 2, none⟩ = some (.int .i64 r.f1.num) ∧ w'.cell? ⟨w.heap.size + 1, 3, none⟩ = some (.slice A1q r.f1.perm.length c1q) ∧ w'.cell? ⟨w.heap.size + 1, 4, none⟩ = some (.slice B1q r.f1.kids.length d1q)) := Lib.hid fun w' h => ⟨(h.cell (p := ⟨w.heap.size, 0, none⟩) (show w.heap.size < _ by omega)).trans m0, (h.cell (p := ⟨w.heap.size, 1, none⟩) (show w.heap.size < _ by omega)).trans m1, (h.cell (p := ⟨w.heap.size, 2, none⟩) (show w.heap.size < _ by omega)).trans m2, (h.cell (p := ⟨w.heap.size, 3, none⟩) (show w.heap.size < _ by omega)).trans m3, (h.cell (p := ⟨w.heap.size, 4, none⟩) (show w.heap.size < _ by omega)).trans m4, (h.cell (p := ⟨w.heap.size + 1, 0, none⟩) hlt).trans m0q, (h.cell (p := ⟨w.heap.size + 1, 1, none⟩) hlt).trans m1q, (h.cell (p := ⟨w.heap.size + 1, 2, none⟩) hlt).trans m2q, (h.cell (p := ⟨w.heap.size + 1, 3, none⟩) hlt).trans m3q, (h.cell (p := ⟨w.heap.size + 1, 4, none⟩) hlt).trans m4q⟩
  have HE1 := Lib.hid (fun W (h : Below w.heap.size w W) => eqTerm_any r.f1 hf1 W _ _ (hx1.below h) (hy1.below h))
  have hbw := hb0
  have HB0 := Lib.hid hb0
  clear k0 k1 hlt hx1 hy1 hb0
  go_enter Tryz.func47, Tryz.ntmps47
  have he1 := HE1.out _ hbw
  go_wp2_with fail
  refine he1.mono ?_
  rintro e w1 ⟨rfl, hb1⟩
  have hbw1 := hbw.trans (hb1.mono hbw.size)
  clear he1 hb1 m0 m0q m1 m1q m2 m2q m3 m3q m4 m4q
  go_wp2
  go_ret
  exact ⟨rfl, hbw1⟩

set_option maxRecDepth 100000 in
set_option maxHeartbeats 4000000 in
theorem eqBindingS_any (rs : List RBinding) (hf : ∀ k, k < rs.length → Fit (atRBinding rs k).f1) (hlen : rs.length ≤ 1048576) (w : World) (x y : Value) (hx : RBindingsIn w x rs) (hy : RBindingsIn w y rs) : Calls Tryz.prog 15 #[x, y] w (YesPost w) := by
  obtain ⟨A, c, rfl, hg⟩ := hx
  obtain ⟨B, d, rfl, hg'⟩ := hy
  have hq0 : ((rs.length : Int) != (rs.length : Int)) = false := by simp
  go_enter Tryz.func15, Tryz.ntmps15
  go_wp2
  go_loopw [5] (fun i wr => ∃ k : Nat, k ≤ rs.length ∧ i = .int .i64 k ∧ Below w.heap.size w wr) (fun i _ => rs.length - (intOf i).toNat)
  case atStart => exact ⟨0, Nat.zero_le _, rfl, Below.refl _ _⟩
  case round =>
    obtain ⟨k, hk, rfl, hb⟩ := hrel
    by_cases hlt : k < rs.length
    · obtain ⟨b, off, rfl, hbl, hget⟩ := hg (by omega)
      obtain ⟨b', off', rfl, hbl', hget'⟩ := hg' (by omega)
      have hdw : Below wr.heap.size wr wr.drew := ⟨rfl, rfl, rfl, Nat.le_refl _, fun _ _ => rfl⟩
      have hbd := hb.trans (hdw.mono hb.size)
      obtain ⟨A1, c1, B1, d1, e0, e1, e2, e3, e4, h1⟩ := (hget k hlt).below hbl hbd
      obtain ⟨A1q, c1q, B1q, d1q, e0q, e1q, e2q, e3q, e4q, h1q⟩ := (hget' k hlt).below hbl' hbd
      have hct := eqBinding_any (atRBinding rs k) (hf k hlt) wr.drew _ _ ⟨A1, c1, B1, d1, rfl, h1⟩ ⟨A1q, c1q, B1q, d1q, rfl, h1q⟩
      have i1 : (k : Int) < (rs.length : Int) := by omega
      have i3 : (0 : Int) ≤ (k : Int) := by omega
      have hw1 : b < wr.drew.heap.size := Nat.lt_of_lt_of_le hbl hbd.size
      have hw2 : b' < wr.drew.heap.size := Nat.lt_of_lt_of_le hbl' hbd.size
      have HLT := Lib.hid hlt
      generalize atRBinding rs k = r at *
      clear hget hget' hg hg' hf h1 h1q hbl hbl'
      go_wp2
      go_region_held3 (fun w' => w'.cell? ⟨b, off + k * 5, none⟩ = some (.int .i64 r.f0) ∧ w'.cell? ⟨b, off + k * 5 + 1, none⟩ = some (.int .i64 r.f1.op) ∧ w'.cell? ⟨b, off + k * 5 + 2, none⟩ = some (.int .i64 r.f1.num) ∧ w'.cell? ⟨b, off + k * 5 + 3, none⟩ = some (.slice A1 r.f1.perm.length c1) ∧ w'.cell? ⟨b, off + k * 5 + 4, none⟩ = some (.slice B1 r.f1.kids.length d1) ∧ w'.cell? ⟨b', off' + k * 5, none⟩ = some (.int .i64 r.f0) ∧ w'.cell? ⟨b', off' + k * 5 + 1, none⟩ = some (.int .i64 r.f1.op) ∧ w'.cell? ⟨b', off' + k * 5 + 2, none⟩ = some (.int .i64 r.f1.num) ∧ w'.cell? ⟨b', off' + k * 5 + 3, none⟩ = some (.slice A1q r.f1.perm.length c1q) ∧ w'.cell? ⟨b', off' + k * 5 + 4, none⟩ = some (.slice B1q r.f1.kids.length d1q))
        (first | (with_reducible exact ⟨by assumption, by assumption, by assumption, by assumption, by assumption, by assumption, by assumption, by assumption, by assumption, by assumption⟩) | ((try dsimp only); exact ⟨by assumption, by assumption, by assumption, by assumption, by assumption, by assumption, by assumption, by assumption, by assumption, by assumption⟩) | go_keep)
        (first
          | (go_at_call 47; refine hct.mono ?_; rintro e w2 ⟨rfl, hb2⟩; have n0 := (hb2.cell (p := ⟨b, off + k * 5, none⟩) hw1).trans e0; have n1 := (hb2.cell (p := ⟨b, off + k * 5 + 1, none⟩) hw1).trans e1; have n2 := (hb2.cell (p := ⟨b, off + k * 5 + 2, none⟩) hw1).trans e2; have n3 := (hb2.cell (p := ⟨b, off + k * 5 + 3, none⟩) hw1).trans e3; have n4 := (hb2.cell (p := ⟨b, off + k * 5 + 4, none⟩) hw1).trans e4; have n0q := (hb2.cell (p := ⟨b', off' + k * 5, none⟩) hw2).trans e0q; have n1q := (hb2.cell (p := ⟨b', off' + k * 5 + 1, none⟩) hw2).trans e1q; have n2q := (hb2.cell (p := ⟨b', off' + k * 5 + 2, none⟩) hw2).trans e2q; have n3q := (hb2.cell (p := ⟨b', off' + k * 5 + 3, none⟩) hw2).trans e3q; have n4q := (hb2.cell (p := ⟨b', off' + k * 5 + 4, none⟩) hw2).trans e4q)
          | fail)
      have hb3 := hbd.trans (hb2.mono hbd.size)
      clear hct hb2 hdw hb hbd hw1 hw2 e0 e0q n0 n0q e1 e1q n1 n1q e2 e2q n2 n2q e3 e3q n3 n3q e4 e4q n4 n4q
      go_wp2
      have hlt' := HLT.out
      refine ⟨⟨k + 1, by omega, by go_num, hb3⟩, ?_⟩
      simp only [intOf]
      omega
    · have e : k = rs.length := by omega
      subst e
      clear hg hg' hf
      go_wp2
      go_ret
      exact ⟨rfl, hb⟩
end Go.Proofs.YtlhjgjfnmejiaaaGreat
end

section
namespace Go.Proofs.YtlhjgjfnmejiaaaGreat
open Go.RowKit Go.ChangeShapes Go.WideShapes
set_option linter.unusedVariables false

/-- The cells of a record. -/
def encRBinding (r : RBinding) : List Mem := [.cell (.int .i64 r.f0)] ++ encT r.f1
def encRBindings : List RBinding → List Mem
  | [] => []
  | r :: rs => encRBinding r ++ encRBindings rs
theorem encRBinding_len (r : RBinding) : (encRBinding r).length = 5 := by simp [encRBinding, encT_len]
theorem encRBindings_len : ∀ rs : List RBinding, (encRBindings rs).length = rs.length * 5
  | [] => rfl
  | r :: rs => by rw [encRBindings, List.length_append, encRBinding_len, encRBindings_len rs, List.length_cons]; omega
theorem encRBindings_append : ∀ a b : List RBinding, encRBindings (a ++ b) = encRBindings a ++ encRBindings b
  | [], b => rfl
  | r :: a, b => by rw [List.cons_append, encRBindings, encRBindings, encRBindings_append a b, List.append_assoc]
def memRBindings (rs : List RBinding) : Mem := .row 78 5 (encRBindings rs)
/-- A record of the call's own. -/
def RBindingOut (r : RBinding) (w : World) (e : Ending) (w' : World) : Prop :=
  ∃ P q K s S, e = .returned (.agg #[.int .i64 r.f0, .int .i64 r.f1.op, .int .i64 r.f1.num, .slice P r.f1.perm.length q, .slice K r.f1.kids.length s]) ∧ OwnL w' S [.int .i64 r.f0, .int .i64 r.f1.op, .int .i64 r.f1.num, .slice P r.f1.perm.length q, .slice K r.f1.kids.length s] (encRBinding r) ∧ (∀ b ∈ S, w.heap.size ≤ b) ∧ Below w.heap.size w w'
def RBindingsOut (rs : List RBinding) (w : World) (e : Ending) (w' : World) : Prop :=
  ∃ v S, e = .returned v ∧ Own w' S v (memRBindings rs) ∧ (∀ b ∈ S, w.heap.size ≤ b) ∧ Below w.heap.size w w'

set_option maxRecDepth 100000 in
set_option maxHeartbeats 2000000 in
theorem toBinding_any (r : RBinding) (hf : Fit r.f1) (w : World) (v : Value) (hv : RBindingIn w v r) : Calls Tryz.prog 41 #[v] w (RBindingOut r w) := by
  obtain ⟨A1, c1, B1, d1, rfl, hv1⟩ := hv
  have hb0 : Below w.heap.size w (((w.alloc (.cells #[.int .i64 r.f0, .int .i64 r.f1.op, .int .i64 r.f1.num, .slice A1 r.f1.perm.length c1, .slice B1 r.f1.kids.length d1] 73)).alloc (.cells #[.int .i64 0, .int .i64 0, .int .i64 0, .slice none 0 0, .slice none 0 0] 78)).alloc (.cells #[.int .i64 r.f0, .int .i64 0, .int .i64 0, .slice none 0 0, .slice none 0 0] 78)) := (((Below.refl _ _).alloc (Nat.le_refl _) _).alloc (by simp) _).alloc (by simp; omega) _
  have hto := toTerm_any r.f1 hf _ _ (hv1.below hb0)
  have hsz0 : (((w.alloc (.cells #[.int .i64 r.f0, .int .i64 r.f1.op, .int .i64 r.f1.num, .slice A1 r.f1.perm.length c1, .slice B1 r.f1.kids.length d1] 73)).alloc (.cells #[.int .i64 0, .int .i64 0, .int .i64 0, .slice none 0 0, .slice none 0 0] 78)).alloc (.cells #[.int .i64 r.f0, .int .i64 0, .int .i64 0, .slice none 0 0, .slice none 0 0] 78)).heap.size = w.heap.size + 3 := by simp
  have hbox : (((w.alloc (.cells #[.int .i64 r.f0, .int .i64 r.f1.op, .int .i64 r.f1.num, .slice A1 r.f1.perm.length c1, .slice B1 r.f1.kids.length d1] 73)).alloc (.cells #[.int .i64 0, .int .i64 0, .int .i64 0, .slice none 0 0, .slice none 0 0] 78)).alloc (.cells #[.int .i64 r.f0, .int .i64 0, .int .i64 0, .slice none 0 0, .slice none 0 0] 78)).heap[w.heap.size]? = some (.cells #[.int .i64 r.f0, .int .i64 r.f1.op, .int .i64 r.f1.num, .slice A1 r.f1.perm.length c1, .slice B1 r.f1.kids.length d1] 73 (0, 0)) := (Below.heap_alloc _ _ _ (by simp; omega)).trans ((Below.heap_alloc _ _ _ (by simp)).trans (heap_alloc_new w _))
  have hres : (((w.alloc (.cells #[.int .i64 r.f0, .int .i64 r.f1.op, .int .i64 r.f1.num, .slice A1 r.f1.perm.length c1, .slice B1 r.f1.kids.length d1] 73)).alloc (.cells #[.int .i64 0, .int .i64 0, .int .i64 0, .slice none 0 0, .slice none 0 0] 78)).alloc (.cells #[.int .i64 r.f0, .int .i64 0, .int .i64 0, .slice none 0 0, .slice none 0 0] 78)).heap[w.heap.size + 1]? = some (.cells #[.int .i64 0, .int .i64 0, .int .i64 0, .slice none 0 0, .slice none 0 0] 78 (0, 0)) := by
    have h9 := heap_alloc_new (w.alloc (.cells #[.int .i64 r.f0, .int .i64 r.f1.op, .int .i64 r.f1.num, .slice A1 r.f1.perm.length c1, .slice B1 r.f1.kids.length d1] 73)) (.cells #[.int .i64 0, .int .i64 0, .int .i64 0, .slice none 0 0, .slice none 0 0] 78)
    rw [World.size_alloc] at h9
    exact (Below.heap_alloc _ _ _ (by simp)).trans h9
  have hout : (((w.alloc (.cells #[.int .i64 r.f0, .int .i64 r.f1.op, .int .i64 r.f1.num, .slice A1 r.f1.perm.length c1, .slice B1 r.f1.kids.length d1] 73)).alloc (.cells #[.int .i64 0, .int .i64 0, .int .i64 0, .slice none 0 0, .slice none 0 0] 78)).alloc (.cells #[.int .i64 r.f0, .int .i64 0, .int .i64 0, .slice none 0 0, .slice none 0 0] 78)).heap[w.heap.size + 1 + 1]? = some (.cells #[.int .i64 r.f0, .int .i64 0, .int .i64 0, .slice none 0 0, .slice none 0 0] 78 (0, 0)) := by
    have h9 := heap_alloc_new ((w.alloc (.cells #[.int .i64 r.f0, .int .i64 r.f1.op, .int .i64 r.f1.num, .slice A1 r.f1.perm.length c1, .slice B1 r.f1.kids.length d1] 73)).alloc (.cells #[.int .i64 0, .int .i64 0, .int .i64 0, .slice none 0 0, .slice none 0 0] 78)) (.cells #[.int .i64 r.f0, .int .i64 0, .int .i64 0, .slice none 0 0, .slice none 0 0] 78)
    rw [World.size_alloc, World.size_alloc] at h9
    exact h9
  have l0 : (((w.alloc (.cells #[.int .i64 r.f0, .int .i64 r.f1.op, .int .i64 r.f1.num, .slice A1 r.f1.perm.length c1, .slice B1 r.f1.kids.length d1] 73)).alloc (.cells #[.int .i64 0, .int .i64 0, .int .i64 0, .slice none 0 0, .slice none 0 0] 78)).alloc (.cells #[.int .i64 r.f0, .int .i64 0, .int .i64 0, .slice none 0 0, .slice none 0 0] 78)).cell? ⟨w.heap.size, 0, none⟩ = some (.int .i64 r.f0) := by rw [cell_of_row _ _ 0 _ _ _ hbox]; rfl
  have l1 : (((w.alloc (.cells #[.int .i64 r.f0, .int .i64 r.f1.op, .int .i64 r.f1.num, .slice A1 r.f1.perm.length c1, .slice B1 r.f1.kids.length d1] 73)).alloc (.cells #[.int .i64 0, .int .i64 0, .int .i64 0, .slice none 0 0, .slice none 0 0] 78)).alloc (.cells #[.int .i64 r.f0, .int .i64 0, .int .i64 0, .slice none 0 0, .slice none 0 0] 78)).cell? ⟨w.heap.size, 1, none⟩ = some (.int .i64 r.f1.op) := by rw [cell_of_row _ _ 1 _ _ _ hbox]; rfl
  have l2 : (((w.alloc (.cells #[.int .i64 r.f0, .int .i64 r.f1.op, .int .i64 r.f1.num, .slice A1 r.f1.perm.length c1, .slice B1 r.f1.kids.length d1] 73)).alloc (.cells #[.int .i64 0, .int .i64 0, .int .i64 0, .slice none 0 0, .slice none 0 0] 78)).alloc (.cells #[.int .i64 r.f0, .int .i64 0, .int .i64 0, .slice none 0 0, .slice none 0 0] 78)).cell? ⟨w.heap.size, 2, none⟩ = some (.int .i64 r.f1.num) := by rw [cell_of_row _ _ 2 _ _ _ hbox]; rfl
  have l3 : (((w.alloc (.cells #[.int .i64 r.f0, .int .i64 r.f1.op, .int .i64 r.f1.num, .slice A1 r.f1.perm.length c1, .slice B1 r.f1.kids.length d1] 73)).alloc (.cells #[.int .i64 0, .int .i64 0, .int .i64 0, .slice none 0 0, .slice none 0 0] 78)).alloc (.cells #[.int .i64 r.f0, .int .i64 0, .int .i64 0, .slice none 0 0, .slice none 0 0] 78)).cell? ⟨w.heap.size, 3, none⟩ = some (.slice A1 r.f1.perm.length c1) := by rw [cell_of_row _ _ 3 _ _ _ hbox]; rfl
  have l4 : (((w.alloc (.cells #[.int .i64 r.f0, .int .i64 r.f1.op, .int .i64 r.f1.num, .slice A1 r.f1.perm.length c1, .slice B1 r.f1.kids.length d1] 73)).alloc (.cells #[.int .i64 0, .int .i64 0, .int .i64 0, .slice none 0 0, .slice none 0 0] 78)).alloc (.cells #[.int .i64 r.f0, .int .i64 0, .int .i64 0, .slice none 0 0, .slice none 0 0] 78)).cell? ⟨w.heap.size, 4, none⟩ = some (.slice B1 r.f1.kids.length d1) := by rw [cell_of_row _ _ 4 _ _ _ hbox]; rfl
  have HS0 := Lib.hid hsz0
  have HO := Lib.hid hout
  have HR := Lib.hid hres
  clear hsz0 hbox hout hres hv1
  go_enter Tryz.func41, Tryz.ntmps41
  go_wp2_with fail
  refine hto.mono ?_
  rintro e w1 ⟨P, q, K, s, S, rfl, hL, hS, hb1⟩
  have hrx := (hb1.block (w.heap.size + 1) (by rw [HS0.out]; omega)).trans HR.out
  have hox := (hb1.block (w.heap.size + 1 + 1) (by rw [HS0.out]; omega)).trans HO.out
  rw [HS0.out] at hS
  have hbz := hb0.trans (hb1.mono hb0.size)
  have hL1 : OwnL w1 S [.int .i64 r.f0, .int .i64 r.f1.op, .int .i64 r.f1.num, .slice P r.f1.perm.length q, .slice K r.f1.kids.length s] (encRBinding r) := by
    have h : OwnL w1 ([] ++ S) [.int .i64 r.f0, .int .i64 r.f1.op, .int .i64 r.f1.num, .slice P r.f1.perm.length q, .slice K r.f1.kids.length s] (.cell (.int .i64 r.f0) :: encT r.f1) := (.cons (S := []) (.cell _) hL (fun b hb => by simp at hb))
    exact h
  have neX : ∀ b ∈ S, b ≠ w.heap.size + 1 + 1 := fun b hb => by have := hS b hb; omega
  have neR : ∀ b ∈ S, b ≠ w.heap.size + 1 := fun b hb => by have := hS b hb; omega
  have hpost : RBindingOut r w (.returned (.agg #[.int .i64 r.f0, .int .i64 r.f1.op, .int .i64 r.f1.num, .slice P r.f1.perm.length q, .slice K r.f1.kids.length s])) (((((((((w1.setCell ⟨w.heap.size + 1 + 1, 1, none⟩ (.int .i64 r.f1.op)).setCell ⟨w.heap.size + 1 + 1, 2, none⟩ (.int .i64 r.f1.num)).setCell ⟨w.heap.size + 1 + 1, 3, none⟩ (.slice P r.f1.perm.length q)).setCell ⟨w.heap.size + 1 + 1, 4, none⟩ (.slice K r.f1.kids.length s)).setCell ⟨w.heap.size + 1, 0, none⟩ (.int .i64 r.f0)).setCell ⟨w.heap.size + 1, 1, none⟩ (.int .i64 r.f1.op)).setCell ⟨w.heap.size + 1, 2, none⟩ (.int .i64 r.f1.num)).setCell ⟨w.heap.size + 1, 3, none⟩ (.slice P r.f1.perm.length q)).setCell ⟨w.heap.size + 1, 4, none⟩ (.slice K r.f1.kids.length s)) :=
    ⟨P, q, K, s, S, rfl, (((((((((hL1.setOther ⟨w.heap.size + 1 + 1, 1, none⟩ (.int .i64 r.f1.op) neX).setOther ⟨w.heap.size + 1 + 1, 2, none⟩ (.int .i64 r.f1.num) neX).setOther ⟨w.heap.size + 1 + 1, 3, none⟩ (.slice P r.f1.perm.length q) neX).setOther ⟨w.heap.size + 1 + 1, 4, none⟩ (.slice K r.f1.kids.length s) neX).setOther ⟨w.heap.size + 1, 0, none⟩ (.int .i64 r.f0) neR).setOther ⟨w.heap.size + 1, 1, none⟩ (.int .i64 r.f1.op) neR).setOther ⟨w.heap.size + 1, 2, none⟩ (.int .i64 r.f1.num) neR).setOther ⟨w.heap.size + 1, 3, none⟩ (.slice P r.f1.perm.length q) neR).setOther ⟨w.heap.size + 1, 4, none⟩ (.slice K r.f1.kids.length s) neR), fun b hb => by have := hS b hb; omega, (((((((((hbz.setCell (p := ⟨w.heap.size + 1 + 1, 1, none⟩) (show w.heap.size ≤ w.heap.size + 1 + 1 by omega) (.int .i64 r.f1.op)).setCell (p := ⟨w.heap.size + 1 + 1, 2, none⟩) (show w.heap.size ≤ w.heap.size + 1 + 1 by omega) (.int .i64 r.f1.num)).setCell (p := ⟨w.heap.size + 1 + 1, 3, none⟩) (show w.heap.size ≤ w.heap.size + 1 + 1 by omega) (.slice P r.f1.perm.length q)).setCell (p := ⟨w.heap.size + 1 + 1, 4, none⟩) (show w.heap.size ≤ w.heap.size + 1 + 1 by omega) (.slice K r.f1.kids.length s)).setCell (p := ⟨w.heap.size + 1, 0, none⟩) (show w.heap.size ≤ w.heap.size + 1 by omega) (.int .i64 r.f0)).setCell (p := ⟨w.heap.size + 1, 1, none⟩) (show w.heap.size ≤ w.heap.size + 1 by omega) (.int .i64 r.f1.op)).setCell (p := ⟨w.heap.size + 1, 2, none⟩) (show w.heap.size ≤ w.heap.size + 1 by omega) (.int .i64 r.f1.num)).setCell (p := ⟨w.heap.size + 1, 3, none⟩) (show w.heap.size ≤ w.heap.size + 1 by omega) (.slice P r.f1.perm.length q)).setCell (p := ⟨w.heap.size + 1, 4, none⟩) (show w.heap.size ≤ w.heap.size + 1 by omega) (.slice K r.f1.kids.length s))⟩
  have x0 : w1.cell? ⟨w.heap.size + 1 + 1, 0, none⟩ = some (.int .i64 r.f0) := by rw [cell_of_row w1 (w.heap.size + 1 + 1) 0 _ _ _ hox]; rfl
  have y0 : w1.frozen? ⟨w.heap.size + 1 + 1, 0, none⟩ = false := frozen_of_row w1 (w.heap.size + 1 + 1) 0 _ _ hox
  have x1 : w1.cell? ⟨w.heap.size + 1 + 1, 1, none⟩ = some (.int .i64 0) := by rw [cell_of_row w1 (w.heap.size + 1 + 1) 1 _ _ _ hox]; rfl
  have y1 : w1.frozen? ⟨w.heap.size + 1 + 1, 1, none⟩ = false := frozen_of_row w1 (w.heap.size + 1 + 1) 1 _ _ hox
  have x2 : w1.cell? ⟨w.heap.size + 1 + 1, 2, none⟩ = some (.int .i64 0) := by rw [cell_of_row w1 (w.heap.size + 1 + 1) 2 _ _ _ hox]; rfl
  have y2 : w1.frozen? ⟨w.heap.size + 1 + 1, 2, none⟩ = false := frozen_of_row w1 (w.heap.size + 1 + 1) 2 _ _ hox
  have x3 : w1.cell? ⟨w.heap.size + 1 + 1, 3, none⟩ = some (.slice none 0 0) := by rw [cell_of_row w1 (w.heap.size + 1 + 1) 3 _ _ _ hox]; rfl
  have y3 : w1.frozen? ⟨w.heap.size + 1 + 1, 3, none⟩ = false := frozen_of_row w1 (w.heap.size + 1 + 1) 3 _ _ hox
  have x4 : w1.cell? ⟨w.heap.size + 1 + 1, 4, none⟩ = some (.slice none 0 0) := by rw [cell_of_row w1 (w.heap.size + 1 + 1) 4 _ _ _ hox]; rfl
  have y4 : w1.frozen? ⟨w.heap.size + 1 + 1, 4, none⟩ = false := frozen_of_row w1 (w.heap.size + 1 + 1) 4 _ _ hox
  have r0 : w1.cell? ⟨w.heap.size + 1, 0, none⟩ = some (.int .i64 0) := by rw [cell_of_row w1 (w.heap.size + 1) 0 _ _ _ hrx]; rfl
  have z0 : w1.frozen? ⟨w.heap.size + 1, 0, none⟩ = false := frozen_of_row w1 (w.heap.size + 1) 0 _ _ hrx
  have r1 : w1.cell? ⟨w.heap.size + 1, 1, none⟩ = some (.int .i64 0) := by rw [cell_of_row w1 (w.heap.size + 1) 1 _ _ _ hrx]; rfl
  have z1 : w1.frozen? ⟨w.heap.size + 1, 1, none⟩ = false := frozen_of_row w1 (w.heap.size + 1) 1 _ _ hrx
  have r2 : w1.cell? ⟨w.heap.size + 1, 2, none⟩ = some (.int .i64 0) := by rw [cell_of_row w1 (w.heap.size + 1) 2 _ _ _ hrx]; rfl
  have z2 : w1.frozen? ⟨w.heap.size + 1, 2, none⟩ = false := frozen_of_row w1 (w.heap.size + 1) 2 _ _ hrx
  have r3 : w1.cell? ⟨w.heap.size + 1, 3, none⟩ = some (.slice none 0 0) := by rw [cell_of_row w1 (w.heap.size + 1) 3 _ _ _ hrx]; rfl
  have z3 : w1.frozen? ⟨w.heap.size + 1, 3, none⟩ = false := frozen_of_row w1 (w.heap.size + 1) 3 _ _ hrx
  have r4 : w1.cell? ⟨w.heap.size + 1, 4, none⟩ = some (.slice none 0 0) := by rw [cell_of_row w1 (w.heap.size + 1) 4 _ _ _ hrx]; rfl
  have z4 : w1.frozen? ⟨w.heap.size + 1, 4, none⟩ = false := frozen_of_row w1 (w.heap.size + 1) 4 _ _ hrx
  clear hto hb0 hb1 hL hL1 hS hbz neX neR hrx hox HS0 HO HR l0 l1 l2 l3 l4
  go_wp2
  exact bodyPost_ret (v := .agg #[.int .i64 r.f0, .int .i64 r.f1.op, .int .i64 r.f1.num, .slice P r.f1.perm.length q, .slice K r.f1.kids.length s]) (by simp [results, Tryz.results41, go_sem, r0, r1, r2, r3, r4]) rfl hpost
end Go.Proofs.YtlhjgjfnmejiaaaGreat
end

section
namespace Go.Proofs.YtlhjgjfnmejiaaaGreat
open Go.RowKit Go.ChangeShapes Go.WideShapes
set_option linter.unusedVariables false

theorem take_set5' {xs : List Value} {j : Nat} {a0 a1 a2 a3 a4 : Value} (h : j + 5 ≤ xs.length) : (((((xs.set (j) a0).set (j + 1) a1).set (j + 2) a2).set (j + 3) a3).set (j + 4) a4).take (j + 5) = xs.take j ++ [a0, a1, a2, a3, a4] := by
  apply List.ext_getElem?
  intro i
  rw [List.getElem?_take]
  by_cases hi : i < j + 5
  · rw [if_pos hi]
    by_cases h1 : i < j
    · rw [List.getElem?_append_left (by rw [List.length_take]; omega), List.getElem?_take, if_pos h1]
      simp [show ¬ j = i by omega, show ¬ j + 1 = i by omega, show ¬ j + 2 = i by omega, show ¬ j + 3 = i by omega, show ¬ j + 4 = i by omega]
    · rw [List.getElem?_append_right (by rw [List.length_take]; omega), List.length_take, show min j xs.length = j by omega]
      have hc : i = j ∨ i = j + 1 ∨ i = j + 2 ∨ i = j + 3 ∨ i = j + 4 := by omega
      rcases hc with rfl | rfl | rfl | rfl | rfl
      · simp [show i < xs.length by omega]
      · simp [show j + 1 < xs.length by omega, show j + 1 - j = 1 by omega]
      · simp [show j + 2 < xs.length by omega, show j + 2 - j = 2 by omega]
      · simp [show j + 3 < xs.length by omega, show j + 3 - j = 3 by omega]
      · simp [show j + 4 < xs.length by omega, show j + 4 - j = 4 by omega]
  · rw [if_neg hi, List.getElem?_eq_none (by rw [List.length_append, List.length_take]; simp; omega)]

theorem infoRBinding : (Tryz.prog.info? 78).map (fun i => (i.zero, i.size, i.bytes)) = some (some (.agg #[.int .i64 0, .int .i64 0, .int .i64 0, .slice none 0 0, .slice none 0 0]), 5, 72) := by kernel_rfl

/-- Every term of a list of records fits. -/
def FitRBindings (rs : List RBinding) : Prop := ∀ k, k < rs.length → Fit (atRBinding rs k).f1

set_option maxRecDepth 100000 in
set_option maxHeartbeats 4000000 in
theorem toBindingS_any (rs : List RBinding) (hf : FitRBindings rs) (hlen : rs.length ≤ 1048576) (w : World) (x : Value) (hx : RBindingsIn w x rs) : Calls Tryz.prog 12 #[x] w (RBindingsOut rs w) := by
  obtain ⟨A, c, rfl, hg⟩ := hx
  obtain ⟨i0, hi0, hz0, hz1, hz2⟩ := info_parts infoRBinding
  have HS := Lib.hid hz2
  clear hz2
  go_enter Tryz.func12, Tryz.ntmps12
  go_wp2_with (at_make; refine wpList_make_full _ rfl (.tmp 6) (.tmp 6) 29 rfl w.heap.size 78 i0 _ 5 Tryz.underlying29 hi0 hz0 hz1 .i64 .i64 _ _ rs.length rfl rfl rfl rfl ?c1 ?c2 (Nat.le_refl _) ?_)
  case c1 => rw [HS.out]; omega
  case c2 => unfold maxLen; omega
  intro w1 ho hgw
  have hb0 := (Below.refl w.heap.size w).grown hgw (Nat.le_refl _) (fun k hk => by cases hk)
  clear hgw
  generalize hz : (madeCells #[Value.int .i64 0, Value.int .i64 0, Value.int .i64 0, Value.slice none 0 0, Value.slice none 0 0] (rs.length * 5)).toList = zs at ho
  clear hz
  have hlt0 : w.heap.size < w1.heap.size := (ho.lt w.heap.size rfl).2
  go_wp2
  go_loopw [4] (fun i wr => ∃ (k : Nat) (S : List Nat) (xs : List Value), k ≤ rs.length ∧ i = .int .i64 k ∧ wr.ownsRow w.heap.size 78 5 (.slice (some ⟨w.heap.size, 0, none⟩) rs.length rs.length) rs.length xs ∧ OwnL wr S (xs.take (k * 5)) (encRBindings (rs.take k)) ∧ (∀ b ∈ S, w.heap.size < b) ∧ Below w.heap.size w wr) (fun i _ => rs.length - (intOf i).toNat)
  case atStart => exact ⟨0, [], zs, Nat.zero_le _, rfl, ho, by simp [encRBindings]; exact .nil, fun b hb => by simp at hb, hb0⟩
  case round =>
    clear ho hb0
    obtain ⟨k, S, xs, hk, rfl, ho, hL, hSb, hb⟩ := hrel
    have hwr : w.heap.size < wr.heap.size := (ho.lt w.heap.size rfl).2
    by_cases hlt : k < rs.length
    · obtain ⟨b, off, rfl, hbl, hget⟩ := hg (by omega)
      obtain ⟨A1, c1, B1, d1, e0, e1, e2, e3, e4, h1⟩ := (hget k hlt).below hbl hb
      have hct := toBinding_any (atRBinding rs k) (hf k hlt) wr _ ⟨A1, c1, B1, d1, rfl, h1⟩
      have hnx := Lib.hid (congrArg encRBindings (takeRBinding_next hlt))
      generalize atRBinding rs k = r at *
      clear hget h1 hg hf hbl
      go_wp2_with fail
      refine hct.mono ?_
      rintro e w2 ⟨P1, q1, K1, s1, Q, rfl, hQ, hQb, hb2⟩
      have ho2 := own_below ho hb2
      have hL2 := hL.alike (w' := w2) fun b hb' => hb2.block b (hL.lt b hb')
      have hb3 := hb.trans (hb2.mono hb.size)
      have hxl := ho2.1
      obtain ⟨v0, u0⟩ := some_of_lt xs (k * 5) (by omega)
      obtain ⟨v1, u1⟩ := some_of_lt xs (k * 5 + 1) (by omega)
      obtain ⟨v2, u2⟩ := some_of_lt xs (k * 5 + 2) (by omega)
      obtain ⟨v3, u3⟩ := some_of_lt xs (k * 5 + 3) (by omega)
      obtain ⟨v4, u4⟩ := some_of_lt xs (k * 5 + 4) (by omega)
      have g0 := (ho2.cellAt (k * 5) (by omega)).trans u0
      have g1 := (ho2.cellAt (k * 5 + 1) (by omega)).trans u1
      have g2 := (ho2.cellAt (k * 5 + 2) (by omega)).trans u2
      have g3 := (ho2.cellAt (k * 5 + 3) (by omega)).trans u3
      have g4 := (ho2.cellAt (k * 5 + 4) (by omega)).trans u4
      have f0 := ho2.frozenAt (k * 5)
      have f1 := ho2.frozenAt (k * 5 + 1)
      have f2 := ho2.frozenAt (k * 5 + 2)
      have f3 := ho2.frozenAt (k * 5 + 3)
      have f4 := ho2.frozenAt (k * 5 + 4)
      obtain ⟨o0, q0g⟩ := ho2.stored (k * 5) (.int .i64 r.f0)
      obtain ⟨o1, q1g⟩ := o0.stored (k * 5 + 1) (.int .i64 r.f1.op)
      obtain ⟨o2, q2g⟩ := o1.stored (k * 5 + 2) (.int .i64 r.f1.num)
      obtain ⟨o3, q3g⟩ := o2.stored (k * 5 + 3) (.slice P1 r.f1.perm.length q1)
      obtain ⟨o4, q4g⟩ := o3.stored (k * 5 + 4) (.slice K1 r.f1.kids.length s1)
      have hq := (grownBy_trans q0g (grownBy_trans q1g (grownBy_trans q2g (grownBy_trans q3g q4g))))
      have hL3 := hL2.kept hq (fun b hb' => by have := hSb b hb'; intro e; injection e with e; omega)
      have hR3 := hQ.kept hq (fun b hb' => by have := hQb b hb'; intro e; injection e with e; omega)
      have hdis : ∀ b ∈ S, b ∉ Q := fun b h1 h2 => by have h3 := hL.lt b h1; have h4 := hQb b h2; omega
      have hL4 := hL3.append hR3 hdis
      have hb5 := hb3.grown hq hb3.size (fun j hj => by injection hj with hj; omega)
      have htk : Hid ((((((xs.set (k * 5) (.int .i64 r.f0)).set (k * 5 + 1) (.int .i64 r.f1.op)).set (k * 5 + 2) (.int .i64 r.f1.num)).set (k * 5 + 3) (.slice P1 r.f1.perm.length q1)).set (k * 5 + 4) (.slice K1 r.f1.kids.length s1)).take ((k + 1) * 5) = xs.take (k * 5) ++ [.int .i64 r.f0, .int .i64 r.f1.op, .int .i64 r.f1.num, .slice P1 r.f1.perm.length q1, .slice K1 r.f1.kids.length s1]) := by
        show (((((xs.set (k * 5) (.int .i64 r.f0)).set (k * 5 + 1) (.int .i64 r.f1.op)).set (k * 5 + 2) (.int .i64 r.f1.num)).set (k * 5 + 3) (.slice P1 r.f1.perm.length q1)).set (k * 5 + 4) (.slice K1 r.f1.kids.length s1)).take ((k + 1) * 5) = xs.take (k * 5) ++ [.int .i64 r.f0, .int .i64 r.f1.op, .int .i64 r.f1.num, .slice P1 r.f1.perm.length q1, .slice K1 r.f1.kids.length s1]
        rw [show (k + 1) * 5 = k * 5 + 5 by omega]
        exact take_set5' (by omega)
      have hL5 := hL4
      rw [← htk.out, ← (show encRBindings [r] = encRBinding r by simp [encRBindings]), ← encRBindings_append, ← hnx.out] at hL5
      have hSR : ∀ b ∈ S ++ Q, w.heap.size < b := fun b hb' => by
        rcases List.mem_append.1 hb' with h | h
        · exact hSb b h
        · have := hQb b h; omega
      clear ho ho2 hL hL2 hL3 hL4 hQ hR3 hb hb2 hb3 q0g q1g q2g q3g q4g hq o0 o1 o2 o3 u0 u1 u2 u3 u4 hxl hct hnx htk hdis hSb hQb e0 e1 e2 e3 e4
      go_wp2
      refine ⟨⟨k + 1, S ++ Q, _, by omega, by go_num, o4, hL5, hSR, hb5⟩, ?_⟩
      simp only [intOf]
      omega
    · have e : k = rs.length := by omega
      subst e
      have hl := ho.1
      rw [List.take_of_length_le (by omega), List.take_of_length_le (Nat.le_refl _)] at hL
      have hpost : RBindingsOut rs w (.returned (.slice (some ⟨w.heap.size, 0, none⟩) rs.length rs.length)) wr :=
        ⟨_, w.heap.size :: S, rfl, .row (encRBindings_len rs) (own_le ho (Nat.zero_le _)) hL (fun h => by have := hSb _ h; omega), fun b hb' => by
          rcases List.mem_cons.1 hb' with h | h
          · omega
          · have := hSb b h; omega, hb⟩
      clear ho hL hSb hb hg hl
      go_wp2
      go_ret
      exact hpost
end Go.Proofs.YtlhjgjfnmejiaaaGreat
end

section
namespace Go.Proofs.YtlhjgjfnmejiaaaGreat
open Go.RowKit
set_option linter.unusedVariables false

theorem encRBinding_eq (r : RBinding) : encRBinding r = [.cell (.int .i64 r.f0), .cell (.int .i64 r.f1.op), .cell (.int .i64 r.f1.num), pairMem r.f1.perm, tmsMem r.f1.kids] := by unfold encRBinding; rw [encT_eq]; rfl
theorem encRBindings_parts : ∀ {rs : List RBinding} {i : Nat}, i < rs.length → (encRBindings rs)[i * 5]? = some (.cell (.int .i64 (atRBinding rs i).f0)) ∧ (encRBindings rs)[i * 5 + 1]? = some (.cell (.int .i64 (atRBinding rs i).f1.op)) ∧ (encRBindings rs)[i * 5 + 2]? = some (.cell (.int .i64 (atRBinding rs i).f1.num)) ∧ (encRBindings rs)[i * 5 + 3]? = some (pairMem (atRBinding rs i).f1.perm) ∧ (encRBindings rs)[i * 5 + 4]? = some (tmsMem (atRBinding rs i).f1.kids)
  | [], i, h => by simp at h
  | r :: rs, 0, _ => by
    rw [encRBindings, encRBinding_eq, atRBinding_zero]
    exact ⟨rfl, rfl, rfl, rfl, rfl⟩
  | r :: rs, i + 1, h => by
    have g := encRBindings_parts (rs := rs) (i := i) (by simpa using h)
    have hl := encRBinding_len r
    rw [encRBindings, atRBinding_succ]
    refine ⟨?_, ?_, ?_, ?_, ?_⟩
    · rw [List.getElem?_append_right (by omega), show (i + 1) * 5 - (encRBinding r).length = i * 5 by omega]; exact g.1
    · rw [List.getElem?_append_right (by omega), show (i + 1) * 5 + 1 - (encRBinding r).length = i * 5 + 1 by omega]; exact g.2.1
    · rw [List.getElem?_append_right (by omega), show (i + 1) * 5 + 2 - (encRBinding r).length = i * 5 + 2 by omega]; exact g.2.2.1
    · rw [List.getElem?_append_right (by omega), show (i + 1) * 5 + 3 - (encRBinding r).length = i * 5 + 3 by omega]; exact g.2.2.2.1
    · rw [List.getElem?_append_right (by omega), show (i + 1) * 5 + 4 - (encRBinding r).length = i * 5 + 4 by omega]; exact g.2.2.2.2

theorem ownRBindings_in {w : World} {S : List Nat} {v : Value} {rs : List RBinding} (h : Own w S v (memRBindings rs)) : RBindingsIn w v rs := by
  have h := h.at_
  obtain ⟨B, m, d, rfl, hl⟩ := At.form h
  rw [encRBindings_len] at hl
  have e : m = rs.length := by omega
  subst e
  refine ⟨B, d, rfl, fun hp => ?_⟩
  obtain ⟨b, off, rfl, hb, hc⟩ := At.get h hp
  refine ⟨b, off, rfl, hb, fun k hk => ?_⟩
  obtain ⟨p0, p1, p2, p3, p4⟩ := encRBindings_parts hk
  obtain ⟨u0, e0, a0⟩ := hc _ _ p0
  obtain ⟨u1, e1, a1⟩ := hc _ _ p1
  obtain ⟨u2, e2, a2⟩ := hc _ _ p2
  obtain ⟨u3, e3, a3⟩ := hc _ _ p3
  obtain ⟨u4, e4, a4⟩ := hc _ _ p4
  rw [a0.cell_eq] at e0
  rw [a1.cell_eq] at e1
  rw [a2.cell_eq] at e2
  obtain ⟨A1, c1, rfl, hp1⟩ := at_pairs a3
  obtain ⟨B1, d1, rfl⟩ := TmsIn.form (ts := (atRBinding rs k).f1.kids) a4
  exact ⟨A1, c1, B1, d1, e0, (by rw [Nat.add_assoc]; exact e1), (by rw [Nat.add_assoc]; exact e2), (by rw [Nat.add_assoc]; exact e3), (by rw [Nat.add_assoc]; exact e4), ⟨A1, c1, _, rfl, hp1, a4⟩⟩

end Go.Proofs.YtlhjgjfnmejiaaaGreat
end

section
namespace Go.Proofs.YtlhjgjfnmejiaaaGreat
open Go.RowKit
set_option linter.unusedVariables false

end Go.Proofs.YtlhjgjfnmejiaaaGreat
end

