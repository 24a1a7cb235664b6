/-
  The laws' own comparison of two values that read as the same term, as contracts. Index terms: their sizes, copies and comparison in the laws, as contracts. What is an index term, in the model, as contracts.
-/
import Derived.Test.YtihijigbdpjcoaaGreatKIndexOf2
import Derived.Test.YtihijigbdpjcoaaGreatKIndexOf3
import Derived.Deep.RegionHeld3
import Derived.Deep.DrawnRows
import Derived.Test.YtihijigbdpjcoaaGreatKIndexOf5
section
namespace Go.Proofs.YtihijigbdpjcoaaGreat
open Go.RowKit Go.Sort

/-- Yes, and new blocks at most. -/
def YesPost (w : World) (e : Ending) (w' : World) : Prop := e = .returned (.bool true) ∧ Below w.heap.size w w'

set_option maxRecDepth 100000 in
set_option maxHeartbeats 1000000 in
theorem eqTerm_of (t : Tm) (x y : Value) (w : World) (hx : TmIn w x t) (hy : TmIn w y t) (hlen : t.perm.length ≤ 1048576)
    (ih : ∀ (w' : World) (x' y' : Value), TmsIn w' x' t.kids → TmsIn w' y' t.kids → Calls Tryz.prog 38 #[x', y'] w' (YesPost w')) :
    Calls Tryz.prog 13 #[x, y] w (YesPost w) := by
  obtain ⟨A1, c1, kv1, rfl, hp1, hk1⟩ := hx
  obtain ⟨A2, c2, kv2, rfl, hp2, hk2⟩ := hy
  have hb0 : Below w.heap.size w ((w.alloc (.cells #[.int .i64 t.op, .int .i64 t.num, .slice A1 t.perm.length c1, kv1] 35)).alloc (.cells #[.int .i64 t.op, .int .i64 t.num, .slice A2 t.perm.length c2, kv2] 35)) :=
    ((Below.refl _ _).alloc (Nat.le_refl _) _).alloc (by simp) _
  have heq := eqPairS_any A1 A2 c1 c2 t.perm t.perm _ (hp1.below hb0) (hp2.below hb0) (by omega)
  rw [decide_eq_true (rfl : t.perm = t.perm)] at heq
  have hk3 := hk1.below hb0
  have hk4 := hk2.below hb0
  have k1 : (t.op != t.op) = false := by simp
  have k2 : (t.num != t.num) = false := by simp
  generalize t.op = o at heq hb0 hk3 hk4 k1 ⊢
  generalize t.num = n at heq hb0 hk3 hk4 k2 ⊢
  generalize t.perm.length = pl at heq hb0 hk3 hk4 ⊢
  have hB1 : ((w.alloc (.cells #[.int .i64 o, .int .i64 n, .slice A1 pl c1, kv1] 35)).alloc (.cells #[.int .i64 o, .int .i64 n, .slice A2 pl c2, kv2] 35)).cell? ⟨w.heap.size, 3, none⟩ = some kv1 := by
    rw [cell_of_row _ w.heap.size 3 _ _ _ ((Below.heap_alloc _ _ _ (by simp)).trans (heap_alloc_new w _))]; rfl
  have hB2 : ((w.alloc (.cells #[.int .i64 o, .int .i64 n, .slice A1 pl c1, kv1] 35)).alloc (.cells #[.int .i64 o, .int .i64 n, .slice A2 pl c2, kv2] 35)).cell? ⟨w.heap.size + 1, 3, none⟩ = some kv2 := by
    have h9 := heap_alloc_new (w.alloc (.cells #[.int .i64 o, .int .i64 n, .slice A1 pl c1, kv1] 35)) (.cells #[.int .i64 o, .int .i64 n, .slice A2 pl c2, kv2] 35)
    rw [World.size_alloc] at h9
    rw [cell_of_row _ (w.heap.size + 1) 3 _ _ _ h9]; rfl
  have H1 := Lib.hid hB1
  have H2 := Lib.hid hB2
  clear hp1 hp2 hk1 hk2 hB1 hB2
  go_enter Tryz.func13, Tryz.ntmps13
  go_wp2_with fail
  refine heq.mono ?_
  rintro e w1 ⟨rfl, hb1⟩
  have d1 := (hb1.cell (p := ⟨w.heap.size, 3, none⟩) (by simp; omega)).trans H1.out
  have d2 := (hb1.cell (p := ⟨w.heap.size + 1, 3, none⟩) (by simp)).trans H2.out
  have hs1 := hb0.trans (hb1.mono hb0.size)
  have hih := ih w1 kv1 kv2 (hk3.below hb1) (hk4.below hb1)
  clear heq hb0 hb1 hk3 hk4 H1 H2 ih
  go_wp2_with fail
  refine hih.mono ?_
  rintro e w2 ⟨rfl, hb2⟩
  have hpost : YesPost w (.returned (.bool true)) w2 := ⟨rfl, hs1.trans (hb2.mono hs1.size)⟩
  clear hih hs1 hb2 d1 d2
  go_wp2
  go_ret
  exact hpost

theorem Calls.regrown_yes {f : FuncId} {args : Array Value} {w : World} {d : Nat} {os : Array Obj} (h : Calls Tryz.prog f args (grow (redrawn w d) os) (YesPost (grow (redrawn w d) os))) :
    Calls Tryz.prog f args (grow (redrawn w d) os) fun e w'' => e = .returned (.bool true) ∧ ∃ p : Regrown, w'' = grow (redrawn w p.d) p.os := Calls.regrown_of h

set_option maxRecDepth 100000 in
set_option maxHeartbeats 2000000 in
theorem eqTermS_step (ts : List Tm) (hlen : ts.length ≤ 1048576) (w : World) (x y : Value) (hx : TmsIn w x ts) (hy : TmsIn w y ts)
    (ih : ∀ i, i < ts.length → ∀ (w' : World) (x' y' : Value), TmIn w' x' (tmAt ts i) → TmIn w' y' (tmAt ts i) → Calls Tryz.prog 13 #[x', y'] w' (YesPost w')) :
    Calls Tryz.prog 38 #[x, y] w (YesPost w) := by
  obtain ⟨A, c, rfl⟩ := hx.form
  obtain ⟨B, d, rfl⟩ := hy.form
  have k0 : ((ts.length : Int) != (ts.length : Int)) = false := by simp
  go_enter Tryz.func38, Tryz.ntmps38
  go_wp2
  go_loopw [5] (fun i wr => ∃ k : Nat, k ≤ ts.length ∧ i = .int .i64 k ∧ Below w.heap.size w wr) (fun i _ => ts.length - (intOf i).toNat)
  case atStart => exact ⟨0, Nat.zero_le _, rfl, Below.refl _ _⟩
  case round =>
    obtain ⟨k, hk, rfl, hb⟩ := hrel
    by_cases hlt : k < ts.length
    · obtain ⟨b1, o1, rfl, hb1, hg1⟩ := (hx.below hb).get (by omega)
      obtain ⟨b2, o2, rfl, hb2, hg2⟩ := (hy.below hb).get (by omega)
      obtain ⟨A1, c1, kv1, d0, d1, d2, d3, hp1, hk1⟩ := hg1 k hlt
      obtain ⟨A2, c2, kv2, e0, e1, e2, e3, hp2, hk2⟩ := hg2 k hlt
      have hct := fun dq os => Calls.regrown_yes (ih k hlt (grow (redrawn wr dq) os) _ _ ⟨A1, c1, kv1, rfl, hp1.below (below_regrown wr dq os), hk1.below (below_regrown wr dq os)⟩ ⟨A2, c2, kv2, rfl, hp2.below (below_regrown wr dq os), hk2.below (below_regrown wr dq os)⟩)
      have p0 := fun d os => cell_regrown d0 d os
      have p1 := fun d os => cell_regrown d1 d os
      have p2 := fun d os => cell_regrown d2 d os
      have p3 := fun d os => cell_regrown d3 d os
      have q0 := fun d os => cell_regrown e0 d os
      have q1 := fun d os => cell_regrown e1 d os
      have q2 := fun d os => cell_regrown e2 d os
      have q3 := fun d os => cell_regrown e3 d os
      generalize tmAt ts k = t at hct p0 p1 p2 p3 q0 q1 q2 q3
      clear hg1 hg2 hp1 hp2 hk1 hk2 hx hy ih hb1 hb2 d0 d1 d2 d3 e0 e1 e2 e3
      go_wp2
      refine wp_region_quiet_below (by kernel_rfl) (by kernel_rfl) ?_
      repeat (any_goals (first | go_big_quiet_step ((go_at_call 13; exact hct _ _)) | quiet_step ((go_at_call 13; exact hct _ _))))
      refine wpQuiet_nil ?_
      intro _ hw'
      obtain ⟨⟨dq, osq⟩, hw''⟩ := hw'
      subst hw''
      have hb3 := hb.trans ((below_regrown wr dq osq).mono hb.size)
      clear p0 p1 p2 p3 q0 q1 q2 q3 hct
      generalize grow (redrawn wr dq) osq = w2 at *
      go_wp2
      refine ⟨⟨k + 1, by omega, by go_num, hb3⟩, ?_⟩
      simp only [intOf]
      omega
    · have hpost : YesPost w (.returned (.bool true)) wr := ⟨rfl, hb⟩
      clear hx hy ih hb
      go_wp2
      go_ret
      exact hpost

theorem eqTermS_any : ∀ (N : Nat) (ts : List Tm), szTs ts ≤ N → Fits ts → ts.length ≤ 1048576 → ∀ (w : World) (x y : Value), TmsIn w x ts → TmsIn w y ts → Calls Tryz.prog 38 #[x, y] w (YesPost w) := by
  intro N
  induction N with
  | zero =>
    intro ts hN hf hlen w x y hx hy
    exact eqTermS_step ts hlen w x y hx hy fun i hi => absurd (szTs_kid hi) (by omega)
  | succ N ih =>
    intro ts hN hf hlen w x y hx hy
    refine eqTermS_step ts hlen w x y hx hy fun i hi w' x' y' hx' hy' => ?_
    have h2 := (fit_eq _).1 (fits_at hf hi)
    exact eqTerm_of _ x' y' w' hx' hy' h2.1 fun w'' x'' y'' h3 h4 => ih _ (by have := szTs_kid hi; omega) h2.2.2 h2.2.1 w'' x'' y'' h3 h4

theorem eqTerm_any (t : Tm) (hf : Fit t) (w : World) (x y : Value) (hx : TmIn w x t) (hy : TmIn w y t) : Calls Tryz.prog 13 #[x, y] w (YesPost w) := by
  have h2 := (fit_eq _).1 hf
  exact eqTerm_of t x y w hx hy h2.1 fun w' x' y' h3 h4 => eqTermS_any _ _ (Nat.le_refl _) h2.2.2 h2.2.1 w' x' y' h3 h4

end Go.Proofs.YtihijigbdpjcoaaGreat
end

section
namespace Go.Proofs.YtihijigbdpjcoaaGreat
open Go.RowKit Go.Sort
set_option linter.unusedVariables false

namespace IxK
theorem row3 {w : World} {g : Nat} {a b c : Value} {T : TypeId} (h : w.heap[g]? = some (.cells #[a, b, c] T (0, 0))) : w.cell? ⟨g, 0, none⟩ = some a ∧ w.cell? ⟨g, 1, none⟩ = some b ∧ w.cell? ⟨g, 2, none⟩ = some c := by
  refine ⟨?_, ?_, ?_⟩ <;> rw [cell_of_row w g _ _ _ _ h] <;> rfl
end IxK

/-- A formula whose slice is of the call's own. -/
def IxOut (t : Ix) (w : World) (e : Ending) (w' : World) : Prop :=
  ∃ A2 c2 S, e = .returned (.agg #[.int .i64 t.op, .int .i64 t.num, .slice A2 t.kids.length c2]) ∧
    OwnL w' S [.int .i64 t.op, .int .i64 t.num, .slice A2 t.kids.length c2] (encIx t) ∧ (∀ b ∈ S, w.heap.size ≤ b) ∧ Below w.heap.size w w'
theorem ownL_ix {w : World} {t : Ix} {kv : Value} {T : List Nat} (k : Own w T kv (ixsMem t.kids)) : OwnL w (T ++ []) [.int .i64 t.op, .int .i64 t.num, kv] (encIx t) := by
  rw [encIx_eq]
  exact .cons (S := []) (.cell _) (.cons (S := []) (.cell _) (.cons k .nil (fun b _ => by simp)) (fun b hb => by simp at hb)) (fun b hb => by simp at hb)
theorem ixOut_in {w : World} {S : List Nat} {t : Ix} {A : Option Addr} {c : Nat} (h : OwnL w S [.int .i64 t.op, .int .i64 t.num, .slice A t.kids.length c] (encIx t)) :
    IxIn w (.agg #[.int .i64 t.op, .int .i64 t.num, .slice A t.kids.length c]) t := by
  have h1 := h.at_
  rw [encIx_eq] at h1
  cases h1 with
  | cons _ h1 => cases h1 with
    | cons _ h1 => cases h1 with
      | cons h3 _ => exact ⟨A, c, rfl, h3⟩

set_option maxRecDepth 100000 in
set_option maxHeartbeats 1000000 in
theorem eqIndex_of (t : Ix) (x y : Value) (w : World) (hx : IxIn w x t) (hy : IxIn w y t)
    (ih : ∀ (w' : World) (x' y' : Value), IxsIn w' x' t.kids → IxsIn w' y' t.kids → Calls Tryz.prog 36 #[x', y'] w' (YesPost w')) :
    Calls Tryz.prog 12 #[x, y] w (YesPost w) := by
  obtain ⟨B1, d1, rfl, hk1⟩ := hx
  obtain ⟨B2, d2, rfl, hk2⟩ := hy
  have hb0 : Below w.heap.size w ((w.alloc (.cells #[.int .i64 t.op, .int .i64 t.num, .slice B1 t.kids.length d1] 29)).alloc (.cells #[.int .i64 t.op, .int .i64 t.num, .slice B2 t.kids.length d2] 29)) :=
    ((Below.refl _ _).alloc (Nat.le_refl _) _).alloc (by simp) _
  have hih := ih _ _ _ (hk1.below hb0) (hk2.below hb0)
  have k1 : (t.op != t.op) = false := by simp
  have k2 : (t.num != t.num) = false := by simp
  clear hk1 hk2 ih
  go_enter Tryz.func12, Tryz.ntmps12
  go_wp2_with fail
  refine hih.mono ?_
  rintro e w2 ⟨rfl, hb2⟩
  have hpost : YesPost w (.returned (.bool true)) w2 := ⟨rfl, hb0.trans (hb2.mono hb0.size)⟩
  clear hih hb0 hb2
  go_wp2
  go_ret
  exact hpost

set_option maxRecDepth 100000 in
set_option maxHeartbeats 2000000 in
theorem eqIndexS_step (ts : List Ix) (hlen : ts.length ≤ 1048576) (w : World) (x y : Value) (hx : IxsIn w x ts) (hy : IxsIn w y ts)
    (ih : ∀ i, i < ts.length → ∀ (w' : World) (x' y' : Value), IxIn w' x' (ixAt ts i) → IxIn w' y' (ixAt ts i) → Calls Tryz.prog 12 #[x', y'] w' (YesPost w')) :
    Calls Tryz.prog 36 #[x, y] w (YesPost w) := by
  obtain ⟨A, c, rfl⟩ := hx.form
  obtain ⟨B, d, rfl⟩ := hy.form
  have k0 : ((ts.length : Int) != (ts.length : Int)) = false := by simp
  go_enter Tryz.func36, Tryz.ntmps36
  go_wp2
  go_loopw [5] (fun i wr => ∃ k : Nat, k ≤ ts.length ∧ i = .int .i64 k ∧ Below w.heap.size w wr) (fun i _ => ts.length - (intOf i).toNat)
  case atStart => exact ⟨0, Nat.zero_le _, rfl, Below.refl _ _⟩
  case round =>
    obtain ⟨k, hk, rfl, hb⟩ := hrel
    by_cases hlt : k < ts.length
    · obtain ⟨b1, o1, rfl, hb1, hg1⟩ := (hx.below hb).get (by omega)
      obtain ⟨b2, o2, rfl, hb2, hg2⟩ := (hy.below hb).get (by omega)
      obtain ⟨B1, f1, d0, d1, d2, hk1⟩ := hg1 k hlt
      obtain ⟨B2, f2, e0, e1, e2, hk2⟩ := hg2 k hlt
      have hct := fun dq os => Calls.regrown_yes (ih k hlt (grow (redrawn wr dq) os) _ _ ⟨B1, f1, rfl, hk1.below (below_regrown wr dq os)⟩ ⟨B2, f2, rfl, hk2.below (below_regrown wr dq os)⟩)
      have p0 := fun d os => cell_regrown d0 d os
      have p1 := fun d os => cell_regrown d1 d os
      have p2 := fun d os => cell_regrown d2 d os
      have q0 := fun d os => cell_regrown e0 d os
      have q1 := fun d os => cell_regrown e1 d os
      have q2 := fun d os => cell_regrown e2 d os
      generalize ixAt ts k = t at hct p0 p1 p2 q0 q1 q2
      clear hg1 hg2 hk1 hk2 hx hy ih hb1 hb2 d0 d1 d2 e0 e1 e2
      go_wp2
      refine wp_region_quiet_below (by kernel_rfl) (by kernel_rfl) ?_
      repeat (any_goals (first | go_big_quiet_step ((go_at_call 12; exact hct _ _)) | quiet_step ((go_at_call 12; exact hct _ _))))
      refine wpQuiet_nil ?_
      intro _ hw'
      obtain ⟨⟨dq, osq⟩, hw''⟩ := hw'
      subst hw''
      have hb3 := hb.trans ((below_regrown wr dq osq).mono hb.size)
      clear p0 p1 p2 q0 q1 q2 hct
      generalize grow (redrawn wr dq) osq = w2 at *
      go_wp2
      refine ⟨⟨k + 1, by omega, by go_num, hb3⟩, ?_⟩
      simp only [intOf]
      omega
    · have hpost : YesPost w (.returned (.bool true)) wr := ⟨rfl, hb⟩
      clear hx hy ih hb
      go_wp2
      go_ret
      exact hpost

theorem eqIndexS_any : ∀ (N : Nat) (ts : List Ix), szIxs ts ≤ N → FitIxs ts → ts.length ≤ 1048576 → ∀ (w : World) (x y : Value), IxsIn w x ts → IxsIn w y ts → Calls Tryz.prog 36 #[x, y] w (YesPost w) := by
  intro N
  induction N with
  | zero =>
    intro ts hN hf hlen w x y hx hy
    exact eqIndexS_step ts hlen w x y hx hy fun i hi => absurd (szIxs_kid hi) (by omega)
  | succ N ih =>
    intro ts hN hf hlen w x y hx hy
    refine eqIndexS_step ts hlen w x y hx hy fun i hi w' x' y' hx' hy' => ?_
    have h2 := (fitIx_eq _).1 (fitIxs_at hf hi)
    exact eqIndex_of _ x' y' w' hx' hy' fun w'' x'' y'' h3 h4 => ih _ (by have := szIxs_kid hi; omega) h2.2 h2.1 w'' x'' y'' h3 h4
theorem eqIndex_any (t : Ix) (hf : FitIx t) (w : World) (x y : Value) (hx : IxIn w x t) (hy : IxIn w y t) : Calls Tryz.prog 12 #[x, y] w (YesPost w) := by
  have h2 := (fitIx_eq _).1 hf
  exact eqIndex_of t x y w hx hy fun w' x' y' h3 h4 => eqIndexS_any _ _ (Nat.le_refl _) h2.2 h2.1 w' x' y' h3 h4
end Go.Proofs.YtihijigbdpjcoaaGreat
end

section
namespace Go.Proofs.YtihijigbdpjcoaaGreat
open Go.RowKit Go.Sort
set_option linter.unusedVariables false

mutual
theorem szIx_le : ∀ t : Ix, szIx t ≤ 1 + cntIx t
  | .mk o n ks => by
    have := szIxs_le ks
    rw [szIx, cntIx]; omega
theorem szIxs_le : ∀ ts : List Ix, szIxs ts ≤ ts.length + sumIx ts
  | [] => by simp [szIxs]
  | t :: r => by
    have h1 := szIx_le t
    have h2 := szIxs_le r
    rw [szIxs, sumIx, List.length_cons]; omega
end
end Go.Proofs.YtihijigbdpjcoaaGreat
end

