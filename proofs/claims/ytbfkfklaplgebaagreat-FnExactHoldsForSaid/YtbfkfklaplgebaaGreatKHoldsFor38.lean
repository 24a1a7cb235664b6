/-
  EqualIn in the program and in the model, as contracts.
-/
import Derived.Test.YtbfkfklaplgebaaGreatKHoldsFor36
import Derived.Test.YtbfkfklaplgebaaGreatKHoldsFor37
namespace Go.Proofs.YtbfkfklaplgebaaGreat
open Go.RowKit Go.Sort
set_option linter.unusedVariables false

def eqInB (l : List (Int × Int)) (s t : Tm) : Bool := eqnB s t && (ctxB l && allIn l (eqnL s t))

theorem eqn_ctx {s t : Tm} (h : eqnB s t = true) : ctxB (eqnL s t) = true := by
  unfold eqnB at h
  rw [Bool.and_eq_true, Bool.and_eq_true, Bool.and_eq_true] at h
  obtain ⟨h1, h2, h3, h4⟩ := h
  rw [(eqn_yes h1 h2 h3).1]
  unfold ctxOf
  rw [if_pos h4, ctxB_eq h1 h2]
  exact h4

theorem eqIn_incl {l : List (Int × Int)} {s t : Tm} (h : eqnB s t = true) : eqInB l s t = inclB l (eqnL s t) := by
  unfold eqInB inclB
  rw [h, eqn_ctx h]
  simp

set_option maxRecDepth 100000 in
set_option maxHeartbeats 1000000 in
theorem equalIn_impl (C : Option Addr) (e0 : Nat) (l : List (Int × Int)) (s t : Tm) (x y : Value) (w : World) (hC : PairsAt w C l) (hl : l.length ≤ 1048576) (hx : TmIn w x s) (hy : TmIn w y t) (hf : Fit s) (hf' : Fit t) :
    Calls Tryz.prog 30 #[.slice C l.length e0, x, y] w (BoolPost (eqInB l s t) w) := by
  have hx' := hx
  have hy' := hy
  obtain ⟨A, c, kv, rfl, hp, hk⟩ := hx
  obtain ⟨B, d, rfl⟩ := hk.form
  obtain ⟨A', c', kv', rfl, hp', hk'⟩ := hy
  obtain ⟨B', d', rfl⟩ := hk'.form
  have hb0 : Below w.heap.size w ((w.alloc (.cells #[.int .i64 s.op, .int .i64 s.num, .slice A s.perm.length c, .slice B s.kids.length d] 31)).alloc (.cells #[.int .i64 t.op, .int .i64 t.num, .slice A' t.perm.length c', .slice B' t.kids.length d'] 31)) := ((Below.refl _ w).alloc (Nat.le_refl _) _).alloc (by simp) _
  have k0 : ((w.alloc (.cells #[.int .i64 s.op, .int .i64 s.num, .slice A s.perm.length c, .slice B s.kids.length d] 31)).alloc (.cells #[.int .i64 t.op, .int .i64 t.num, .slice A' t.perm.length c', .slice B' t.kids.length d'] 31)).heap[w.heap.size]? = some (.cells #[.int .i64 s.op, .int .i64 s.num, .slice A s.perm.length c, .slice B s.kids.length d] 31 (0, 0)) := (Below.heap_alloc _ _ _ (by simp)).trans (heap_alloc_new w _)
  have k1 : ((w.alloc (.cells #[.int .i64 s.op, .int .i64 s.num, .slice A s.perm.length c, .slice B s.kids.length d] 31)).alloc (.cells #[.int .i64 t.op, .int .i64 t.num, .slice A' t.perm.length c', .slice B' t.kids.length d'] 31)).heap[w.heap.size + 1]? = some (.cells #[.int .i64 t.op, .int .i64 t.num, .slice A' t.perm.length c', .slice B' t.kids.length d'] 31 (0, 0)) := by
    have h := heap_alloc_new (w.alloc (.cells #[.int .i64 s.op, .int .i64 s.num, .slice A s.perm.length c, .slice B s.kids.length d] 31)) (.cells #[.int .i64 t.op, .int .i64 t.num, .slice A' t.perm.length c', .slice B' t.kids.length d'] 31)
    rw [World.size_alloc] at h
    exact h
  obtain ⟨a0, a1, a2, a3⟩ := row4' k0
  obtain ⟨a4, a5, a6, a7⟩ := row4' k1
  have hfn := equalNeeds_impl s t _ _ _ (hx'.below hb0) (hy'.below hb0) hf hf'
  have hinc := fun (W : World) (G : Option Addr) (q : Nat) (hW : PairsAt W C l) (hG : PairsAt W G (eqnL s t)) => includes_impl C G e0 q l (eqnL s t) W hW hG hl (by have := eqnL_len s t; omega)
  clear hp hk hp' hk' hx' hy' k0 k1
  cases hB : eqnB s t with
  | true =>
    have HR := Lib.hid (eqIn_incl (l := l) hB)
    rw [hB] at hfn
    generalize eqnL s t = L at hfn hinc HR
    clear hB
    go_enter Tryz.func30, Tryz.ntmps30
    go_wp2_with fail
    refine hfn.mono ?_
    rintro e w1 ⟨v1, rfl, ho1, hb1⟩
    obtain ⟨G, q, rfl, hG⟩ := own_pairsAt ho1
    have hs1 := hb0.trans (hb1.mono hb0.size)
    have hi := hinc w1 G q (hC.below hs1) hG
    generalize inclB l L = r at hi HR
    clear a0 a1 a2 a3 a4 a5 a6 a7 hfn ho1 hG hb0 hb1 hinc hC
    go_wp2_with fail
    refine hi.mono ?_
    rintro e w2 ⟨rfl, hb2⟩
    have hpost : BoolPost (eqInB l s t) w (.returned (.bool r)) w2 := ⟨by rw [HR.out], hs1.trans (hb2.mono hs1.size)⟩
    clear hi hb2 hs1 HR
    go_wp2
    go_ret
    exact hpost
  | false =>
    have HR := Lib.hid (show eqInB l s t = false by unfold eqInB; rw [hB]; simp)
    rw [hB] at hfn
    generalize eqnL s t = L at hfn hinc
    clear hB hinc
    go_enter Tryz.func30, Tryz.ntmps30
    go_wp2_with fail
    refine hfn.mono ?_
    rintro e w1 ⟨v1, rfl, ho1, hb1⟩
    have hpost : BoolPost (eqInB l s t) w (.returned (.bool false)) w1 := ⟨by rw [HR.out], hb0.trans (hb1.mono hb0.size)⟩
    obtain ⟨G, q, rfl, hG⟩ := own_pairsAt ho1
    clear a0 a1 a2 a3 a4 a5 a6 a7 hfn ho1 hG hb0 hb1 hC HR
    go_wp2
    go_ret
    exact hpost

set_option maxRecDepth 100000 in
set_option maxHeartbeats 1000000 in
theorem equalIn_spec (C : Option Addr) (e0 : Nat) (l : List (Int × Int)) (s t : Tm) (x y : Value) (w : World) (hC : PairsAt w C l) (hl : l.length ≤ 1048576) (hx : TmIn w x s) (hy : TmIn w y t) (hc : cntT s ≤ 1048576) (hc' : cntT t ≤ 1048576) :
    Calls Tryz.prog 29 #[.slice C l.length e0, x, y] w (BoolPost (eqInB l s t) w) := by
  have hx' := hx
  have hy' := hy
  obtain ⟨A, c, kv, rfl, hp, hk⟩ := hx
  obtain ⟨B, d, rfl⟩ := hk.form
  obtain ⟨A', c', kv', rfl, hp', hk'⟩ := hy
  obtain ⟨B', d', rfl⟩ := hk'.form
  have hb0 : Below w.heap.size w ((w.alloc (.cells #[.int .i64 s.op, .int .i64 s.num, .slice A s.perm.length c, .slice B s.kids.length d] 31)).alloc (.cells #[.int .i64 t.op, .int .i64 t.num, .slice A' t.perm.length c', .slice B' t.kids.length d'] 31)) := ((Below.refl _ w).alloc (Nat.le_refl _) _).alloc (by simp) _
  have k0 : ((w.alloc (.cells #[.int .i64 s.op, .int .i64 s.num, .slice A s.perm.length c, .slice B s.kids.length d] 31)).alloc (.cells #[.int .i64 t.op, .int .i64 t.num, .slice A' t.perm.length c', .slice B' t.kids.length d'] 31)).heap[w.heap.size]? = some (.cells #[.int .i64 s.op, .int .i64 s.num, .slice A s.perm.length c, .slice B s.kids.length d] 31 (0, 0)) := (Below.heap_alloc _ _ _ (by simp)).trans (heap_alloc_new w _)
  have k1 : ((w.alloc (.cells #[.int .i64 s.op, .int .i64 s.num, .slice A s.perm.length c, .slice B s.kids.length d] 31)).alloc (.cells #[.int .i64 t.op, .int .i64 t.num, .slice A' t.perm.length c', .slice B' t.kids.length d'] 31)).heap[w.heap.size + 1]? = some (.cells #[.int .i64 t.op, .int .i64 t.num, .slice A' t.perm.length c', .slice B' t.kids.length d'] 31 (0, 0)) := by
    have h := heap_alloc_new (w.alloc (.cells #[.int .i64 s.op, .int .i64 s.num, .slice A s.perm.length c, .slice B s.kids.length d] 31)) (.cells #[.int .i64 t.op, .int .i64 t.num, .slice A' t.perm.length c', .slice B' t.kids.length d'] 31)
    rw [World.size_alloc] at h
    exact h
  obtain ⟨a0, a1, a2, a3⟩ := row4' k0
  obtain ⟨a4, a5, a6, a7⟩ := row4' k1
  have hfn := equalNeeds_spec s t _ _ _ (hx'.below hb0) (hy'.below hb0) hc hc'
  have hctx := fun (W : World) (hW : PairsAt W C l) => isContext_spec C e0 l W hW (by omega)
  have hinc := fun (W : World) (G : Option Addr) (q : Nat) (hW : PairsAt W C l) (hG : PairsAt W G (eqnL s t)) => l3In_any C G e0 q l (eqnL s t) W hW hG (by omega) (by have := eqnL_len s t; omega)
  have hR : eqInB l s t = (eqnB s t && (ctxB l && allIn l (eqnL s t))) := rfl
  clear hp hk hp' hk' hx' hy' k0 k1
  generalize eqnB s t = k1 at hfn hR
  generalize ctxB l = k2 at hctx hR
  generalize eqnL s t = L at hfn hinc hR
  cases k1 with
  | false =>
    have HR := Lib.hid (show eqInB l s t = false by rw [hR]; simp)
    clear hR hctx hinc
    go_enter Tryz.func29, Tryz.ntmps29
    go_wp2_with fail
    refine hfn.mono ?_
    rintro e w1 ⟨v1, rfl, ho1, hb1⟩
    have hpost : BoolPost (eqInB l s t) w (.returned (.bool false)) w1 := ⟨by rw [HR.out], hb0.trans (hb1.mono hb0.size)⟩
    obtain ⟨G, q, rfl, hG⟩ := own_pairsAt ho1
    clear a0 a1 a2 a3 a4 a5 a6 a7 hfn ho1 hG hb0 hb1 hC HR
    go_wp2
    go_ret
    exact hpost
  | true =>
    cases k2 with
    | false =>
      have HR := Lib.hid (show eqInB l s t = false by rw [hR]; simp)
      clear hR hinc
      go_enter Tryz.func29, Tryz.ntmps29
      go_wp2_with fail
      refine hfn.mono ?_
      rintro e w1 ⟨v1, rfl, ho1, hb1⟩
      obtain ⟨G, q, rfl, hG⟩ := own_pairsAt ho1
      have hs1 := hb0.trans (hb1.mono hb0.size)
      have hcx := hctx w1 (hC.below hs1)
      clear a0 a1 a2 a3 a4 a5 a6 a7 hfn ho1 hG hb0 hb1 hC hctx
      go_wp2_with fail
      refine hcx.mono ?_
      rintro e w2 ⟨rfl, hb2⟩
      have hpost : BoolPost (eqInB l s t) w (.returned (.bool false)) w2 := ⟨by rw [HR.out], hs1.trans (hb2.mono hs1.size)⟩
      clear hcx hb2 hs1 HR
      go_wp2
      go_ret
      exact hpost
    | true =>
      have HR := Lib.hid (show eqInB l s t = allIn l L by rw [hR]; simp)
      clear hR
      go_enter Tryz.func29, Tryz.ntmps29
      go_wp2_with fail
      refine hfn.mono ?_
      rintro e w1 ⟨v1, rfl, ho1, hb1⟩
      obtain ⟨G, q, rfl, hG⟩ := own_pairsAt ho1
      have hs1 := hb0.trans (hb1.mono hb0.size)
      have hcx := hctx w1 (hC.below hs1)
      clear a0 a1 a2 a3 a4 a5 a6 a7 hfn ho1 hb0 hb1 hctx
      go_wp2_with fail
      refine hcx.mono ?_
      rintro e w2 ⟨rfl, hb2⟩
      have hs2 := hs1.trans (hb2.mono hs1.size)
      have hi := hinc w2 G q (hC.below hs2) (hG.below hb2)
      generalize allIn l L = r at hi HR
      clear hcx hb2 hs1 hinc hC hG
      go_wp2_with fail
      refine hi.mono ?_
      rintro e w3 ⟨rfl, hb3⟩
      have hpost : BoolPost (eqInB l s t) w (.returned (.bool r)) w3 := ⟨by rw [HR.out], hs2.trans (hb3.mono hs2.size)⟩
      clear hi hb3 hs2 HR
      go_wp2
      go_ret
      exact hpost

end Go.Proofs.YtbfkfklaplgebaaGreat
