/-
  Index forms in the program, as contracts: the form of an index term, whether it is closed. Steps by indices in the program, as contracts.
-/
import Derived.Test.YtihijigbdpjcoaaKStepIndices9
import Derived.Test.YtihijigbdpjcoaaKStepIndices11
import Derived.Test.YtihijigbdpjcoaaKStepIndices6
import Derived.Lib.QuietBelow
import Derived.Test.YtihijigbdpjcoaaKStepIndices3
section
namespace Go.Proofs.Ytihijigbdpjcoaa
open Go.RowKit Go.Sort
set_option linter.unusedVariables false

set_option maxRecDepth 100000 in
theorem ifo_bnd (n : Int) (B : Option Addr) (kl d : Nat) (w : World) :
    Calls Try.prog 57 #[.agg #[.int .i64 1, .int .i64 n, .slice B kl d]] w (ValPost (.iface 103 (.agg #[.int .i64 n])) w) := by
  have hb0 : Below w.heap.size w (w.alloc (.cells #[.int .i64 1, .int .i64 n, .slice B kl d] 42)) := (Below.refl _ _).alloc (Nat.le_refl _) _
  go_enter Try.func57, Try.ntmps57
  go_wp2
  go_ret
  exact ⟨rfl, hb0⟩

set_option maxRecDepth 100000 in
theorem ifo_free (n : Int) (B : Option Addr) (kl d : Nat) (w : World) :
    Calls Try.prog 57 #[.agg #[.int .i64 2, .int .i64 n, .slice B kl d]] w (ValPost (.iface 105 (.agg #[.int .i64 n])) w) := by
  have hb0 : Below w.heap.size w (w.alloc (.cells #[.int .i64 2, .int .i64 n, .slice B kl d] 42)) := (Below.refl _ _).alloc (Nat.le_refl _) _
  go_enter Try.func57, Try.ntmps57
  go_wp2
  go_ret
  exact ⟨rfl, hb0⟩

set_option maxRecDepth 100000 in
set_option maxHeartbeats 1000000 in
theorem ifo_fn (k : Ix) (T1 : TypeId) (v1 : Value) (n : Int) (B : Option Addr) (d : Nat) (w : World) (hk : IxsIn w (.slice B 1 d) [k])
    (ih : ∀ (w' : World) (y : Value), IxIn w' y k → Calls Try.prog 57 #[y] w' (ValPost (.iface T1 v1) w')) :
    Calls Try.prog 57 #[.agg #[.int .i64 3, .int .i64 n, .slice B 1 d]] w (ValPost (.iface 107 (.agg #[.iface T1 v1])) w) := by
  have hb0 : Below w.heap.size w (w.alloc (.cells #[.int .i64 3, .int .i64 n, .slice B 1 d] 42)) := (Below.refl _ _).alloc (Nat.le_refl _) _
  obtain ⟨b, off, B1, e1, rfl, hbl, d0, d1, d2, hy⟩ := kid_ix (hk.below hb0) (k := 0) (by simp)
  rw [ixAt_cons_zero, Nat.zero_mul, Nat.add_zero] at d0 d1 d2
  rw [ixAt_cons_zero] at hy
  have hct := ih _ _ hy
  clear ih hy hk hbl
  go_enter Try.func57, Try.ntmps57
  go_wp2_with fail
  refine hct.mono ?_
  rintro e w2 ⟨rfl, hb2⟩
  have hpost : ValPost (.iface 107 (.agg #[.iface T1 v1])) w (.returned (.iface 107 (.agg #[.iface T1 v1]))) w2 := ⟨rfl, hb0.trans (hb2.mono hb0.size)⟩
  clear hct d0 d1 d2 hb0 hb2
  go_wp2
  go_ret
  exact hpost

set_option maxRecDepth 100000 in
set_option maxHeartbeats 2000000 in
theorem ifo_app (k1 k2 : Ix) (T1 T2 : TypeId) (v1 v2 : Value) (n : Int) (B : Option Addr) (d : Nat) (w : World) (hk : IxsIn w (.slice B 2 d) [k1, k2])
    (ih1 : ∀ (w' : World) (y : Value), IxIn w' y k1 → Calls Try.prog 57 #[y] w' (ValPost (.iface T1 v1) w'))
    (ih2 : ∀ (w' : World) (y : Value), IxIn w' y k2 → Calls Try.prog 57 #[y] w' (ValPost (.iface T2 v2) w')) :
    Calls Try.prog 57 #[.agg #[.int .i64 4, .int .i64 n, .slice B 2 d]] w (ValPost (.iface 109 (.agg #[.iface T1 v1, .iface T2 v2])) w) := by
  have hb0 : Below w.heap.size w (w.alloc (.cells #[.int .i64 4, .int .i64 n, .slice B 2 d] 42)) := (Below.refl _ _).alloc (Nat.le_refl _) _
  obtain ⟨b, off, B1, e1, rfl, hbl, d0, d1, d2, hy⟩ := kid_ix (hk.below hb0) (k := 0) (by simp)
  obtain ⟨b', off', B2, e2, eB, _, f0, f1, f2, hz⟩ := kid_ix (hk.below hb0) (k := 1) (by simp)
  injection eB with eB
  injection eB with eB1 eB2
  subst eB1
  subst eB2
  have ha : (w.alloc (.cells #[.int .i64 4, .int .i64 n, .slice (some ⟨b, off, none⟩) 2 d] 42)).cell? ⟨w.heap.size, 2, none⟩ = some (.slice (some ⟨b, off, none⟩) 2 d) := (box3 (Below.refl _ _)).2.2
  rw [Nat.zero_mul, Nat.add_zero] at d0 d1 d2
  rw [Nat.one_mul] at f0 f1 f2
  have e0 : ixAt [k1, k2] 0 = k1 := rfl
  have e9 : ixAt [k1, k2] 1 = k2 := rfl
  rw [e0] at d0 d1 d2 hy
  rw [e9] at f0 f1 f2 hz
  have hc1 := fun dq os => Calls.regrown_of (ih1 (grow (redrawn (w.alloc (.cells #[.int .i64 4, .int .i64 n, .slice (some ⟨b, off, none⟩) 2 d] 42)) dq) os) _ (hy.below (below_regrown (w.alloc (.cells #[.int .i64 4, .int .i64 n, .slice (some ⟨b, off, none⟩) 2 d] 42)) dq os)))
  have hc2 := fun dq os => Calls.regrown_of (ih2 (grow (redrawn (w.alloc (.cells #[.int .i64 4, .int .i64 n, .slice (some ⟨b, off, none⟩) 2 d] 42)) dq) os) _ (hz.below (below_regrown (w.alloc (.cells #[.int .i64 4, .int .i64 n, .slice (some ⟨b, off, none⟩) 2 d] 42)) dq os)))
  have qa := fun dq os => cell_regrown ha dq os
  have p0 := fun dq os => cell_regrown d0 dq os
  have p1 := fun dq os => cell_regrown d1 dq os
  have p2 := fun dq os => cell_regrown d2 dq os
  have r0 := fun dq os => cell_regrown f0 dq os
  have r1 := fun dq os => cell_regrown f1 dq os
  have r2 := fun dq os => cell_regrown f2 dq os
  clear ih1 ih2 hy hz hk hbl ha d0 d1 d2 f0 f1 f2 e0 e9
  go_enter Try.func57, Try.ntmps57
  go_wp2
  refine wp_region_quiet_below (by kernel_rfl) (by kernel_rfl) ?_
  repeat (any_goals (first | go_big_quiet_step ((go_at_call 57; first | (with_reducible exact hc1 _ _) | (with_reducible exact hc2 _ _))) | quiet_step ((go_at_call 57; first | (with_reducible exact hc1 _ _) | (with_reducible exact hc2 _ _)))))
  refine wpQuiet_nil ?_
  intro _ hw'
  obtain ⟨⟨dq, osq⟩, hw''⟩ := hw'
  subst hw''
  have hb3 := hb0.trans ((below_regrown _ dq osq).mono hb0.size)
  generalize grow (redrawn (w.alloc (.cells #[.int .i64 4, .int .i64 n, .slice (some ⟨b, off, none⟩) 2 d] 42)) dq) osq = w9 at hb3 ⊢
  clear qa p0 p1 p2 r0 r1 r2 hc1 hc2 hb0
  go_wp2
  go_ret
  exact ⟨rfl, hb3⟩

theorem indexFormOf_any : ∀ (l : Li) (w : World) (x : Value), IxIn w x (liIx l) → Calls Try.prog 57 #[x] w (ValPost (liV l) w)
  | .bnd n, w, x, hx => by
    obtain ⟨B, d, rfl, hk⟩ := hx
    exact ifo_bnd n B _ d w
  | .free n, w, x, hx => by
    obtain ⟨B, d, rfl, hk⟩ := hx
    exact ifo_free n B _ d w
  | .fn y, w, x, hx => by
    obtain ⟨B, d, rfl, hk⟩ := hx
    exact ifo_fn (liIx y) (ityL y) (ivL y) 0 B d w hk (fun w' z hz => indexFormOf_any y w' z hz)
  | .app y z, w, x, hx => by
    obtain ⟨B, d, rfl, hk⟩ := hx
    exact ifo_app (liIx y) (liIx z) (ityL y) (ityL z) (ivL y) (ivL z) 0 B d w hk (fun w' u hu => indexFormOf_any y w' u hu) (fun w' u hu => indexFormOf_any z w' u hu)

/-! Whether it is closed. -/
set_option maxRecDepth 100000 in
theorem closed_bnd (n a : Int) (w : World) : Calls Try.prog 108 #[.agg #[.int .i64 n], .int .i64 a] w (BoolPost (decide (n < a)) w) := by
  have hb0 : Below w.heap.size w (w.alloc (.cells #[.int .i64 n] 103)) := (Below.refl _ _).alloc (Nat.le_refl _) _
  by_cases h : n < a
  · rw [decide_eq_true h]
    go_enter Try.func108, Try.ntmps108
    go_wp2
    go_ret
    exact ⟨rfl, hb0⟩
  · rw [decide_eq_false h]
    have k1 : decide (n < a) = false := decide_eq_false h
    go_enter Try.func108, Try.ntmps108
    go_wp2
    go_ret
    exact ⟨rfl, hb0⟩
end Go.Proofs.Ytihijigbdpjcoaa
end

section
namespace Go.Proofs.Ytihijigbdpjcoaa
open Go.RowKit Go.Sort
set_option linter.unusedVariables false
namespace Args8S
theorem box_lt {w : World} {g : Nat} {o : Obj} (h : w.heap[g]? = some o) : g < w.heap.size := (Array.getElem?_eq_some_iff.1 h).1
end Args8S
attribute [local go_sem] is_boundIndex_boundIndex
attribute [local go_sem] is_boundIndex_funIndex
attribute [local go_sem] is_boundIndex_applyIndex
attribute [local go_sem] is_freeIndex_boundIndex
attribute [local go_sem] is_freeIndex_funIndex
attribute [local go_sem] is_freeIndex_applyIndex
attribute [local go_sem] is_funIndex_boundIndex
attribute [local go_sem] is_funIndex_funIndex
attribute [local go_sem] is_funIndex_applyIndex
attribute [local go_sem] is_applyIndex_boundIndex
attribute [local go_sem] is_applyIndex_funIndex
attribute [local go_sem] is_applyIndex_applyIndex

set_option maxRecDepth 100000 in
theorem raised_bnd (n d a : Int) (w : World) (hn : 0 ≤ n) (hn2 : n ≤ 1099511627776) (hd : 0 ≤ d) (hd2 : d ≤ 1099511627776) :
    Calls Try.prog 99 #[.iface 103 (.agg #[.int .i64 n]), .int .i64 d, .int .i64 a] w (ValPost (liV (raiseL (.bnd n) d a)) w) := by
  have hb0 : Below w.heap.size w (w.alloc (.cells #[.int .i64 n] 103)) := (Below.refl _ _).alloc (Nat.le_refl _) _
  have hc := closed_bnd n a (w.alloc (.cells #[.int .i64 n] 103))
  have hk := heap_alloc_new w (.cells #[.int .i64 n] 103)
  rw [raiseL]
  by_cases h : n < a
  · rw [if_pos h]
    rw [decide_eq_true h] at hc
    clear h
    go_enter Try.func99, Try.ntmps99
    go_wp2_with fail
    refine hc.mono ?_
    rintro e w2 ⟨rfl, hb2⟩
    have hb3 := hb0.trans (hb2.mono hb0.size)
    clear hc hb0 hb2 hk
    go_wp2
    go_ret
    exact ⟨rfl, hb3⟩
  · rw [if_neg h]
    rw [decide_eq_false h] at hc
    clear h
    go_enter Try.func99, Try.ntmps99
    go_wp2_with fail
    refine hc.mono ?_
    rintro e w2 ⟨rfl, hb2⟩
    have hb3 := hb0.trans (hb2.mono hb0.size)
    have b1 : w2.cell? ⟨w.heap.size, 0, none⟩ = some (.int .i64 n) := by rw [cell_of_row w2 w.heap.size _ _ _ _ ((hb2.block _ (by simp)).trans hk)]; rfl
    clear hc hb0 hb2 hk
    go_wp2
    go_ret
    exact ⟨rfl, hb3⟩
set_option maxRecDepth 100000 in
theorem raised_free (n d a : Int) (w : World) :
    Calls Try.prog 99 #[.iface 105 (.agg #[.int .i64 n]), .int .i64 d, .int .i64 a] w (ValPost (liV (raiseL (.free n) d a)) w) := by
  go_enter Try.func99, Try.ntmps99
  go_wp2
  go_ret
  exact ⟨rfl, Below.refl _ _⟩
set_option maxRecDepth 100000 in
theorem raised_fn (d a : Int) (T T1 : TypeId) (V V1 : Value) (w : World) (ha : 0 ≤ a) (ha2 : a ≤ 1099511627776)
    (ih : ∀ (w' : World), Calls Try.prog 99 #[.iface T V, .int .i64 d, .int .i64 (a + 1)] w' (ValPost (.iface T1 V1) w')) :
    Calls Try.prog 99 #[.iface 107 (.agg #[.iface T V]), .int .i64 d, .int .i64 a] w (ValPost (.iface 107 (.agg #[.iface T1 V1])) w) := by
  have hb0 : Below w.heap.size w (w.alloc (.cells #[.iface T V] 107)) := (Below.refl _ _).alloc (Nat.le_refl _) _
  have hct := ih (w.alloc (.cells #[.iface T V] 107))
  clear ih
  go_enter Try.func99, Try.ntmps99
  go_wp2_with fail
  refine hct.mono ?_
  rintro e w2 ⟨rfl, hb2⟩
  have hb3 := hb0.trans (hb2.mono hb0.size)
  clear hct hb0 hb2
  go_wp2
  go_ret
  exact ⟨rfl, hb3⟩
set_option maxRecDepth 100000 in
set_option maxHeartbeats 2000000 in
theorem raised_app (d a : Int) (T T2 T3 T4 : TypeId) (V V2 V3 V4 : Value) (w : World) 
    (ih1 : ∀ (w' : World), Calls Try.prog 99 #[.iface T V, .int .i64 d, .int .i64 a] w' (ValPost (.iface T3 V3) w'))
    (ih2 : ∀ (w' : World), Calls Try.prog 99 #[.iface T2 V2, .int .i64 d, .int .i64 a] w' (ValPost (.iface T4 V4) w')) :
    Calls Try.prog 99 #[.iface 109 (.agg #[.iface T V, .iface T2 V2]), .int .i64 d, .int .i64 a] w (ValPost (.iface 109 (.agg #[.iface T3 V3, .iface T4 V4])) w) := by
  have hb0 : Below w.heap.size w (w.alloc (.cells #[.iface T V, .iface T2 V2] 109)) := (Below.refl _ _).alloc (Nat.le_refl _) _
  have hk := heap_alloc_new w (.cells #[.iface T V, .iface T2 V2] 109)
  have d0 : (w.alloc (.cells #[.iface T V, .iface T2 V2] 109)).cell? ⟨w.heap.size, 0, none⟩ = some (.iface T V) := by rw [cell_of_row _ w.heap.size _ _ _ _ hk]; rfl
  have d1 : (w.alloc (.cells #[.iface T V, .iface T2 V2] 109)).cell? ⟨w.heap.size, 1, none⟩ = some (.iface T2 V2) := by rw [cell_of_row _ w.heap.size _ _ _ _ hk]; rfl
  have hc1 := fun dq os => Calls.regrown_of (ih1 (grow (redrawn (w.alloc (.cells #[.iface T V, .iface T2 V2] 109)) dq) os))
  have hc2 := fun dq os => Calls.regrown_of (ih2 (grow (redrawn (w.alloc (.cells #[.iface T V, .iface T2 V2] 109)) dq) os))
  have p0 := fun dq os => cell_regrown d0 dq os
  have p1 := fun dq os => cell_regrown d1 dq os
  clear ih1 ih2 hk d0 d1
  go_enter Try.func99, Try.ntmps99
  go_wp2
  refine wp_region_quiet_below (by kernel_rfl) (by kernel_rfl) ?_
  repeat (any_goals (first | go_big_quiet_step ((go_at_call 99; first | (with_reducible exact hc1 _ _) | (with_reducible exact hc2 _ _))) | quiet_step ((go_at_call 99; first | (with_reducible exact hc1 _ _) | (with_reducible exact hc2 _ _)))))
  refine wpQuiet_nil ?_
  intro _ hw'
  obtain ⟨⟨dq, osq⟩, hw''⟩ := hw'
  subst hw''
  have hb3 := hb0.trans ((below_regrown _ dq osq).mono hb0.size)
  generalize grow (redrawn (w.alloc (.cells #[.iface T V, .iface T2 V2] 109)) dq) osq = w9 at hb3 ⊢
  clear p0 p1 hc1 hc2 hb0
  go_wp2
  go_ret
  exact ⟨rfl, hb3⟩

theorem raised_any : ∀ (l : Li) (d a : Int) (w : World), okL l → 0 ≤ d → d ≤ 1099511627776 → 0 ≤ a → a + szL l ≤ 1099511627776 → Calls Try.prog 99 #[(.iface (ityL l) (ivL l)), .int .i64 d, .int .i64 a] w (ValPost (liV (raiseL l d a)) w)
  | .bnd n, d, a, w, ho, h0, h1, _, _ => raised_bnd n d a w ho.1 (by have := ho.2; omega) h0 h1
  | .free n, d, a, w, _, _, _, _, _ => raised_free n d a w
  | .fn x, d, a, w, ho, h0, h1, h2, h3 => by
    rw [szL] at h3
    exact raised_fn d a _ _ _ _ w h2 (by omega) (fun w' => raised_any x d (a + 1) w' ho h0 h1 (by omega) (by omega))
  | .app x y, d, a, w, ho, h0, h1, h2, h3 => by
    rw [szL] at h3
    exact raised_app d a _ _ _ _ _ _ _ _ w (fun w' => raised_any x d a w' ho.1 h0 h1 h2 (by omega)) (fun w' => raised_any y d a w' ho.2 h0 h1 h2 (by omega))

set_option maxRecDepth 100000 in
theorem contracted_bnd (n d : Int) (u : Li) (w : World) (hn : 0 ≤ n) (hn2 : n ≤ 999) (hd : 0 ≤ d) (hd2 : d ≤ 1099511627776) (hu : okL u) (hs : szL u ≤ 1048576) :
    Calls Try.prog 90 #[.iface 103 (.agg #[.int .i64 n]), .int .i64 d, (.iface (ityL u) (ivL u))] w (ValPost (liV (fillL (.bnd n) d u)) w) := by
  have hb0 : Below w.heap.size w (w.alloc (.cells #[.int .i64 n] 103)) := (Below.refl _ _).alloc (Nat.le_refl _) _
  rw [fillL]
  by_cases h : n = d
  · rw [if_pos h]
    subst h
    have hct := raised_any u n 0 (w.alloc (.cells #[.int .i64 n] 103)) hu hd hd2 (by omega) (by omega)
    unfold liV at hct ⊢
    generalize ityL u = T at hct ⊢
    generalize ivL u = V at hct ⊢
    generalize ityL (raiseL u n 0) = T1 at hct ⊢
    generalize ivL (raiseL u n 0) = V1 at hct ⊢
    go_enter Try.func90, Try.ntmps90
    go_wp2_with fail
    refine hct.mono ?_
    rintro e w2 ⟨rfl, hb2⟩
    have hb3 := hb0.trans (hb2.mono hb0.size)
    clear hct hb0 hb2
    go_wp2
    go_ret
    exact ⟨rfl, hb3⟩
  · rw [if_neg h]
    have t1 : (n == d) = false := by simpa using h
    generalize ityL u = T
    generalize ivL u = V
    by_cases h2 : d < n
    · rw [if_pos h2]
      go_enter Try.func90, Try.ntmps90
      go_wp2
      go_ret
      exact ⟨rfl, hb0⟩
    · rw [if_neg h2]
      have k1 : decide (d < n) = false := decide_eq_false h2
      have k2 : ¬ n > d := h2
      go_enter Try.func90, Try.ntmps90
      go_wp2
      go_ret
      exact ⟨rfl, hb0⟩
set_option maxRecDepth 100000 in
theorem contracted_free (n d : Int) (T : TypeId) (V : Value) (w : World) :
    Calls Try.prog 90 #[.iface 105 (.agg #[.int .i64 n]), .int .i64 d, .iface T V] w (ValPost (.iface 105 (.agg #[.int .i64 n])) w) := by
  go_enter Try.func90, Try.ntmps90
  go_wp2
  go_ret
  exact ⟨rfl, Below.refl _ _⟩
set_option maxRecDepth 100000 in
theorem contracted_fn (d : Int) (Tu : TypeId) (Vu : Value) (T T1 : TypeId) (V V1 : Value) (w : World) (ha : 0 ≤ d) (ha2 : d ≤ 1099511627776)
    (ih : ∀ (w' : World), Calls Try.prog 90 #[.iface T V, .int .i64 (d + 1), .iface Tu Vu] w' (ValPost (.iface T1 V1) w')) :
    Calls Try.prog 90 #[.iface 107 (.agg #[.iface T V]), .int .i64 d, .iface Tu Vu] w (ValPost (.iface 107 (.agg #[.iface T1 V1])) w) := by
  have hb0 : Below w.heap.size w (w.alloc (.cells #[.iface T V] 107)) := (Below.refl _ _).alloc (Nat.le_refl _) _
  have hct := ih (w.alloc (.cells #[.iface T V] 107))
  clear ih
  go_enter Try.func90, Try.ntmps90
  go_wp2_with fail
  refine hct.mono ?_
  rintro e w2 ⟨rfl, hb2⟩
  have hb3 := hb0.trans (hb2.mono hb0.size)
  clear hct hb0 hb2
  go_wp2
  go_ret
  exact ⟨rfl, hb3⟩
set_option maxRecDepth 100000 in
set_option maxHeartbeats 2000000 in
theorem contracted_app (d : Int) (Tu : TypeId) (Vu : Value) (T T2 T3 T4 : TypeId) (V V2 V3 V4 : Value) (w : World) 
    (ih1 : ∀ (w' : World), Calls Try.prog 90 #[.iface T V, .int .i64 d, .iface Tu Vu] w' (ValPost (.iface T3 V3) w'))
    (ih2 : ∀ (w' : World), Calls Try.prog 90 #[.iface T2 V2, .int .i64 d, .iface Tu Vu] w' (ValPost (.iface T4 V4) w')) :
    Calls Try.prog 90 #[.iface 109 (.agg #[.iface T V, .iface T2 V2]), .int .i64 d, .iface Tu Vu] w (ValPost (.iface 109 (.agg #[.iface T3 V3, .iface T4 V4])) w) := by
  have hb0 : Below w.heap.size w (w.alloc (.cells #[.iface T V, .iface T2 V2] 109)) := (Below.refl _ _).alloc (Nat.le_refl _) _
  have hk := heap_alloc_new w (.cells #[.iface T V, .iface T2 V2] 109)
  have d0 : (w.alloc (.cells #[.iface T V, .iface T2 V2] 109)).cell? ⟨w.heap.size, 0, none⟩ = some (.iface T V) := by rw [cell_of_row _ w.heap.size _ _ _ _ hk]; rfl
  have d1 : (w.alloc (.cells #[.iface T V, .iface T2 V2] 109)).cell? ⟨w.heap.size, 1, none⟩ = some (.iface T2 V2) := by rw [cell_of_row _ w.heap.size _ _ _ _ hk]; rfl
  have hc1 := fun dq os => Calls.regrown_of (ih1 (grow (redrawn (w.alloc (.cells #[.iface T V, .iface T2 V2] 109)) dq) os))
  have hc2 := fun dq os => Calls.regrown_of (ih2 (grow (redrawn (w.alloc (.cells #[.iface T V, .iface T2 V2] 109)) dq) os))
  have p0 := fun dq os => cell_regrown d0 dq os
  have p1 := fun dq os => cell_regrown d1 dq os
  clear ih1 ih2 hk d0 d1
  go_enter Try.func90, Try.ntmps90
  go_wp2
  refine wp_region_quiet_below (by kernel_rfl) (by kernel_rfl) ?_
  repeat (any_goals (first | go_big_quiet_step ((go_at_call 90; first | (with_reducible exact hc1 _ _) | (with_reducible exact hc2 _ _))) | quiet_step ((go_at_call 90; first | (with_reducible exact hc1 _ _) | (with_reducible exact hc2 _ _)))))
  refine wpQuiet_nil ?_
  intro _ hw'
  obtain ⟨⟨dq, osq⟩, hw''⟩ := hw'
  subst hw''
  have hb3 := hb0.trans ((below_regrown _ dq osq).mono hb0.size)
  generalize grow (redrawn (w.alloc (.cells #[.iface T V, .iface T2 V2] 109)) dq) osq = w9 at hb3 ⊢
  clear p0 p1 hc1 hc2 hb0
  go_wp2
  go_ret
  exact ⟨rfl, hb3⟩

theorem contracted_any (u : Li) (hu : okL u) (hs : szL u ≤ 1048576) : ∀ (l : Li) (d : Int) (w : World), okL l → 0 ≤ d → d + szL l ≤ 1099511627776 → Calls Try.prog 90 #[(.iface (ityL l) (ivL l)), .int .i64 d, (.iface (ityL u) (ivL u))] w (ValPost (liV (fillL l d u)) w)
  | .bnd n, d, w, ho, h0, h1 => contracted_bnd n d u w ho.1 ho.2 h0 (by omega) hu hs
  | .free n, d, w, _, _, _ => contracted_free n d _ _ w
  | .fn x, d, w, ho, h0, h1 => by
    rw [szL] at h1
    exact contracted_fn d _ _ _ _ _ _ w h0 (by omega) (fun w' => contracted_any u hu hs x (d + 1) w' ho (by omega) (by omega))
  | .app x y, d, w, ho, h0, h1 => by
    rw [szL] at h1
    exact contracted_app d _ _ _ _ _ _ _ _ _ _ w (fun w' => contracted_any u hu hs x d w' ho.1 h0 (by omega)) (fun w' => contracted_any u hu hs y d w' ho.2 h0 (by omega))

def StepPost (v : Value) (b : Bool) (w : World) (e : Ending) (w' : World) : Prop := e = .returned (.tuple #[v, .bool b]) ∧ Below w.heap.size w w'
set_option maxRecDepth 100000 in
theorem stepped_leaf (l : Li) (w : World) (h : (∃ n, l = .bnd n) ∨ (∃ n, l = .free n)) : Calls Try.prog 59 #[(.iface (ityL l) (ivL l))] w (StepPost (liV (stepD l)) (stepB l) w) := by
  rcases h with ⟨n, rfl⟩ | ⟨n, rfl⟩
  · show Calls Try.prog 59 #[.iface 103 (.agg #[.int .i64 n])] w (StepPost (.iface 103 (.agg #[.int .i64 n])) false w)
    go_enter Try.func59, Try.ntmps59
    go_wp2
    go_ret2
    exact ⟨rfl, Below.refl _ _⟩
  · show Calls Try.prog 59 #[.iface 105 (.agg #[.int .i64 n])] w (StepPost (.iface 105 (.agg #[.int .i64 n])) false w)
    go_enter Try.func59, Try.ntmps59
    go_wp2
    go_ret2
    exact ⟨rfl, Below.refl _ _⟩
set_option maxRecDepth 100000 in
theorem stepped_fn (T T1 : TypeId) (V V1 : Value) (b : Bool) (w : World) (ih : ∀ (w' : World), Calls Try.prog 59 #[.iface T V] w' (StepPost (.iface T1 V1) b w')) :
    Calls Try.prog 59 #[.iface 107 (.agg #[.iface T V])] w (StepPost (.iface 107 (.agg #[.iface T1 V1])) b w) := by
  have hb0 : Below w.heap.size w (w.alloc (.cells #[.iface T V] 107)) := (Below.refl _ _).alloc (Nat.le_refl _) _
  have hct := ih (w.alloc (.cells #[.iface T V] 107))
  clear ih
  go_enter Try.func59, Try.ntmps59
  go_wp2_with fail
  refine hct.mono ?_
  rintro e w2 ⟨rfl, hb2⟩
  have hb3 := hb0.trans (hb2.mono hb0.size)
  clear hct hb0 hb2
  go_wp2
  go_ret2
  exact ⟨rfl, hb3⟩
set_option maxRecDepth 100000 in
set_option maxHeartbeats 1000000 in
theorem stepped_redex (T T2 T3 : TypeId) (V V2 V3 : Value) (w : World) (hc : ∀ (w' : World), Calls Try.prog 90 #[.iface T V, .int .i64 0, .iface T2 V2] w' (ValPost (.iface T3 V3) w')) :
    Calls Try.prog 59 #[.iface 109 (.agg #[.iface 107 (.agg #[.iface T V]), .iface T2 V2])] w (StepPost (.iface T3 V3) true w) := by
  have hb0 : Below w.heap.size w ((w.alloc (.cells #[.iface 107 (.agg #[.iface T V]), .iface T2 V2] 109)).alloc (.cells #[.iface T V] 107)) := ((Below.refl _ _).alloc (Nat.le_refl _) _).alloc (by simp) _
  have hct := hc ((w.alloc (.cells #[.iface 107 (.agg #[.iface T V]), .iface T2 V2] 109)).alloc (.cells #[.iface T V] 107))
  clear hc
  go_enter Try.func59, Try.ntmps59
  go_wp2_with fail
  refine hct.mono ?_
  rintro e w2 ⟨rfl, hb2⟩
  have hb3 := hb0.trans (hb2.mono hb0.size)
  clear hct hb0 hb2
  go_wp2
  go_ret2
  exact ⟨rfl, hb3⟩
set_option maxRecDepth 100000 in
set_option maxHeartbeats 1000000 in
theorem stepped_app (T T2 T3 T4 : TypeId) (V V2 V3 V4 : Value) (b c : Bool) (w : World)
    (hna : ∀ w : World, (Instr.typeAssert (.iface T V) 76 107 true).run Try.prog w = .ok (.tuple #[.agg #[.nilIface], .bool false]) w)
    (ih1 : ∀ (w' : World), Calls Try.prog 59 #[.iface T V] w' (StepPost (.iface T3 V3) b w'))
    (ih2 : ∀ (w' : World), Calls Try.prog 59 #[.iface T2 V2] w' (StepPost (.iface T4 V4) c w')) :
    Calls Try.prog 59 #[.iface 109 (.agg #[.iface T V, .iface T2 V2])] w (StepPost (if b then .iface 109 (.agg #[.iface T3 V3, .iface T2 V2]) else .iface 109 (.agg #[.iface T V, .iface T4 V4])) (if b then true else c) w) := by
  have hb0 : Below w.heap.size w ((w.alloc (.cells #[.iface T V, .iface T2 V2] 109)).alloc (.cells #[.nilIface] 107)) := ((Below.refl _ _).alloc (Nat.le_refl _) _).alloc (by simp) _
  have hct := ih1 ((w.alloc (.cells #[.iface T V, .iface T2 V2] 109)).alloc (.cells #[.nilIface] 107))
  have hk : ((w.alloc (.cells #[.iface T V, .iface T2 V2] 109)).alloc (.cells #[.nilIface] 107)).heap[w.heap.size]? = some (.cells #[.iface T V, .iface T2 V2] 109 (0, 0)) := (Below.heap_alloc (w.alloc (.cells #[.iface T V, .iface T2 V2] 109)) _ _ (by simp)).trans (heap_alloc_new w _)
  clear ih1
  cases b with
  | true =>
    rw [if_pos rfl, if_pos rfl]
    go_enter Try.func59, Try.ntmps59
    go_wp2_with fail
    refine hct.mono ?_
    rintro e w2 ⟨rfl, hb2⟩
    have hb3 := hb0.trans (hb2.mono hb0.size)
    have hk2 := (hb2.block w.heap.size (by simp; omega)).trans hk
    have b0 : w2.cell? ⟨w.heap.size, 0, none⟩ = some (.iface T V) := by rw [cell_of_row _ w.heap.size _ _ _ _ hk2]; rfl
    have b1 : w2.cell? ⟨w.heap.size, 1, none⟩ = some (.iface T2 V2) := by rw [cell_of_row _ w.heap.size _ _ _ _ hk2]; rfl
    clear hct hb0 hb2 hk hk2 ih2
    go_wp2
    go_ret2
    exact ⟨rfl, hb3⟩
  | false =>
    rw [if_neg (by simp), if_neg (by simp)]
    go_enter Try.func59, Try.ntmps59
    go_wp2_with fail
    refine hct.mono ?_
    rintro e w2 ⟨rfl, hb2⟩
    have hb3 := hb0.trans (hb2.mono hb0.size)
    have hk2 := (hb2.block w.heap.size (by simp; omega)).trans hk
    have b0 : w2.cell? ⟨w.heap.size, 0, none⟩ = some (.iface T V) := by rw [cell_of_row _ w.heap.size _ _ _ _ hk2]; rfl
    have b1 : w2.cell? ⟨w.heap.size, 1, none⟩ = some (.iface T2 V2) := by rw [cell_of_row _ w.heap.size _ _ _ _ hk2]; rfl
    have hct2 := ih2 w2
    clear hct hb0 hb2 hk ih2
    go_wp2_with fail
    refine hct2.mono ?_
    rintro e w3 ⟨rfl, hb4⟩
    have hb5 := hb3.trans (hb4.mono hb3.size)
    have hk3 := (hb4.block w.heap.size (Args8S.box_lt hk2)).trans hk2
    have c0 : w3.cell? ⟨w.heap.size, 0, none⟩ = some (.iface T V) := by rw [cell_of_row _ w.heap.size _ _ _ _ hk3]; rfl
    have c1 : w3.cell? ⟨w.heap.size, 1, none⟩ = some (.iface T2 V2) := by rw [cell_of_row _ w.heap.size _ _ _ _ hk3]; rfl
    clear hct2 hb3 hb4 hk2 hk3 b0 b1
    go_wp2
    go_ret2
    exact ⟨rfl, hb5⟩

theorem stepped_any : ∀ (l : Li) (w : World), okL l → szL l ≤ 1048576 → Calls Try.prog 59 #[(.iface (ityL l) (ivL l))] w (StepPost (liV (stepD l)) (stepB l) w)
  | .bnd n, w, _, _ => stepped_leaf (.bnd n) w (.inl ⟨n, rfl⟩)
  | .free n, w, _, _ => stepped_leaf (.free n) w (.inr ⟨n, rfl⟩)
  | .fn x, w, ho, hs => by
    rw [szL] at hs
    rw [stepD, stepB]
    exact stepped_fn _ _ _ _ _ w (fun w' => stepped_any x w' ho (by omega))
  | .app (.fn b) y, w, ho, hs => by
    rw [szL, szL] at hs
    rw [stepD, stepB]
    exact stepped_redex _ _ _ _ _ _ w (fun w' => contracted_any y ho.2 (by omega) b 0 w' ho.1 (by omega) (by omega))
  | .app (.bnd n) y, w, ho, hs => by
    rw [szL] at hs
    have h := stepped_app _ _ _ _ _ _ _ _ _ _ w (fun w => is_boundIndex_funIndex (.agg #[.int .i64 n]) w) (fun w' => stepped_any (.bnd n) w' ho.1 (by omega)) (fun w' => stepped_any y w' ho.2 (by omega))
    rw [stepD, stepB]
    exact h
  | .app (.free n) y, w, ho, hs => by
    rw [szL] at hs
    have h := stepped_app _ _ _ _ _ _ _ _ _ _ w (fun w => is_freeIndex_funIndex (.agg #[.int .i64 n]) w) (fun w' => stepped_any (.free n) w' ho.1 (by omega)) (fun w' => stepped_any y w' ho.2 (by omega))
    rw [stepD, stepB]
    exact h
  | .app (.app f g) y, w, ho, hs => by
    rw [szL] at hs
    have h := stepped_app _ _ _ _ _ _ _ _ _ _ w (fun w => is_applyIndex_funIndex (ivL (.app f g)) w) (fun w' => stepped_any (.app f g) w' ho.1 (by omega)) (fun w' => stepped_any y w' ho.2 (by omega))
    rw [stepD, stepB]
    cases hb : stepB (.app f g) with
    | true => rw [hb] at h; exact h
    | false => rw [hb] at h; exact h
end Go.Proofs.Ytihijigbdpjcoaa
end

