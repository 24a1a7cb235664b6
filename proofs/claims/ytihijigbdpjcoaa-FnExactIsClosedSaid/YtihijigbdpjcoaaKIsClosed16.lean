/-
  Index forms in the program, as contracts: the form of an index term, whether it is closed.
-/
import Derived.Test.YtihijigbdpjcoaaKIsClosed7
import Derived.Test.YtihijigbdpjcoaaKIsClosed15
import Derived.Test.YtihijigbdpjcoaaKIsClosed12
import Derived.Lib.QuietBelow
namespace Go.Proofs.Ytihijigbdpjcoaa
open Go.RowKit Go.Sort
set_option linter.unusedVariables false

set_option maxRecDepth 100000 in
theorem ifo_bnd (n : Int) (B : Option Addr) (kl d : Nat) (w : World) :
    Calls Try.prog 57 #[.agg #[.int .i64 1, .int .i64 n, .slice B kl d]] w (ValPost (.iface 103 (.agg #[.int .i64 n])) w) := by
  have hb0 : Below w.heap.size w (w.alloc (.cells #[.int .i64 1, .int .i64 n, .slice B kl d] 42)) := (Below.refl _ _).alloc (Nat.le_refl _) _
  go_enter Try.func57, Try.ntmps57
  go_wp2
  go_ret
  exact ⟨rfl, hb0⟩

set_option maxRecDepth 100000 in
theorem ifo_free (n : Int) (B : Option Addr) (kl d : Nat) (w : World) :
    Calls Try.prog 57 #[.agg #[.int .i64 2, .int .i64 n, .slice B kl d]] w (ValPost (.iface 105 (.agg #[.int .i64 n])) w) := by
  have hb0 : Below w.heap.size w (w.alloc (.cells #[.int .i64 2, .int .i64 n, .slice B kl d] 42)) := (Below.refl _ _).alloc (Nat.le_refl _) _
  go_enter Try.func57, Try.ntmps57
  go_wp2
  go_ret
  exact ⟨rfl, hb0⟩

set_option maxRecDepth 100000 in
set_option maxHeartbeats 1000000 in
theorem ifo_fn (k : Ix) (T1 : TypeId) (v1 : Value) (n : Int) (B : Option Addr) (d : Nat) (w : World) (hk : IxsIn w (.slice B 1 d) [k])
    (ih : ∀ (w' : World) (y : Value), IxIn w' y k → Calls Try.prog 57 #[y] w' (ValPost (.iface T1 v1) w')) :
    Calls Try.prog 57 #[.agg #[.int .i64 3, .int .i64 n, .slice B 1 d]] w (ValPost (.iface 107 (.agg #[.iface T1 v1])) w) := by
  have hb0 : Below w.heap.size w (w.alloc (.cells #[.int .i64 3, .int .i64 n, .slice B 1 d] 42)) := (Below.refl _ _).alloc (Nat.le_refl _) _
  obtain ⟨b, off, B1, e1, rfl, hbl, d0, d1, d2, hy⟩ := kid_ix (hk.below hb0) (k := 0) (by simp)
  rw [ixAt_cons_zero, Nat.zero_mul, Nat.add_zero] at d0 d1 d2
  rw [ixAt_cons_zero] at hy
  have hct := ih _ _ hy
  clear ih hy hk hbl
  go_enter Try.func57, Try.ntmps57
  go_wp2_with fail
  refine hct.mono ?_
  rintro e w2 ⟨rfl, hb2⟩
  have hpost : ValPost (.iface 107 (.agg #[.iface T1 v1])) w (.returned (.iface 107 (.agg #[.iface T1 v1]))) w2 := ⟨rfl, hb0.trans (hb2.mono hb0.size)⟩
  clear hct d0 d1 d2 hb0 hb2
  go_wp2
  go_ret
  exact hpost

set_option maxRecDepth 100000 in
set_option maxHeartbeats 2000000 in
theorem ifo_app (k1 k2 : Ix) (T1 T2 : TypeId) (v1 v2 : Value) (n : Int) (B : Option Addr) (d : Nat) (w : World) (hk : IxsIn w (.slice B 2 d) [k1, k2])
    (ih1 : ∀ (w' : World) (y : Value), IxIn w' y k1 → Calls Try.prog 57 #[y] w' (ValPost (.iface T1 v1) w'))
    (ih2 : ∀ (w' : World) (y : Value), IxIn w' y k2 → Calls Try.prog 57 #[y] w' (ValPost (.iface T2 v2) w')) :
    Calls Try.prog 57 #[.agg #[.int .i64 4, .int .i64 n, .slice B 2 d]] w (ValPost (.iface 109 (.agg #[.iface T1 v1, .iface T2 v2])) w) := by
  have hb0 : Below w.heap.size w (w.alloc (.cells #[.int .i64 4, .int .i64 n, .slice B 2 d] 42)) := (Below.refl _ _).alloc (Nat.le_refl _) _
  obtain ⟨b, off, B1, e1, rfl, hbl, d0, d1, d2, hy⟩ := kid_ix (hk.below hb0) (k := 0) (by simp)
  obtain ⟨b', off', B2, e2, eB, _, f0, f1, f2, hz⟩ := kid_ix (hk.below hb0) (k := 1) (by simp)
  injection eB with eB
  injection eB with eB1 eB2
  subst eB1
  subst eB2
  have ha : (w.alloc (.cells #[.int .i64 4, .int .i64 n, .slice (some ⟨b, off, none⟩) 2 d] 42)).cell? ⟨w.heap.size, 2, none⟩ = some (.slice (some ⟨b, off, none⟩) 2 d) := (box3 (Below.refl _ _)).2.2
  rw [Nat.zero_mul, Nat.add_zero] at d0 d1 d2
  rw [Nat.one_mul] at f0 f1 f2
  have e0 : ixAt [k1, k2] 0 = k1 := rfl
  have e9 : ixAt [k1, k2] 1 = k2 := rfl
  rw [e0] at d0 d1 d2 hy
  rw [e9] at f0 f1 f2 hz
  have hc1 := fun dq os => Calls.regrown_of (ih1 (grow (redrawn (w.alloc (.cells #[.int .i64 4, .int .i64 n, .slice (some ⟨b, off, none⟩) 2 d] 42)) dq) os) _ (hy.below (below_regrown (w.alloc (.cells #[.int .i64 4, .int .i64 n, .slice (some ⟨b, off, none⟩) 2 d] 42)) dq os)))
  have hc2 := fun dq os => Calls.regrown_of (ih2 (grow (redrawn (w.alloc (.cells #[.int .i64 4, .int .i64 n, .slice (some ⟨b, off, none⟩) 2 d] 42)) dq) os) _ (hz.below (below_regrown (w.alloc (.cells #[.int .i64 4, .int .i64 n, .slice (some ⟨b, off, none⟩) 2 d] 42)) dq os)))
  have qa := fun dq os => cell_regrown ha dq os
  have p0 := fun dq os => cell_regrown d0 dq os
  have p1 := fun dq os => cell_regrown d1 dq os
  have p2 := fun dq os => cell_regrown d2 dq os
  have r0 := fun dq os => cell_regrown f0 dq os
  have r1 := fun dq os => cell_regrown f1 dq os
  have r2 := fun dq os => cell_regrown f2 dq os
  clear ih1 ih2 hy hz hk hbl ha d0 d1 d2 f0 f1 f2 e0 e9
  go_enter Try.func57, Try.ntmps57
  go_wp2
  refine wp_region_quiet_below (by kernel_rfl) (by kernel_rfl) ?_
  repeat (any_goals (first | go_big_quiet_step ((go_at_call 57; first | (with_reducible exact hc1 _ _) | (with_reducible exact hc2 _ _))) | quiet_step ((go_at_call 57; first | (with_reducible exact hc1 _ _) | (with_reducible exact hc2 _ _)))))
  refine wpQuiet_nil ?_
  intro _ hw'
  obtain ⟨⟨dq, osq⟩, hw''⟩ := hw'
  subst hw''
  have hb3 := hb0.trans ((below_regrown _ dq osq).mono hb0.size)
  generalize grow (redrawn (w.alloc (.cells #[.int .i64 4, .int .i64 n, .slice (some ⟨b, off, none⟩) 2 d] 42)) dq) osq = w9 at hb3 ⊢
  clear qa p0 p1 p2 r0 r1 r2 hc1 hc2 hb0
  go_wp2
  go_ret
  exact ⟨rfl, hb3⟩

theorem indexFormOf_any : ∀ (l : Li) (w : World) (x : Value), IxIn w x (liIx l) → Calls Try.prog 57 #[x] w (ValPost (liV l) w)
  | .bnd n, w, x, hx => by
    obtain ⟨B, d, rfl, hk⟩ := hx
    exact ifo_bnd n B _ d w
  | .free n, w, x, hx => by
    obtain ⟨B, d, rfl, hk⟩ := hx
    exact ifo_free n B _ d w
  | .fn y, w, x, hx => by
    obtain ⟨B, d, rfl, hk⟩ := hx
    exact ifo_fn (liIx y) (ityL y) (ivL y) 0 B d w hk (fun w' z hz => indexFormOf_any y w' z hz)
  | .app y z, w, x, hx => by
    obtain ⟨B, d, rfl, hk⟩ := hx
    exact ifo_app (liIx y) (liIx z) (ityL y) (ityL z) (ivL y) (ivL z) 0 B d w hk (fun w' u hu => indexFormOf_any y w' u hu) (fun w' u hu => indexFormOf_any z w' u hu)

/-! Whether it is closed. -/
set_option maxRecDepth 100000 in
theorem closed_bnd (n a : Int) (w : World) : Calls Try.prog 108 #[.agg #[.int .i64 n], .int .i64 a] w (BoolPost (decide (n < a)) w) := by
  have hb0 : Below w.heap.size w (w.alloc (.cells #[.int .i64 n] 103)) := (Below.refl _ _).alloc (Nat.le_refl _) _
  by_cases h : n < a
  · rw [decide_eq_true h]
    go_enter Try.func108, Try.ntmps108
    go_wp2
    go_ret
    exact ⟨rfl, hb0⟩
  · rw [decide_eq_false h]
    have k1 : decide (n < a) = false := decide_eq_false h
    go_enter Try.func108, Try.ntmps108
    go_wp2
    go_ret
    exact ⟨rfl, hb0⟩
set_option maxRecDepth 100000 in
theorem closed_free (n a : Int) (w : World) : Calls Try.prog 166 #[.agg #[.int .i64 n], .int .i64 a] w (BoolPost true w) := by
  have hb0 : Below w.heap.size w (w.alloc (.cells #[.int .i64 n] 105)) := (Below.refl _ _).alloc (Nat.le_refl _) _
  go_enter Try.func166, Try.ntmps166
  go_wp2
  go_ret
  exact ⟨rfl, hb0⟩
set_option maxRecDepth 100000 in
theorem closed_fn (x : Li) (a : Int) (b : Bool) (w : World) (ha0 : 0 ≤ a) (ha : a ≤ 1099511627776)
    (ih : ∀ (w' : World), Calls Try.prog (mClosedF x) #[ivL x, .int .i64 (a + 1)] w' (BoolPost b w')) :
    Calls Try.prog 171 #[.agg #[.iface (ityL x) (ivL x)], .int .i64 a] w (BoolPost b w) := by
  have hb0 : Below w.heap.size w (w.alloc (.cells #[.iface (ityL x) (ivL x)] 107)) := (Below.refl _ _).alloc (Nat.le_refl _) _
  have hm := askClosedL x
  have hn := enterClosedL x
  have hct := ih (w.alloc (.cells #[.iface (ityL x) (ivL x)] 107))
  clear ih
  generalize mClosedF x = F at hm hn hct
  generalize ityL x = T at hm hct hb0 ⊢
  generalize ivL x = V at hct hb0 ⊢
  go_enter Try.func171, Try.ntmps171
  go_wp2_with fail
  refine hct.mono ?_
  rintro e w2 ⟨rfl, hb2⟩
  have hpost : BoolPost b w (.returned (.bool b)) w2 := ⟨rfl, hb0.trans (hb2.mono hb0.size)⟩
  clear hct hb0 hb2 hm hn
  go_wp2
  go_ret
  exact hpost
set_option maxRecDepth 100000 in
theorem closed_app (x y : Li) (a : Int) (b c : Bool) (w : World)
    (ih1 : ∀ (w' : World), Calls Try.prog (mClosedF x) #[ivL x, .int .i64 a] w' (BoolPost b w'))
    (ih2 : ∀ (w' : World), Calls Try.prog (mClosedF y) #[ivL y, .int .i64 a] w' (BoolPost c w')) :
    Calls Try.prog 176 #[.agg #[.iface (ityL x) (ivL x), .iface (ityL y) (ivL y)], .int .i64 a] w (BoolPost (b && c) w) := by
  have hb0 : Below w.heap.size w (w.alloc (.cells #[.iface (ityL x) (ivL x), .iface (ityL y) (ivL y)] 109)) := (Below.refl _ _).alloc (Nat.le_refl _) _
  have hk := heap_alloc_new w (.cells #[.iface (ityL x) (ivL x), .iface (ityL y) (ivL y)] 109)
  have hm := askClosedL x
  have hn := enterClosedL x
  have hm2 := askClosedL y
  have hn2 := enterClosedL y
  have hct := ih1 (w.alloc (.cells #[.iface (ityL x) (ivL x), .iface (ityL y) (ivL y)] 109))
  clear ih1
  generalize mClosedF x = F at hm hn hct
  generalize mClosedF y = G at hm2 hn2 ih2
  generalize ityL x = T at hm hct hb0 hk ⊢
  generalize ivL x = V at hct hb0 hk ⊢
  generalize ityL y = T2 at hm2 hct hb0 hk ⊢
  generalize ivL y = V2 at hct hb0 hk ih2 ⊢
  cases b with
  | false =>
    go_enter Try.func176, Try.ntmps176
    go_wp2_with fail
    refine hct.mono ?_
    rintro e w2 ⟨rfl, hb2⟩
    have hpost : BoolPost (false && c) w (.returned (.bool false)) w2 := ⟨rfl, hb0.trans (hb2.mono hb0.size)⟩
    clear hct hb0 hb2 hm hn hm2 hn2 ih2 hk
    go_wp2
    go_ret
    exact hpost
  | true =>
    go_enter Try.func176, Try.ntmps176
    go_wp2_with fail
    refine hct.mono ?_
    rintro e w2 ⟨rfl, hb2⟩
    have hb3 := hb0.trans (hb2.mono hb0.size)
    have hk2 := (hb2.block _ (by simp)).trans hk
    have b1 : w2.cell? ⟨w.heap.size, 1, none⟩ = some (.iface T2 V2) := by rw [cell_of_row w2 w.heap.size _ _ _ _ hk2]; rfl
    have hct2 := ih2 w2
    clear hct hb0 hb2 hm hn ih2 hk hk2
    go_wp2_with fail
    refine hct2.mono ?_
    rintro e w3 ⟨rfl, hb4⟩
    have hpost : BoolPost (true && c) w (.returned (.bool c)) w3 := ⟨by simp, hb3.trans (hb4.mono hb3.size)⟩
    clear hct2 hb3 hb4 hm2 hn2 b1
    go_wp2
    go_ret
    exact hpost

theorem closedIn_any : ∀ (l : Li) (a : Int) (w : World), 0 ≤ a → a + szL l ≤ 1099511627776 → Calls Try.prog (mClosedF l) #[ivL l, .int .i64 a] w (BoolPost (closedL l a) w)
  | .bnd n, a, w, _, _ => closed_bnd n a w
  | .free n, a, w, _, _ => closed_free n a w
  | .fn x, a, w, h0, h1 => by
    rw [szL] at h1
    exact closed_fn x a _ w h0 (by omega) (fun w' => closedIn_any x (a + 1) w' (by omega) (by omega))
  | .app x y, a, w, h0, h1 => by
    rw [szL] at h1
    exact closed_app x y a _ _ w (fun w' => closedIn_any x a w' h0 (by omega)) (fun w' => closedIn_any y a w' h0 (by omega))

set_option maxRecDepth 100000 in
theorem isClosed_impl (t : Ix) (x : Value) (w : World) (hx : IxIn w x t) (hf : FitIx t) :
    Calls Try.prog 21 #[x] w (BoolPost (isIndexB t && closedI t 0) w) := by
  have hit := fun W hW => isIndexTerm_impl t x W hW hf
  have hx' := hx
  obtain ⟨B, d, rfl, hk⟩ := hx
  have hb0 : Below w.heap.size w (w.alloc (.cells #[.int .i64 t.op, .int .i64 t.num, .slice B t.kids.length d] 42)) := (Below.refl _ _).alloc (Nat.le_refl _) _
  have hi0 := hit _ (hx'.below hb0)
  clear hit
  by_cases h1 : isIndexB t = true
  · obtain ⟨l, hl, hok, hsz⟩ := index_li h1
    have hcl : closedI t 0 = closedL l 0 := by rw [hl]; exact closedI_li l 0
    rw [h1, hcl, Bool.true_and]
    rw [h1] at hi0
    have hif := fun W X (hW : IxIn W X t) => indexFormOf_any l W X (hl ▸ hW)
    have hcc := fun W => closedIn_any l 0 W (by omega) (by omega)
    have hm := askClosedL l
    have hn := enterClosedL l
    generalize closedL l 0 = c at hcc ⊢
    generalize mClosedF l = F at hm hn hcc
    have hxx := Lib.hid (fun W (hW : Below w.heap.size w W) => hif W _ (hx'.below hW))
    clear hif hk h1 hcl hl hf hx'
    unfold liV at hxx
    generalize ityL l = T at hm hxx
    generalize ivL l = V at hcc hxx
    go_enter Try.func21, Try.ntmps21
    go_wp2_with fail
    refine hi0.mono ?_
    rintro e w1 ⟨rfl, hb1⟩
    obtain ⟨b0, b1, b2⟩ := box3 hb1
    have hs1 := hb0.trans (hb1.mono hb0.size)
    have hf0 := hxx.out w1 hs1
    clear hi0 hb0 hb1 hxx
    go_wp2_with fail
    refine hf0.mono ?_
    rintro e w2 ⟨rfl, hb2⟩
    have hs2 := hs1.trans (hb2.mono hs1.size)
    have hc0 := hcc w2
    clear hf0 hs1 hb2 hcc b0 b1 b2
    go_wp2_with fail
    refine hc0.mono ?_
    rintro e w3 ⟨rfl, hb3⟩
    have hpost : BoolPost c w (.returned (.bool c)) w3 := ⟨rfl, hs2.trans (hb3.mono hs2.size)⟩
    clear hc0 hs2 hb3 hm hn
    go_wp2
    go_ret
    exact hpost
  · have h1' : isIndexB t = false := by simpa using h1
    rw [h1', Bool.false_and]
    rw [h1'] at hi0
    clear h1 h1' hx' hk
    go_enter Try.func21, Try.ntmps21
    go_wp2_with fail
    refine hi0.mono ?_
    rintro e w1 ⟨rfl, hb1⟩
    have hpost : BoolPost false w (.returned (.bool false)) w1 := ⟨rfl, hb0.trans (hb1.mono hb0.size)⟩
    clear hi0 hb0 hb1
    go_wp2
    go_ret
    exact hpost
end Go.Proofs.Ytihijigbdpjcoaa
