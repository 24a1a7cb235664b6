/-
  Function terms without names, in the program, as contracts.
-/
import Derived.Test.YtihijigbdpjcoaaGreatKIndexOf11
import Derived.Test.YtihijigbdpjcoaaGreatKIndexOf12
import Derived.Test.YtihijigbdpjcoaaGreatKIndexOf13
import Derived.Test.YtihijigbdpjcoaaGreatKIndexOf15
namespace Go.Proofs.YtihijigbdpjcoaaGreat
open Go.RowKit Go.Sort
set_option linter.unusedVariables false

/-- The atoms of the functions around it, from the innermost one on, in place of names. -/
noncomputable def unL : Ft → List Int → Li
  | .var a, ar => if 0 ≤ idxI ar a then .bnd (idxI ar a) else .free a
  | .lam a b, ar => .fn (unL b (a :: ar))
  | .app x y, ar => .app (unL x ar) (unL y ar)
theorem szL_un : ∀ (f : Ft) (ar : List Int), szL (unL f ar) ≤ szF8 f
  | .var a, ar => by rw [unL]; split <;> simp [szL, szF8]
  | .lam a b, ar => by have := szL_un b (a :: ar); rw [unL, szL, szF8]; omega
  | .app x y, ar => by have h1 := szL_un x ar; have h2 := szL_un y ar; rw [unL, szL, szF8]; omega
theorem hz_own8 {w : World} {base size n len d : Nat} {e : TypeId} {B : Option Addr} {xs : List Value} (h : w.ownsRow base e size (.slice B n d) len xs) : B = none → d = 0 := by
  rintro rfl
  rcases h.2 with ⟨e1, _⟩ | ⟨g, cap, cur, e1, _⟩
  · injection e1
  · cases e1
theorem cat8 {w : World} {A B : Option Addr} {a b : Nat} {x y : List Int} {T : TypeId} (hA : IntsAt w A x) (hB : IntsAt w B y) (ha : A = none → a = 0) (hb : B = none → b = 0) :
    CatAt (w.alloc (.cells #[.slice A x.length a, .slice B y.length b] T)) (some ⟨w.heap.size, 0, none⟩) [x, y] := by
  intro _
  have hbe : Below w.heap.size w (w.alloc (.cells #[.slice A x.length a, .slice B y.length b] T)) := (Below.refl _ _).alloc (Nat.le_refl _) _
  have hk := heap_alloc_new w (.cells #[.slice A x.length a, .slice B y.length b] T)
  refine ⟨w.heap.size, 0, rfl, by simp, fun i hi => ?_⟩
  rcases i with _ | _ | i
  · exact ⟨A, a, by rw [cell_of_row _ _ _ _ _ _ hk]; rfl, hA.below hbe, ha⟩
  · exact ⟨B, b, by rw [cell_of_row _ _ _ _ _ _ hk]; rfl, hB.below hbe, hb⟩
  · simp at hi; omega
theorem one8 (w : World) (a : Int) (T : TypeId) : IntsAt (w.alloc (.cells #[.int .i64 a] T)) (some ⟨w.heap.size, 0, none⟩) [a] := fun _ =>
  ⟨w.heap.size, 0, rfl, by simp, fun i hi => by
    have e : i = 0 := by simp at hi; omega
    subst e
    rw [cell_of_row _ _ _ _ _ _ (heap_alloc_new w (.cells #[.int .i64 a] T))]; rfl⟩

set_option maxRecDepth 100000 in
theorem within_at (a : Int) (A : Option Addr) (c : Nat) (ar : List Int) (w : World) (hA : IntsAt w A ar) (hz : A = none → c = 0) (hl : ar.length ≤ 1048576) :
    Calls Tryz.prog 72 #[.int .i64 a, .slice A ar.length c] w (NewInts (a :: ar) w) := by
  have hb1 : Below w.heap.size w (w.alloc (.cells #[.int .i64 a] 3)) := (Below.refl _ _).alloc (Nat.le_refl _) _
  have hb2 : Below w.heap.size w ((w.alloc (.cells #[.int .i64 a] 3)).alloc (.cells #[.slice (some ⟨w.heap.size, 0, none⟩) 1 1, .slice A ar.length c] 65)) := hb1.alloc hb1.size _
  have hcat := concat_any (some ⟨w.heap.size + 1, 0, none⟩) 2 [[a], ar] ((w.alloc (.cells #[.int .i64 a] 3)).alloc (.cells #[.slice (some ⟨w.heap.size, 0, none⟩) 1 1, .slice A ar.length c] 65)) (by
    have h := cat8 (w := w.alloc (.cells #[.int .i64 a] 3)) (T := 65) (a := 1) (b := c) (one8 w a 3) (hA.below hb1) (fun h => by cases h) hz
    simpa using h) (by simp) (by simp [sumR]; omega)
  have hfl : [[a], ar].flatten = a :: ar := by simp
  rw [hfl] at hcat
  clear hfl hb1 hA hz
  generalize hY : a :: ar = Y at *
  clear hY
  go_enter Tryz.func72, Tryz.ntmps72
  go_wp2_with fail
  refine hcat.mono ?_
  rintro e w4 ⟨v4, rfl, ho4, hb4⟩
  have hpost : NewInts Y w (.returned v4) w4 := ⟨v4, rfl, own_le ho4 hb2.size, hb2.trans (hb4.mono hb2.size)⟩
  clear hcat ho4 hb4 hb2
  go_wp2
  go_ret
  exact hpost

set_option maxRecDepth 100000 in
theorem atomOf_any (o n a : Int) (At : Option Addr) (pl ct d b off kl : Nat) (w : World) (hb : b < w.heap.size) (hkl : 0 < kl) (hc : w.cell? ⟨b, off + 1, none⟩ = some (.int .i64 a)) :
    Calls Tryz.prog 73 #[.agg #[.int .i64 o, .int .i64 n, .slice At pl ct, .slice (some ⟨b, off, none⟩) kl d]] w
      fun e w' => e = .returned (.int .i64 a) ∧ Below w.heap.size w w' := by
  have hb0 : Below w.heap.size w (w.alloc (.cells #[.int .i64 o, .int .i64 n, .slice At pl ct, .slice (some ⟨b, off, none⟩) kl d] 35)) := (Below.refl _ _).alloc (Nat.le_refl _) _
  have k1 : (0 : Int) < (kl : Int) := by omega
  have e0 := (hb0.cell (p := ⟨b, off + 1, none⟩) hb).trans hc
  clear hc
  go_enter Tryz.func73, Tryz.ntmps73
  go_wp2
  go_ret
  exact ⟨rfl, hb0⟩

set_option maxRecDepth 100000 in
set_option maxHeartbeats 1000000 in
theorem un_var (n : Int) (At B : Option Addr) (pl ct kl d : Nat) (A : Option Addr) (c : Nat) (ar : List Int) (w : World) (hA : IntsAt w A ar) (hl : ar.length ≤ 1048576) :
    Calls Tryz.prog 35 #[.agg #[.int .i64 1, .int .i64 n, .slice At pl ct, .slice B kl d], .slice A ar.length c] w (ValPost (liV (unL (.var n) ar)) w) := by
  have hb0 : Below w.heap.size w (w.alloc (.cells #[.int .i64 1, .int .i64 n, .slice At pl ct, .slice B kl d] 35)) := (Below.refl _ _).alloc (Nat.le_refl _) _
  have h10 := isFun_op 1 n B kl At pl ct d (w.alloc (.cells #[.int .i64 1, .int .i64 n, .slice At pl ct, .slice B kl d] 35)) (by decide)
  have h2 := fun W => isApp_op 1 n B kl At pl ct d W (by decide)
  have h3 := fun (W : World) (hW : Below w.heap.size w W) => indexOf_any A c ar n W (hA.below hW) (by omega)
  rw [unL]
  have hge : ∃ r : Int, idxI ar n = r := ⟨_, rfl⟩
  clear hA
  generalize idxI ar n = r at h3 ⊢
  generalize ar.length = al at *
  clear hge
  by_cases hr : 0 ≤ r
  · rw [if_pos hr]
    go_enter Tryz.func35, Tryz.ntmps35
    go_wp2_with fail
    refine h10.mono ?_
    rintro e w1 ⟨rfl, hb1⟩
    obtain ⟨b0, b1, b2, b3⟩ := box4 hb1
    have hs1 := hb0.trans (hb1.mono hb0.size)
    have h20 := h2 w1
    have hkk := (hb1.block w.heap.size (by simp)).trans (heap_alloc_new w _)
    clear h10 h2 hb1 hb0
    go_wp2_with fail
    refine h20.mono ?_
    rintro e w2 ⟨rfl, hb2⟩
    have hk2 := (hb2.block w.heap.size (Args8.box_lt hkk)).trans hkk
    obtain ⟨g0, g1, g2, g3⟩ := Args8.row4 hk2
    have hs2 := hs1.trans (hb2.mono hs1.size)
    have h30 := h3 w2 hs2
    clear h20 hb2 hs1 b0 b1 b2 b3 hkk hk2 h3
    go_wp2_with fail
    refine h30.mono ?_
    rintro e w3 ⟨rfl, rfl⟩
    clear h30
    go_wp2
    go_ret
    exact ⟨rfl, hs2⟩
  · rw [if_neg hr]
    have k1 : decide (0 ≤ r) = false := decide_eq_false hr
    have k3 : r < 0 := by omega
    go_enter Tryz.func35, Tryz.ntmps35
    go_wp2_with fail
    refine h10.mono ?_
    rintro e w1 ⟨rfl, hb1⟩
    obtain ⟨b0, b1, b2, b3⟩ := box4 hb1
    have hs1 := hb0.trans (hb1.mono hb0.size)
    have h20 := h2 w1
    have hkk := (hb1.block w.heap.size (by simp)).trans (heap_alloc_new w _)
    clear h10 h2 hb1 hb0
    go_wp2_with fail
    refine h20.mono ?_
    rintro e w2 ⟨rfl, hb2⟩
    have hk2 := (hb2.block w.heap.size (Args8.box_lt hkk)).trans hkk
    obtain ⟨g0, g1, g2, g3⟩ := Args8.row4 hk2
    have hs2 := hs1.trans (hb2.mono hs1.size)
    have h30 := h3 w2 hs2
    clear h20 hb2 hs1 b0 b1 b2 b3 hkk hk2 h3
    go_wp2_with fail
    refine h30.mono ?_
    rintro e w3 ⟨rfl, rfl⟩
    clear h30
    go_wp2
    go_ret
    exact ⟨rfl, hs2⟩

set_option maxRecDepth 100000 in
set_option maxHeartbeats 8000000 in
theorem un_lam (a : Int) (v : Tm) (kv : Value) (r : Li) (At : Option Addr) (pl ct : Nat) (A : Option Addr) (c : Nat) (ar : List Int) (w : World) (hk : TmsIn w kv [.mk 3 a [] [v]])
    (hA : IntsAt w A ar) (hz : A = none → c = 0) (hl : ar.length ≤ 1048576)
    (ih : ∀ (w' : World) (y : Value) (A' : Option Addr) (c' : Nat), TmIn w' y v → IntsAt w' A' (a :: ar) → (A' = none → c' = 0) → Calls Tryz.prog 35 #[y, .slice A' (a :: ar).length c'] w' (ValPost (liV r) w')) :
    Calls Tryz.prog 35 #[.agg #[.int .i64 2, .int .i64 1, .slice At pl ct, kv], .slice A ar.length c] w (ValPost (liV (.fn r)) w) := by
  obtain ⟨B, d, rfl⟩ := hk.form
  obtain ⟨b, off, A1, c1, B1, e1, rfl, hbl, d0, d1, d2, d3, hy, hk1⟩ := lam_cells hk (by simp)
  rw [tmAt_cons_zero] at d0 d1 d2 d3 hy hk1
  simp only [op_mk, num_mk, perm_mk, kids_mk] at d0 d1 d2 d3 hk1
  obtain ⟨b2, off2, A3, c3, B3, e3, rfl, hbl2, f0, f1, f2, f3, hy2, hk3⟩ := lam_cells hk1 (by simp)
  rw [tmAt_cons_zero] at f0 f1 f2 f3 hy2
  simp only [List.length_cons, List.length_nil, Nat.zero_add] at d3 ⊢
  have hb0 : Below w.heap.size w (w.alloc (.cells #[.int .i64 2, .int .i64 1, .slice At pl ct, .slice (some ⟨b, off, none⟩) 1 d] 35)) := (Below.refl _ _).alloc (Nat.le_refl _) _
  have h10 := isFun_yes b off At pl ct d _ (Nat.lt_of_lt_of_le hbl hb0.size) ((hb0.cell (p := ⟨b, off, none⟩) hbl).trans d0)
  have h2 := fun (W : World) (hW : Below w.heap.size w W) => bodyOf_any 2 1 At pl ct d b off b2 off2 1 1 e1 v.op v.num A3 B3 v.perm.length c3 v.kids.length e3 W (Nat.lt_of_lt_of_le hbl hW.size) (Nat.lt_of_lt_of_le hbl2 hW.size) (by decide) (by decide)
    ((hW.cell (p := ⟨b, off + 3, none⟩) hbl).trans d3) ((hW.cell (p := ⟨b2, off2, none⟩) hbl2).trans f0) ((hW.cell (p := ⟨b2, off2 + 1, none⟩) hbl2).trans f1) ((hW.cell (p := ⟨b2, off2 + 2, none⟩) hbl2).trans f2) ((hW.cell (p := ⟨b2, off2 + 3, none⟩) hbl2).trans f3)
  have h3 := fun (W : World) (hW : Below w.heap.size w W) => atomOf_any 2 1 a At pl ct d b off 1 W (Nat.lt_of_lt_of_le hbl hW.size) (by decide) ((hW.cell (p := ⟨b, off + 1, none⟩) hbl).trans d1)
  have h4 := fun (W : World) (hW : Below w.heap.size w W) => within_at a A c ar W (hA.below hW) hz hl
  have h5 := fun (W : World) (hW : Below w.heap.size w W) (A' : Option Addr) (c' : Nat) (h : IntsAt W A' (a :: ar)) (hz' : A' = none → c' = 0) => ih W _ A' c' (hy2.below hW) h hz'
  clear ih hy2 hk hk1 hk3 hy d0 d1 d2 d3 f0 f1 f2 f3 hA hz
  generalize hY : a :: ar = Y at *
  clear hY
  unfold liV at h5 ⊢
  rw [show ityL (.fn r) = 99 from rfl, show ivL (.fn r) = .agg #[.iface (ityL r) (ivL r)] from rfl]
  generalize ityL r = Tr at *
  generalize ivL r = Vr at *
  go_enter Tryz.func35, Tryz.ntmps35
  go_wp2_with fail
  refine h10.mono ?_
  rintro e w1 ⟨rfl, hb1⟩
  have hdw : Below w1.heap.size w1 w1.drew := ⟨rfl, rfl, rfl, Nat.le_refl _, fun _ _ => rfl⟩
  have hs0 := hb0.trans (hb1.mono hb0.size)
  have hs1 := hs0.trans (hdw.mono hs0.size)
  have hkk := (hb1.block w.heap.size (by simp)).trans (heap_alloc_new w _)
  have HB : Hid (∀ w' : World, Below w1.heap.size w1 w' → w'.cell? ⟨w.heap.size, 0, none⟩ = some (.int .i64 2) ∧ w'.cell? ⟨w.heap.size, 1, none⟩ = some (.int .i64 1) ∧ w'.cell? ⟨w.heap.size, 2, none⟩ = some (.slice At pl ct) ∧ w'.cell? ⟨w.heap.size, 3, none⟩ = some (.slice (some ⟨b, off, none⟩) 1 d)) := Lib.hid (fun w' h => Args8.row4 ((h.block _ (Args8.box_lt hkk)).trans hkk))
  have HW := Lib.hid hs0
  have HS1 := Lib.hid hs1
  have h20 := h2 w1.drew hs1
  obtain ⟨b0, b1, b2, b3⟩ := HB.out w1 (Below.refl _ _)
  clear h10 h2 hb1 hb0 hkk hs0 hs1
  go_wp2_with fail
  obtain ⟨b0', b1', b2', b3'⟩ := HB.out w1.drew hdw
  have HD := Lib.hid hdw
  clear hdw b0 b1 b2 b3
  go_region_held3 (fun w' => w'.cell? ⟨w.heap.size, 0, none⟩ = some (.int .i64 2) ∧ w'.cell? ⟨w.heap.size, 1, none⟩ = some (.int .i64 1) ∧ w'.cell? ⟨w.heap.size, 2, none⟩ = some (.slice At pl ct) ∧ w'.cell? ⟨w.heap.size, 3, none⟩ = some (.slice (some ⟨b, off, none⟩) 1 d))
    (first | (with_reducible exact ⟨by assumption, by assumption, by assumption, by assumption⟩) | ((try dsimp only); exact ⟨by assumption, by assumption, by assumption, by assumption⟩) | go_keep)
    (first
      | (go_at_call 71; refine h20.mono ?_; rintro e w2 ⟨rfl, hb2⟩; have hc2 := HD.out.trans (hb2.mono HD.out.size); have hs2 := HS1.out.trans (hb2.mono HS1.out.size); have h30 := h3 w2 hs2; obtain ⟨p0, p1, p2, p3⟩ := HB.out w2 hc2)
      | (go_at_call 73; refine h30.mono ?_; rintro e w3 ⟨rfl, hb3⟩; have hc3 := hc2.trans (hb3.mono hc2.size); have hs3 := hs2.trans (hb3.mono hs2.size); have h40 := h4 w3 hs3; obtain ⟨q0, q1, q2, q3⟩ := HB.out w3 hc3)
      | (go_at_call 72; refine h40.mono ?_; rintro e w4 ⟨v4, rfl, ho4, hb4⟩; obtain ⟨A4, c4, rfl, hA4⟩ := own_intsAt ho4; have hz4 := hz_own8 ho4; have hc4 := hc3.trans (hb4.mono hc3.size); have hs4 := hs3.trans (hb4.mono hs3.size); have h50 := h5 w4 hs4 A4 c4 hA4 hz4; obtain ⟨r0, r1, r2, r3⟩ := HB.out w4 hc4)
      | (go_at_call 35; refine h50.mono ?_; rintro e w5 ⟨rfl, hb5⟩; have hc5 := hc4.trans (hb5.mono hc4.size); have hs5 := hs4.trans (hb5.mono hs4.size); obtain ⟨s0, s1, s2, s3⟩ := HB.out w5 hc5)
      | fail)
  have hpost : ValPost (.iface 99 (.agg #[.iface Tr Vr])) w (.returned (.iface 99 (.agg #[.iface Tr Vr]))) w5 := ⟨rfl, hs5⟩
  clear h20 h30 h40 h50 h3 h4 h5 HB HW HS1 HD hb2 hb3 hb4 hb5 hc2 hc3 hc4 hc5 hs2 hs3 hs4 hs5 ho4 hA4 hz4 b0' b1' b2' b3' p0 p1 p2 p3 q0 q1 q2 q3 r0 r1 r2 r3 s0 s1 s2 s3
  go_wp2
  go_ret
  exact hpost

set_option maxRecDepth 100000 in
set_option maxHeartbeats 8000000 in
theorem un_app (s t : Tm) (kv : Value) (l1 l2 : Li) (At : Option Addr) (pl ct : Nat) (A : Option Addr) (c : Nat) (al : Nat) (w : World) (hk : TmsIn w kv [s, t])
    (ih1 : ∀ (w' : World) (y : Value), Below w.heap.size w w' → TmIn w' y s → Calls Tryz.prog 35 #[y, .slice A al c] w' (ValPost (liV l1) w'))
    (ih2 : ∀ (w' : World) (y : Value), Below w.heap.size w w' → TmIn w' y t → Calls Tryz.prog 35 #[y, .slice A al c] w' (ValPost (liV l2) w')) :
    Calls Tryz.prog 35 #[.agg #[.int .i64 2, .int .i64 2, .slice At pl ct, kv], .slice A al c] w (ValPost (liV (.app l1 l2)) w) := by
  obtain ⟨B, d, rfl⟩ := hk.form
  obtain ⟨b, off, A1, c1, B1, e1, rfl, hbl, d0, d1, d2, d3, hy⟩ := kid_cells hk (k := 0) (by simp)
  obtain ⟨b', off', A2, c2, B2, e2, eB, _, f0, f1, f2, f3, hz⟩ := kid_cells hk (k := 1) (by simp)
  injection eB with eB
  injection eB with eB1 eB2
  subst eB1
  subst eB2
  rw [Nat.zero_mul, Nat.add_zero] at d0 d1 d2 d3
  rw [Nat.one_mul] at f0 f1 f2 f3
  have e0 : tmAt [s, t] 0 = s := rfl
  have e9 : tmAt [s, t] 1 = t := rfl
  rw [e0] at d0 d1 d2 d3 hy
  rw [e9] at f0 f1 f2 f3 hz
  simp only [List.length_cons, List.length_nil, Nat.zero_add] at ⊢
  have hb0 : Below w.heap.size w (w.alloc (.cells #[.int .i64 2, .int .i64 2, .slice At pl ct, .slice (some ⟨b, off, none⟩) (1 + 1) d] 35)) := (Below.refl _ _).alloc (Nat.le_refl _) _
  have h10 := isFun_num 2 (some ⟨b, off, none⟩) (1 + 1) At pl ct d (w.alloc (.cells #[.int .i64 2, .int .i64 2, .slice At pl ct, .slice (some ⟨b, off, none⟩) (1 + 1) d] 35)) (by decide)
  have h2 := fun W => isApp_yes (some ⟨b, off, none⟩) (1 + 1) At pl ct d W
  unfold liV at ih1 ih2 ⊢
  rw [show ityL (.app l1 l2) = 101 from rfl, show ivL (.app l1 l2) = .agg #[.iface (ityL l1) (ivL l1), .iface (ityL l2) (ivL l2)] from rfl]
  generalize ityL l1 = T1 at *
  generalize ivL l1 = V1 at *
  generalize ityL l2 = T2 at *
  generalize ivL l2 = V2 at *
  clear e0 e9 hk
  go_enter Tryz.func35, Tryz.ntmps35
  go_wp2_with fail
  refine h10.mono ?_
  rintro e w1 ⟨rfl, hb1⟩
  obtain ⟨b0, b1, b2, b3⟩ := box4 hb1
  have hs1 := hb0.trans (hb1.mono hb0.size)
  have h20 := h2 w1
  have hkk := (hb1.block w.heap.size (by simp)).trans (heap_alloc_new w _)
  clear h10 h2 hb1 hb0
  go_wp2_with fail
  refine h20.mono ?_
  rintro e w2 ⟨rfl, hb2⟩
  have hk2 := (hb2.block w.heap.size (Args8.box_lt hkk)).trans hkk
  obtain ⟨g0, g1, g2, g3⟩ := Args8.row4 hk2
  have hs2 := hs1.trans (hb2.mono hs1.size)
  have hc1 := fun dq os => Calls.regrown_of (ih1 (grow (redrawn w2 dq) os) _ (hs2.trans ((below_regrown w2 dq os).mono hs2.size)) (hy.below (hs2.trans ((below_regrown w2 dq os).mono hs2.size))))
  have hc2 := fun dq os => Calls.regrown_of (ih2 (grow (redrawn w2 dq) os) _ (hs2.trans ((below_regrown w2 dq os).mono hs2.size)) (hz.below (hs2.trans ((below_regrown w2 dq os).mono hs2.size))))
  have x3 := fun dq os => cell_regrown g3 dq os
  rw [← hs2.cell (p := ⟨b, _, none⟩) hbl] at d0 d1 d2 d3 f0 f1 f2 f3
  have p0 := fun dq os => cell_regrown d0 dq os
  have p1 := fun dq os => cell_regrown d1 dq os
  have p2 := fun dq os => cell_regrown d2 dq os
  have p3 := fun dq os => cell_regrown d3 dq os
  have r0 := fun dq os => cell_regrown f0 dq os
  have r1 := fun dq os => cell_regrown f1 dq os
  have r2 := fun dq os => cell_regrown f2 dq os
  have r3 := fun dq os => cell_regrown f3 dq os
  clear h20 hb2 hs1 b0 b1 b2 b3 hkk hk2 ih1 ih2 hy hz g0 g1 g2 g3 d0 d1 d2 d3 f0 f1 f2 f3 hbl
  go_wp2
  refine wp_region_quiet_below (by kernel_rfl) (by kernel_rfl) ?_
  repeat (any_goals (first | go_big_quiet_step ((go_at_call 35; first | (with_reducible exact hc1 _ _) | (with_reducible exact hc2 _ _))) | quiet_step ((go_at_call 35; first | (with_reducible exact hc1 _ _) | (with_reducible exact hc2 _ _)))))
  refine wpQuiet_nil ?_
  intro _ hw'
  obtain ⟨⟨dq, osq⟩, hw''⟩ := hw'
  subst hw''
  have hb3 := hs2.trans ((below_regrown _ dq osq).mono hs2.size)
  generalize grow (redrawn w2 dq) osq = w9 at hb3 ⊢
  clear x3 p0 p1 p2 p3 r0 r1 r2 r3 hc1 hc2 hs2
  go_wp2
  go_ret
  exact ⟨rfl, hb3⟩

theorem withoutNames_any : ∀ (f : Ft) (ar : List Int) (w : World) (x : Value) (A : Option Addr) (c : Nat), TmIn w x (ftTm f) → IntsAt w A ar → (A = none → c = 0) → ar.length + szF8 f ≤ 1048576 →
    Calls Tryz.prog 35 #[x, .slice A ar.length c] w (ValPost (liV (unL f ar)) w)
  | .var a, ar, w, x, A, c, hx, hA, hz, hl => by
    obtain ⟨At, ct, kv, rfl, hp, hk⟩ := hx
    obtain ⟨B, d, rfl⟩ := hk.form
    exact un_var a At B _ ct _ d A c ar w hA (by omega)
  | .lam a b, ar, w, x, A, c, hx, hA, hz, hl => by
    obtain ⟨At, ct, kv, rfl, hp, hk⟩ := hx
    rw [szF8] at hl
    exact un_lam a (ftTm b) kv (unL b (a :: ar)) At _ ct A c ar w hk hA hz (by omega) (fun w' y A' c' hy hA' hz' => withoutNames_any b (a :: ar) w' y A' c' hy hA' hz' (by rw [List.length_cons]; omega))
  | .app s t, ar, w, x, A, c, hx, hA, hz, hl => by
    obtain ⟨At, ct, kv, rfl, hp, hk⟩ := hx
    rw [szF8] at hl
    exact un_app (ftTm s) (ftTm t) kv (unL s ar) (unL t ar) At _ ct A c ar.length w hk (fun w' y hw hy => withoutNames_any s ar w' y A c hy (hA.below hw) hz (by omega)) (fun w' y hw hy => withoutNames_any t ar w' y A c hy (hA.below hw) hz (by omega))
end Go.Proofs.YtihijigbdpjcoaaGreat
