/-
  The law FnExactFreshIn returns true for every three values: the program decides as the model whether an atom is fresh for a term with a context, and leaves its arguments as they were. No condition.
-/
import Derived.Test.YtbfkfklaplgebaaGreatKFreshIn9
import Derived.Test.YtbfkfklaplgebaaGreatKFreshIn7
import Derived.Test.YtbfkfklaplgebaaGreatKFreshIn10
import Derived.Test.YtbfkfklaplgebaaGreatKFreshIn4
import Derived.Test.YtbfkfklaplgebaaGreatKFreshIn8
import Derived.Test.YtbfkfklaplgebaaGreatKFreshIn25
namespace Go.Proofs.YtbfkfklaplgebaaGreat.fnExactFreshIn
open Go.ChangeShapes Go.WideShapes Go.ChangeAt Go.RowKit
set_option linter.unusedVariables false

set_option maxRecDepth 100000 in
set_option maxHeartbeats 8000000 in
theorem walk (w : World) (A0 : Option Addr) (c0 : Nat) (l0 : List (Int × Int)) (hA0 : PairsAt w A0 l0) (hm0 : l0.length ≤ maxLen) (a1 : Int) (wf1 : (Lit.int .i64 a1).wf = true) (x0 : Value) (t0 : Tm) (hx0 : TmIn w x0 t0) (hs0 : Short t0) :
    Calls Tryz.prog 6 #[.slice A0 l0.length c0, .int .i64 a1, x0] w fun e w' => e = .returned (.bool true) ∧ Below w.heap.size w w' := by
  unfold maxLen at hm0
  obtain ⟨A, c, kv, rfl, hp, hk⟩ := hx0
  obtain ⟨B, d, rfl⟩ := hk.form
  have hsh := (short_eq t0).1 hs0
  have hb0 : Below w.heap.size w (w.alloc (.cells #[.int .i64 t0.op, .int .i64 t0.num, .slice A t0.perm.length c, .slice B t0.kids.length d] 25)) := (Below.refl _ _).alloc (Nat.le_refl _) _
  have hx1 : TmIn (w.alloc (.cells #[.int .i64 t0.op, .int .i64 t0.num, .slice A t0.perm.length c, .slice B t0.kids.length d] 25)) (.agg #[.int .i64 t0.op, .int .i64 t0.num, .slice A t0.perm.length c, .slice B t0.kids.length d]) t0 := ⟨A, c, _, rfl, hp.below hb0, hk.below hb0⟩
  clear hp hk hs0
  by_cases hn0 : l0.length ≤ 1048576
  · have hsz := szTerm_of t0 _ _ (1048576 - (l0.length : Int)) (by omega) (by omega) hx1 hsh.1 fun l' w' y g0 g1 hy => szTermS_any _ t0.kids (Nat.le_refl _) hsh.2.2 hsh.2.1 l' w' y g0 g1 hy
    unfold LeftPost at hsz
    clear hsh
    have hleft : ¬ 1048576 - (l0.length : Int) < 0 := by omega
    by_cases hn : (cntT t0 : Int) ≤ 1048576 - (l0.length : Int)
    · have hcn : cntT t0 ≤ 1048576 := by omega
      have HF := Lib.hid (fit_of t0 hcn)
      have HN := Lib.hid hcn
      rw [leftR_yes hn] at hsz
      have hleft1 : ¬ 1048576 - (l0.length : Int) - (cntT t0 : Int) < 0 := by omega
      generalize hV : frInB l0 a1 t0 = pb
      have HV := Lib.hid hV
      have hpb : (pb != pb) = false := by simp
      clear hV hcn
      go_enter Tryz.func6, Tryz.ntmps6
      go_wp2_with fail
      refine (szF_yes _ _ _ _ _ (by omega) (by omega) (by omega)).mono ?_
      rintro e w' ⟨rfl, rfl⟩
      go_wp2_with fail
      refine hsz.mono ?_
      rintro e w1 ⟨rfl, hb1⟩
      obtain ⟨b0, b1, b2, b3⟩ := box4 hb1
      have HS1 := Lib.hid (hb0.trans (hb1.mono hb0.size))
      have hx2 := hx1.below hb1
      have hA1 := hA0.below HS1.out
      have HX : Hid (∀ w' : World, Below w1.heap.size w1 w' → TmIn w' (.agg #[.int .i64 t0.op, .int .i64 t0.num, .slice A t0.perm.length c, .slice B t0.kids.length d]) t0) := Lib.hid (fun w' h => hx2.below h)
      have HA : Hid (∀ w' : World, Below w1.heap.size w1 w' → PairsAt w' A0 l0) := Lib.hid (fun w' h => hA1.below h)
      have hlt1 : w.heap.size < w1.heap.size := by have := hb1.size; rw [World.size_alloc] at this; omega
      have HCB : Hid (∀ w' : World, Below w1.heap.size w1 w' → w'.cell? ⟨w.heap.size, 0, none⟩ = some (.int .i64 t0.op) ∧ w'.cell? ⟨w.heap.size, 1, none⟩ = some (.int .i64 t0.num) ∧ w'.cell? ⟨w.heap.size, 2, none⟩ = some (.slice A t0.perm.length c) ∧ w'.cell? ⟨w.heap.size, 3, none⟩ = some (.slice B t0.kids.length d)) :=
        Lib.hid (fun w' h => ⟨(h.cell (p := ⟨w.heap.size, 0, none⟩) hlt1).trans b0, (h.cell (p := ⟨w.heap.size, 1, none⟩) hlt1).trans b1, (h.cell (p := ⟨w.heap.size, 2, none⟩) hlt1).trans b2, (h.cell (p := ⟨w.heap.size, 3, none⟩) hlt1).trans b3⟩)
      have hdw : Below w1.heap.size w1 w1.drew := ⟨rfl, rfl, rfl, Nat.le_refl _, fun _ _ => rfl⟩
      have hto1 := toFreshS_any A0 c0 l0 w1.drew (HA.out _ hdw) (by omega)
      have HD := Lib.hid hdw
      clear hsz hb0 hb1 hx1 hx2 hA0 hA1 hdw
      go_wp2
      go_region_held3 (fun w' => w'.cell? ⟨w.heap.size, 0, none⟩ = some (.int .i64 t0.op) ∧ w'.cell? ⟨w.heap.size, 1, none⟩ = some (.int .i64 t0.num) ∧ w'.cell? ⟨w.heap.size, 2, none⟩ = some (.slice A t0.perm.length c) ∧ w'.cell? ⟨w.heap.size, 3, none⟩ = some (.slice B t0.kids.length d))
        (first | ((try dsimp only); exact ⟨by assumption, by assumption, by assumption, by assumption⟩) | go_keep)
        (first
          | (go_at_call 27; refine hto1.mono ?_; rintro e w2 ⟨v2, rfl, ho2, hb2⟩; obtain ⟨B2, d2, rfl, hp2⟩ := own_pairsAt ho2; have hc2 := HD.out.trans (hb2.mono HD.out.size); obtain ⟨e0, e1, e2, e3⟩ := HCB.out w2 hc2; have hto2 := toTerm_any t0 HF.out w2 _ (HX.out w2 hc2); clear hto1 ho2 hb2)
          | (go_at_call 13; refine hto2.mono ?_; rintro e w3 ⟨P3, q3, K3, r3, S3, rfl, hL3, _, hb3⟩; have hc3 := hc2.trans (hb3.mono hc2.size); obtain ⟨f0, f1, f2, f3⟩ := HCB.out w3 hc3; have hsp := freshIn_spec B2 d2 l0 a1 t0 _ w3 (hp2.below hb3) (by omega) (tmOut_in hL3) HN.out; rw [HV.out] at hsp; clear hto2 hb3 hL3 hc2 hp2)
          | (go_at_call 26; refine hsp.mono ?_; rintro e w4 ⟨rfl, hb4⟩; have hc4 := hc3.trans (hb4.mono hc3.size); obtain ⟨g0, g1, g2, g3⟩ := HCB.out w4 hc4; clear hsp hb4 hc3)
          | fail)
      have hto := toFreshS_any A0 c0 l0 w4 (HA.out w4 hc4) (by omega)
      clear b0 b1 b2 b3 e0 e1 e2 e3 f0 f1 f2 f3 g0 g1 g2 g3 HD
      go_wp2_with fail
      refine hto.mono ?_
      rintro e w5 ⟨v5, rfl, ho5, hb5⟩
      obtain ⟨B5, d5, rfl, hp5⟩ := own_pairsAt ho5
      have hc5 := hc4.trans (hb5.mono hc4.size)
      obtain ⟨b0, b1, b2, b3⟩ := HCB.out w5 hc5
      have hto3 := toTerm_any t0 HF.out w5 _ (HX.out w5 hc5)
      clear hto ho5 hb5 hc4
      go_wp2_with fail
      refine hto3.mono ?_
      rintro e w6 ⟨P4, q4, K4, r4, S4, rfl, hL4, _, hb6⟩
      have hbx : Below w6.heap.size w6 (w6.alloc (.cells #[.int .i64 t0.op, .int .i64 t0.num, .slice P4 t0.perm.length q4, .slice K4 t0.kids.length r4] 31)) := (Below.refl _ _).alloc (Nat.le_refl _) _
      have hbx5 := hb6.trans (hbx.mono hb6.size)
      have hc7 := hc5.trans (hbx5.mono hc5.size)
      have hp7 := hp5.below hbx5
      have hy7 := (tmOut_in hL4).below hbx
      have him := freshIn_impl B5 d5 l0 a1 t0 _ _ hp7 (by omega) hy7 HF.out
      rw [HV.out] at him
      clear hto3 hL4 hb6 hbx hbx5 hc5 hp5 b0 b1 b2 b3
      go_wp2_with fail
      refine him.mono ?_
      rintro e w8 ⟨rfl, hb8⟩
      obtain ⟨d0, d1, d2, d3⟩ := box4 hb8
      have hc8 := hc7.trans (hb8.mono hc7.size)
      have hp8 := hp7.below hb8
      have hy8 := hy7.below hb8
      have hlt6 : w6.heap.size < w8.heap.size := by have := hb8.size; rw [World.size_alloc] at this; omega
      have hto4 := toFreshS_any A0 c0 l0 w8 (HA.out w8 hc8) (by omega)
      clear him hb8 hc7 hp7 hy7
      go_wp2_with fail
      refine hto4.mono ?_
      rintro e w9 ⟨v9, rfl, ho9, hb9⟩
      obtain ⟨B9, d9, rfl, hp9⟩ := own_pairsAt ho9
      have heq := eqFreshS_any B5 B9 d5 d9 l0 l0 w9 (hp8.below hb9) hp9 (by omega)
      rw [decide_eq_true (rfl : l0 = l0)] at heq
      clear hto4 ho9 hp9 hp8
      go_wp2_with fail
      refine heq.mono ?_
      rintro e w10 ⟨rfl, hb10⟩
      have hb89 := hb9.trans (hb10.mono hb9.size)
      have hc10 := hc8.trans (hb89.mono hc8.size)
      have hy10 := hy8.below hb89
      replace d0 := (hb89.cell (p := ⟨w6.heap.size, 0, none⟩) hlt6).trans d0
      replace d1 := (hb89.cell (p := ⟨w6.heap.size, 1, none⟩) hlt6).trans d1
      replace d2 := (hb89.cell (p := ⟨w6.heap.size, 2, none⟩) hlt6).trans d2
      replace d3 := (hb89.cell (p := ⟨w6.heap.size, 3, none⟩) hlt6).trans d3
      have hlt10 : w6.heap.size < w10.heap.size := Nat.lt_of_lt_of_le hlt6 hb89.size
      obtain ⟨b0, b1, b2, b3⟩ := HCB.out w10 hc10
      have hlt7 : w.heap.size < w10.heap.size := Nat.lt_of_lt_of_le hlt1 hc10.size
      have hdw : Below w10.heap.size w10 w10.drew := ⟨rfl, rfl, rfl, Nat.le_refl _, fun _ _ => rfl⟩
      have HD := Lib.hid hdw
      have hto := toTerm_any t0 HF.out w10.drew _ (HX.out _ (hc10.trans (hdw.mono hc10.size)))
      have hy11 := hy10.below hdw
      have HC10 := Lib.hid hc10
      clear heq hb9 hb10 hb89 hc8 hy8 hy10 hdw hc10 hlt6
      go_wp2
      go_region_held3 (fun w' => w'.cell? ⟨w.heap.size, 0, none⟩ = some (.int .i64 t0.op) ∧ w'.cell? ⟨w.heap.size, 1, none⟩ = some (.int .i64 t0.num) ∧ w'.cell? ⟨w.heap.size, 2, none⟩ = some (.slice A t0.perm.length c) ∧ w'.cell? ⟨w.heap.size, 3, none⟩ = some (.slice B t0.kids.length d) ∧ w'.cell? ⟨w6.heap.size, 0, none⟩ = some (.int .i64 t0.op) ∧ w'.cell? ⟨w6.heap.size, 1, none⟩ = some (.int .i64 t0.num) ∧ w'.cell? ⟨w6.heap.size, 2, none⟩ = some (.slice P4 t0.perm.length q4) ∧ w'.cell? ⟨w6.heap.size, 3, none⟩ = some (.slice K4 t0.kids.length r4))
        (first | ((try dsimp only); exact ⟨by assumption, by assumption, by assumption, by assumption, by assumption, by assumption, by assumption, by assumption⟩) | go_keep)
        (first
          | (go_at_call 13; refine hto.mono ?_; rintro e w12 ⟨P8, q8, K8, r8, S8, rfl, hL8, _, hb12⟩; have hz9 := tmOut_in hL8; have hy9 := hy11.below hb12; have hn1 : w.heap.size < w10.drew.heap.size := hlt7; have hn2 : w6.heap.size < w10.drew.heap.size := hlt10; have e0 := (hb12.cell (p := ⟨w.heap.size, 0, none⟩) hn1).trans b0; have e1 := (hb12.cell (p := ⟨w.heap.size, 1, none⟩) hn1).trans b1; have e2 := (hb12.cell (p := ⟨w.heap.size, 2, none⟩) hn1).trans b2; have e3 := (hb12.cell (p := ⟨w.heap.size, 3, none⟩) hn1).trans b3; have e4 := (hb12.cell (p := ⟨w6.heap.size, 0, none⟩) hn2).trans d0; have e5 := (hb12.cell (p := ⟨w6.heap.size, 1, none⟩) hn2).trans d1; have e6 := (hb12.cell (p := ⟨w6.heap.size, 2, none⟩) hn2).trans d2; have e7 := (hb12.cell (p := ⟨w6.heap.size, 3, none⟩) hn2).trans d3; clear hto hL8)
          | (go_at_call 15; refine (eqTerm_any t0 HF.out _ _ _ hy9 hz9).mono ?_; rintro e w13 ⟨rfl, hb13⟩; have hn3 : w.heap.size < w12.heap.size := Nat.lt_of_lt_of_le hn1 hb12.size; have hn4 : w6.heap.size < w12.heap.size := Nat.lt_of_lt_of_le hn2 hb12.size; have g0 := (hb13.cell (p := ⟨w.heap.size, 0, none⟩) hn3).trans e0; have g1 := (hb13.cell (p := ⟨w.heap.size, 1, none⟩) hn3).trans e1; have g2 := (hb13.cell (p := ⟨w.heap.size, 2, none⟩) hn3).trans e2; have g3 := (hb13.cell (p := ⟨w.heap.size, 3, none⟩) hn3).trans e3; have g4 := (hb13.cell (p := ⟨w6.heap.size, 0, none⟩) hn4).trans e4; have g5 := (hb13.cell (p := ⟨w6.heap.size, 1, none⟩) hn4).trans e5; have g6 := (hb13.cell (p := ⟨w6.heap.size, 2, none⟩) hn4).trans e6; have g7 := (hb13.cell (p := ⟨w6.heap.size, 3, none⟩) hn4).trans e7))
      have hfin := HS1.out.trans ((HC10.out.trans ((HD.out.trans (hb12.mono HD.out.size)).mono HC10.out.size)).trans (hb13.mono (Nat.le_trans HC10.out.size (Nat.le_trans HD.out.size hb12.size))) |>.mono HS1.out.size)
      clear b0 b1 b2 b3 d0 d1 d2 d3
      go_wp2
      go_ret
      exact ⟨rfl, hfin⟩
    · rw [leftR_no (by omega)] at hsz
      clear hx1
      go_enter Tryz.func6, Tryz.ntmps6
      go_wp2_with fail
      refine (szF_yes _ _ _ _ _ (by omega) (by omega) (by omega)).mono ?_
      rintro e w' ⟨rfl, rfl⟩
      go_wp2_with fail
      refine hsz.mono ?_
      rintro e w1 ⟨rfl, hb1⟩
      have hs1 := hb0.trans (hb1.mono hb0.size)
      clear hsz hb0 hb1
      go_wp2
      go_ret
      exact ⟨rfl, hs1⟩
  · clear hx1
    go_enter Tryz.func6, Tryz.ntmps6
    go_wp2_with fail
    refine (szF_no _ _ _ _ _ (by omega) (by omega) (by omega) (by omega)).mono ?_
    rintro e w' ⟨rfl, rfl⟩
    go_wp2
    go_ret
    exact ⟨rfl, hb0⟩

set_option maxRecDepth 100000 in
theorem lifted (os : Os) (started : os.Started) (H : Type) (enc : TypeId × Value → H) :
    ReturnsInHanded {} Tryz.checked os 6 .any (Rows.fnExactFreshInSpec.pre6 enc Tryz.prog Tryz.f6 Rows.fnExactFreshInRow.domain false) (Rows.fnExactFreshInSpec.post enc Tryz.prog Tryz.f6 false true false false) := by
  refine returnsInHanded_of_change (C := Tryz.checked) own started (by kernel_rfl) Tryz.func6
    (ChangeSpec.witness6 (enc := enc) (C := Tryz.checked) false ⟨#[], #[.slice none 0 0, .int .i64 0, .agg #[.int .i64 0, .int .i64 0, .slice none 0 0, .slice none 0 0]], []⟩ 8 (by kernel_rfl) (by kernel_rfl) (by kernel_rfl) (by kernel_rfl)) ?_
  intro W base args ds gs before hval0 hW hcnd _
  have hval : ∀ (j : Nat) t v, Tryz.f6.params[j]? = some t → args[j]? = some v → Value.okWide Tryz.prog W .any base t v := hval0
  have hW' := hW
  obtain ⟨p, q, hA0, hV, rfl, hfz, hnd⟩ := hW
  have hA : DataW.TrodAll enc Tryz.prog W 0 (fun _ => true) true Tryz.f6.params.toList args.toList ds p := hA0
  rw [Tryz.params6] at hA hval
  obtain ⟨v0, vs0, d0, ds0, p0, q0, hargs, rfl, rfl, h0, r0⟩ := trodAll_cons hA
  obtain ⟨v1, vs1, d1, ds1, p1, q1, rfl, rfl, rfl, h1, r1⟩ := trodAll_cons r0
  obtain ⟨v2, vs2, d2, ds2, p2, q2, rfl, rfl, rfl, h2, r2⟩ := trodAll_cons r1
  obtain ⟨rfl, rfl, rfl⟩ := trodAll_nil r2
  obtain rfl : args = #[v0, v1, v2] := by cases args; simp_all
  obtain ⟨rfl, rfl⟩ := trodVars_none hV
  have k0 := h0
  have lt0 : ∀ x ∈ p0, x.block < W.heap.size := by obtain ⟨m, hm⟩ := k0; exact DataW.trod_lt m _ _ _ hm
  have k1 := h1
  have lt1 : ∀ x ∈ p1, x.block < W.heap.size := by obtain ⟨m, hm⟩ := k1; exact DataW.trod_lt m _ _ _ hm
  have k2 := h2
  have lt2 : ∀ x ∈ p2, x.block < W.heap.size := by obtain ⟨m, hm⟩ := k2; exact DataW.trod_lt m _ _ _ hm
  obtain ⟨A0, n0, c0, rfl⟩ := okWide_slice Tryz.underlying43 (hval 0 43 v0 rfl rfl)
  obtain ⟨l0, rfl, w0, m0⟩ := open_freshs h0
  obtain ⟨a1, rfl, _, _, w1⟩ := open_int Tryz.underlying3 (hval 1 3 v1 rfl rfl) h1
  obtain ⟨t2, tx2, ts2⟩ := open_term (hval 2 25 v2 rfl rfl) h2
  clear hA0 hval0
  refine (walk W A0 c0 l0 w0 m0 a1 w1 v2 t2 tx2 ts2).mono fun e W' ⟨he, bel⟩ => ?_
  subst he
  exact ⟨_, rfl, _, _, _, [], _, [], hW', trodAll_mk1 (shut_bool Tryz.underlying4 _), (trodAll_cons_mk (Below.trod laidOut (by kernel_rfl) (of_decide_eq_true (by kernel_rfl)) k0 bel lt0) (trodAll_cons_mk (Below.trod laidOut (by kernel_rfl) (of_decide_eq_true (by kernel_rfl)) k1 bel lt1) (trodAll_cons_mk (Below.trod laidOut (by kernel_rfl) (of_decide_eq_true (by kernel_rfl)) k2 bel lt2) trodAll_mk0))), rfl, bel.frame _, fun h => by cases h⟩

theorem over : Rows.fnExactFreshInRow.holds Tryz.pinned (OpenSpec.ofChange Rows.fnExactFreshInSpec) :=
  OpenClaim.holds_of_wide 6 Tryz.f6 rfl rfl rfl rfl rfl rfl rfl ⟨rfl, rfl, rfl, rfl, rfl⟩ rfl rfl rfl rfl rfl (by kernel_rfl) Tryz.func6 (by kernel_rfl)
    (of_decide_eq_true (by kernel_rfl)) (by unfold Func.isWrapper; first | (rw [if_pos (by decide +kernel)]; kernel_rfl) | (rw [if_neg (by decide +kernel)]; exact ⟨rfl, rfl⟩))
    (fun os started H enc _ => lifted os started H enc)

theorem proved : Rows.FnExactFreshInSaid := over
#print axioms proved
end Go.Proofs.YtbfkfklaplgebaaGreat.fnExactFreshIn
