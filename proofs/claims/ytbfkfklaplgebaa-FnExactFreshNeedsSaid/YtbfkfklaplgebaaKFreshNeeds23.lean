/-
  The law FnExactFreshNeeds returns true for every pair of values: the program gives the least context with which an atom is fresh for a term, and whether there is one, as the model does, in memory of its own, and leaves the term as it was. No condition.
-/
import Derived.Test.YtbfkfklaplgebaaKFreshNeeds8
import Derived.Test.YtbfkfklaplgebaaKFreshNeeds5
import Derived.Test.YtbfkfklaplgebaaKFreshNeeds9
import Derived.Test.YtbfkfklaplgebaaKFreshNeeds4
import Derived.Test.YtbfkfklaplgebaaKFreshNeeds6
import Derived.Test.YtbfkfklaplgebaaKFreshNeeds22
import Derived.Test.YtbfkfklaplgebaaKFreshNeeds7
namespace Go.Proofs.Ytbfkfklaplgebaa.fnExactFreshNeeds
open Go.ChangeShapes Go.WideShapes Go.ChangeAt Go.RowKit
set_option linter.unusedVariables false

set_option maxRecDepth 100000 in
set_option maxHeartbeats 8000000 in
theorem walk (w : World) (a0 : Int) (wf0 : (Lit.int .i64 a0).wf = true) (x0 : Value) (t0 : Tm) (hx0 : TmIn w x0 t0) (hs0 : Short t0) :
    Calls Try.prog 6 #[.int .i64 a0, x0] w fun e w' => e = .returned (.bool true) ∧ Below w.heap.size w w' := by
  obtain ⟨A, c, kv, rfl, hp, hk⟩ := hx0
  obtain ⟨B, d, rfl⟩ := hk.form
  have hsh := (short_eq t0).1 hs0
  have hb0 : Below w.heap.size w (w.alloc (.cells #[.int .i64 t0.op, .int .i64 t0.num, .slice A t0.perm.length c, .slice B t0.kids.length d] 25)) := (Below.refl _ _).alloc (Nat.le_refl _) _
  have hx1 : TmIn (w.alloc (.cells #[.int .i64 t0.op, .int .i64 t0.num, .slice A t0.perm.length c, .slice B t0.kids.length d] 25)) (.agg #[.int .i64 t0.op, .int .i64 t0.num, .slice A t0.perm.length c, .slice B t0.kids.length d]) t0 := ⟨A, c, _, rfl, hp.below hb0, hk.below hb0⟩
  have hsz := szTerm_of t0 _ _ 1048576 (by omega) (by omega) hx1 hsh.1 fun l' w' y g0 g1 hy => szTermS_any _ t0.kids (Nat.le_refl _) hsh.2.2 hsh.2.1 l' w' y g0 g1 hy
  unfold LeftPost at hsz
  clear hp hk hsh hs0
  by_cases hn : cntT t0 ≤ 1048576
  · have hf := fit_of t0 hn
    have HF := Lib.hid hf
    have hLL : (frnL a0 t0).length ≤ 2097152 := by have := frnL_len a0 t0; omega
    have hmk : t0.perm.length * 2 + mcTs t0.kids ≤ 2097152 := by
      have h1 := mcTs_le t0.kids
      have h2 := cntT_eq t0
      omega
    have HN := Lib.hid hn
    generalize hL : frnL a0 t0 = L at hLL
    have HL := Lib.hid hL
    clear hL
    generalize hFF : frnB a0 t0 = fl
    have HFL := Lib.hid hFF
    have hfl : (fl != fl) = false := by simp
    clear hFF
    rw [leftR_yes (by omega)] at hsz
    have hleft : ¬ 1048576 - (cntT t0 : Int) < 0 := by omega
    clear hf
    go_enter Try.func6, Try.ntmps6
    go_wp2_with fail
    refine hsz.mono ?_
    rintro e w1 ⟨rfl, hb1⟩
    obtain ⟨b0, b1, b2, b3⟩ := box4 hb1
    have HS1 := Lib.hid (hb0.trans (hb1.mono hb0.size))
    have hx2 := hx1.below hb1
    have HX : Hid (∀ w' : World, Below w1.heap.size w1 w' → TmIn w' (.agg #[.int .i64 t0.op, .int .i64 t0.num, .slice A t0.perm.length c, .slice B t0.kids.length d]) t0) := Lib.hid (fun w' h => hx2.below h)
    have hlt1 : w.heap.size < w1.heap.size := by have := hb1.size; rw [World.size_alloc] at this; omega
    have HCB : Hid (∀ w' : World, Below w1.heap.size w1 w' → w'.cell? ⟨w.heap.size, 0, none⟩ = some (.int .i64 t0.op) ∧ w'.cell? ⟨w.heap.size, 1, none⟩ = some (.int .i64 t0.num) ∧ w'.cell? ⟨w.heap.size, 2, none⟩ = some (.slice A t0.perm.length c) ∧ w'.cell? ⟨w.heap.size, 3, none⟩ = some (.slice B t0.kids.length d)) :=
      Lib.hid (fun w' h => ⟨(h.cell (p := ⟨w.heap.size, 0, none⟩) hlt1).trans b0, (h.cell (p := ⟨w.heap.size, 1, none⟩) hlt1).trans b1, (h.cell (p := ⟨w.heap.size, 2, none⟩) hlt1).trans b2, (h.cell (p := ⟨w.heap.size, 3, none⟩) hlt1).trans b3⟩)
    have hto := toTerm_any t0 HF.out w1 _ hx2
    clear hsz hb0 hb1 hx1 hx2
    go_wp2_with fail
    refine hto.mono ?_
    rintro e w2 ⟨P2, q2, K2, r2, S2, rfl, hL2, _, hc2⟩
    have hsp := freshNeeds_spec a0 t0 _ w2 (tmOut_in hL2) HN.out
    rw [HL.out, HFL.out] at hsp
    clear hto hL2 b0 b1 b2 b3
    go_wp2_with fail
    refine hsp.mono ?_
    rintro e w3 ⟨vW, rfl, oW, hb3⟩
    have hc3 := hc2.trans (hb3.mono hc2.size)
    have HW := Lib.hid (show ∀ k, vW.ownBlock = some k → k < w3.heap.size from fun k hk => (oW.lt k hk).2)
    have H13 := Lib.hid hc3.size
    obtain ⟨b0, b1, b2, b3⟩ := HCB.out w3 hc3
    have hto := toTerm_any t0 HF.out w3 _ (HX.out w3 hc3)
    clear hsp hc2 hb3
    go_wp2_with fail
    refine hto.mono ?_
    rintro e w4 ⟨P4, q4, K4, r4, S4, rfl, hL4, hS4, hb4⟩
    have hbx : Below w4.heap.size w4 (w4.alloc (.cells #[.int .i64 t0.op, .int .i64 t0.num, .slice P4 t0.perm.length q4, .slice K4 t0.kids.length r4] 31)) := (Below.refl _ _).alloc (Nat.le_refl _) _
    have hbx3 := hb4.trans (hbx.mono hb4.size)
    have hc5 := hc3.trans (hbx3.mono hc3.size)
    have oW5 := own_below oW hbx3
    have HLT : Hid (∀ b ∈ S4, b < w4.heap.size) := Lib.hid (fun b hb => hL4.lt b hb)
    have HS4 := Lib.hid hS4
    have hL5 := hL4.alike (w' := w4.alloc (.cells #[.int .i64 t0.op, .int .i64 t0.num, .slice P4 t0.perm.length q4, .slice K4 t0.kids.length r4] 31)) (fun b hb => hbx.block b (hL4.lt b hb))
    have him := freshNeeds_impl a0 t0 _ _ ((tmOut_in hL4).below hbx) HF.out
    rw [HL.out, HFL.out] at him
    have hsz3 := hbx3.size
    clear hto hL4 hb4 hc3 oW hbx hbx3 hS4 b0 b1 b2 b3
    go_wp2_with fail
    refine him.mono ?_
    rintro e w6 ⟨vG, rfl, oG0, hb6⟩
    have HG := Lib.hid (show ∀ k, vG.ownBlock = some k → w4.heap.size < k from fun k hk => by
      have h := (oG0.lt k hk).1
      rw [World.size_alloc] at h
      omega)
    have oG := own_le oG0 hsz3
    obtain ⟨d0, d1, d2, d3⟩ := box4 hb6
    have hc6 := hc5.trans (hb6.mono hc5.size)
    have oW6 := own_below oW5 hb6
    have hL6 := hL5.alike (w' := w6) (fun b hb => hb6.block b (hL5.lt b hb))
    have hlt4 : w4.heap.size < w6.heap.size := by have := hb6.size; rw [World.size_alloc] at this; omega
    have heq := eqFreshS_own _ _ _ _ L L w6 oG oW6 (by omega)
    rw [decide_eq_true (rfl : L = L)] at heq
    clear him hc5 oW5 hL5 oG0 hb6 hsz3
    go_wp2_with fail
    refine heq.mono ?_
    rintro e w7 ⟨rfl, hb7⟩
    have hc7 := hc6.trans (hb7.mono hc6.size)
    have OW := Lib.hid (own_below oW6 hb7)
    have OG := Lib.hid (own_below oG hb7)
    have hL7 := hL6.alike (w' := w7) (fun b hb => hb7.block b (hL6.lt b hb))
    have OL := Lib.hid hL7
    replace d0 := (hb7.cell (p := ⟨w4.heap.size, 0, none⟩) hlt4).trans d0
    replace d1 := (hb7.cell (p := ⟨w4.heap.size, 1, none⟩) hlt4).trans d1
    replace d2 := (hb7.cell (p := ⟨w4.heap.size, 2, none⟩) hlt4).trans d2
    replace d3 := (hb7.cell (p := ⟨w4.heap.size, 3, none⟩) hlt4).trans d3
    obtain ⟨b0, b1, b2, b3⟩ := HCB.out w7 hc7
    have hlt6 : w4.heap.size < w7.heap.size := Nat.lt_of_lt_of_le hlt4 hb7.size
    have hlt7 : w.heap.size < w7.heap.size := Nat.lt_of_lt_of_le hlt1 hc7.size
    have hdw : Below w7.heap.size w7 w7.drew := ⟨rfl, rfl, rfl, Nat.le_refl _, fun _ _ => rfl⟩
    have HD := Lib.hid hdw
    have HC7 := Lib.hid hc7
    have hto := toTerm_any t0 HF.out w7.drew _ (HX.out _ (hc7.trans (hdw.mono hc7.size)))
    have hy8 := (tmOut_in hL7).below hdw
    clear heq hc6 oW6 oG hL6 hL7 hb7 hdw hc7 hlt4
    go_wp2
    go_region_held3 (fun w' => w'.cell? ⟨w.heap.size, 0, none⟩ = some (.int .i64 t0.op) ∧ w'.cell? ⟨w.heap.size, 1, none⟩ = some (.int .i64 t0.num) ∧ w'.cell? ⟨w.heap.size, 2, none⟩ = some (.slice A t0.perm.length c) ∧ w'.cell? ⟨w.heap.size, 3, none⟩ = some (.slice B t0.kids.length d) ∧ w'.cell? ⟨w4.heap.size, 0, none⟩ = some (.int .i64 t0.op) ∧ w'.cell? ⟨w4.heap.size, 1, none⟩ = some (.int .i64 t0.num) ∧ w'.cell? ⟨w4.heap.size, 2, none⟩ = some (.slice P4 t0.perm.length q4) ∧ w'.cell? ⟨w4.heap.size, 3, none⟩ = some (.slice K4 t0.kids.length r4))
      (first | ((try dsimp only); exact ⟨by assumption, by assumption, by assumption, by assumption, by assumption, by assumption, by assumption, by assumption⟩) | go_keep)
      (first
        | (go_at_call 11; refine hto.mono ?_; rintro e w8 ⟨P8, q8, K8, r8, S8, rfl, hL8, _, hb8⟩; have hz9 := tmOut_in hL8; have hy9 := hy8.below hb8; have hcr := (bcell hb8).1; have hn1 : w.heap.size < w7.drew.heap.size := hlt7; have hn2 : w4.heap.size < w7.drew.heap.size := hlt6; have e0 := (hb8.cell (p := ⟨w.heap.size, 0, none⟩) hn1).trans b0; have e1 := (hb8.cell (p := ⟨w.heap.size, 1, none⟩) hn1).trans b1; have e2 := (hb8.cell (p := ⟨w.heap.size, 2, none⟩) hn1).trans b2; have e3 := (hb8.cell (p := ⟨w.heap.size, 3, none⟩) hn1).trans b3; have e4 := (hb8.cell (p := ⟨w4.heap.size, 0, none⟩) hn2).trans d0; have e5 := (hb8.cell (p := ⟨w4.heap.size, 1, none⟩) hn2).trans d1; have e6 := (hb8.cell (p := ⟨w4.heap.size, 2, none⟩) hn2).trans d2; have e7 := (hb8.cell (p := ⟨w4.heap.size, 3, none⟩) hn2).trans d3; clear hto hL8)
        | (go_at_call 13; refine (eqTerm_any t0 HF.out _ _ _ hy9 hz9).mono ?_; rintro e w9 ⟨rfl, hb9⟩; have hcr9 := (bcell hb9).1; have hn3 : w.heap.size < w8.heap.size := Nat.lt_of_lt_of_le hn1 hb8.size; have hn4 : w4.heap.size < w8.heap.size := Nat.lt_of_lt_of_le hn2 hb8.size; have g0 := (hb9.cell (p := ⟨w.heap.size, 0, none⟩) hn3).trans e0; have g1 := (hb9.cell (p := ⟨w.heap.size, 1, none⟩) hn3).trans e1; have g2 := (hb9.cell (p := ⟨w.heap.size, 2, none⟩) hn3).trans e2; have g3 := (hb9.cell (p := ⟨w.heap.size, 3, none⟩) hn3).trans e3; have g4 := (hb9.cell (p := ⟨w4.heap.size, 0, none⟩) hn4).trans e4; have g5 := (hb9.cell (p := ⟨w4.heap.size, 1, none⟩) hn4).trans e5; have g6 := (hb9.cell (p := ⟨w4.heap.size, 2, none⟩) hn4).trans e6; have g7 := (hb9.cell (p := ⟨w4.heap.size, 3, none⟩) hn4).trans e7))
    have hbq : Below w7.heap.size w7 w9 := (HD.out.trans (hb8.mono HD.out.size)).trans (hb9.mono (Nat.le_trans HD.out.size hb8.size))
    have hc9 := HC7.out.trans (hbq.mono HC7.out.size)
    have oW9 := own_below OW.out hbq
    have oG9 := own_below OG.out hbq
    have hL9 := OL.out.alike (w' := w9) (fun b hb => hbq.block b (OL.out.lt b hb))
    have hmt := markTerm_any t0 HF.out S4 P4 K4 q4 r4 1 w9 (by omega) (by omega) hL9
    clear b0 b1 b2 b3 d0 d1 d2 d3 e0 e1 e2 e3 e4 e5 e6 e7 g0 g1 g2 g3 hbq hb8 hb9 hy8 hy9 hz9 OW OG OL HD HC7 hL9 hcr hcr9 hn1 hn2 hn3 hn4
    go_wp2_with fail
    refine hmt.mono ?_
    rintro e w10 ⟨rfl, hon⟩
    have hc10 := Only.below hc9 hon hc9.size (fun k hk => Nat.le_trans H13.out (HS4.out k hk))
    have oW10 := own_only oW9 hon (fun k e hk => by
      have h1 := HS4.out k hk
      have h2 := HW.out _ e
      omega)
    have oG10 := own_only oG9 hon (fun k e hk => by
      have h1 := HLT.out k hk
      have h2 := HG.out _ e
      omega)
    have tk : 0 ≤ 1 + (t0.perm.length : Int) * 2 + (mcTs t0.kids : Int) := by omega
    have heq := eqFreshS_own _ _ _ _ L L w10 oG10 oW10 (by omega)
    rw [decide_eq_true (rfl : L = L)] at heq
    clear hmt hon hc9 oW9 oG9 g4 g5 g6 g7
    go_wp2_with fail
    refine heq.mono ?_
    rintro e w11 ⟨rfl, hb11⟩
    have hc11 := hc10.trans (hb11.mono hc10.size)
    have oW11 := own_below oW10 hb11
    have oG11 := own_below oG10 hb11
    have tm : 0 ≤ 1 + (L.length : Int) * 2 := by omega
    have tq : (1 + (L.length : Int) * 2 != 1 + (L.length : Int) * 2) = false := by simp
    have hmi := markFreshS_own _ L.length vG _ 1 _ oG11 (by omega) (by omega)
    clear heq hb11 hc10 oW10 oG10
    go_wp2_with fail
    refine hmi.mono ?_
    rintro e w12 ⟨rfl, om12, hg12⟩
    have hc12 := below_own hc11 oG11 H13.out hc11.size hg12
    have oW12 := own_newer oW11 oG11 hg12 (fun k e => by
      have h2 := HW.out _ e
      omega)
    have hhi := heldFreshS_own _ L.length vG 1 _ om12 (by omega) (by omega)
    clear hmi hc11 oW11 oG11 hg12
    go_wp2_with fail
    refine hhi.mono ?_
    rintro e w' ⟨rfl, rfl⟩
    obtain ⟨b0, b1, b2, b3⟩ := HCB.out w12 hc12
    have hto := toTerm_any t0 HF.out w12 _ (HX.out w12 hc12)
    clear hhi
    go_wp2_with fail
    refine hto.mono ?_
    rintro e w13 ⟨P13, q13, K13, r13, S13, rfl, hL13, _, hb13⟩
    have hc13 := hc12.trans (hb13.mono hc12.size)
    have oW13 := own_below oW12 hb13
    have om13 := own_below om12 hb13
    have him := freshNeeds_impl a0 t0 _ w13 (tmOut_in hL13) HF.out
    rw [HL.out, HFL.out] at him
    clear hto hL13 hb13 hc12 oW12 om12 b0 b1 b2 b3
    go_wp2_with fail
    refine him.mono ?_
    rintro e w14 ⟨vH, rfl, oH, hb14⟩
    have hc14 := hc13.trans (hb14.mono hc13.size)
    have oW14 := own_below oW13 hb14
    have om14 := own_below om13 hb14
    have heq := eqFreshS_own _ _ _ _ L L w14 oH oW14 (by omega)
    rw [decide_eq_true (rfl : L = L)] at heq
    clear him hc13 oW13 om13 hb14
    go_wp2_with fail
    refine heq.mono ?_
    rintro e w15 ⟨rfl, hb15⟩
    have hc15 := hc14.trans (hb15.mono hc14.size)
    have om15 := own_below om14 hb15
    have hhi := heldFreshS_own _ L.length vG 1 _ om15 (by omega) (by omega)
    have hs15 := HS1.out.trans (hc15.mono HS1.out.size)
    clear heq hb15 hc14 oW14 om14 oH hc15 om15
    go_wp2_with fail
    refine hhi.mono ?_
    rintro e w' ⟨rfl, rfl⟩
    clear hhi
    go_wp2_with fail
    go_ret
    exact ⟨rfl, hs15⟩
  · rw [leftR_no (by omega)] at hsz
    clear hx1
    go_enter Try.func6, Try.ntmps6
    go_wp2_with fail
    refine hsz.mono ?_
    rintro e w1 ⟨rfl, hb1⟩
    have hs1 := hb0.trans (hb1.mono hb0.size)
    clear hsz hb0 hb1
    go_wp2
    go_ret
    exact ⟨rfl, hs1⟩

set_option maxRecDepth 100000 in
theorem lifted (os : Os) (started : os.Started) (H : Type) (enc : TypeId × Value → H) :
    ReturnsInHanded {} Try.checked os 6 .any (Rows.fnExactFreshNeedsSpec.pre6 enc Try.prog Try.f6 Rows.fnExactFreshNeedsRow.domain false) (Rows.fnExactFreshNeedsSpec.post enc Try.prog Try.f6 false true false false) := by
  refine returnsInHanded_of_change (C := Try.checked) own started (by kernel_rfl) Try.func6
    (ChangeSpec.witness6 (enc := enc) (C := Try.checked) false ⟨#[], #[.int .i64 0, .agg #[.int .i64 0, .int .i64 0, .slice none 0 0, .slice none 0 0]], []⟩ 8 (by kernel_rfl) (by kernel_rfl) (by kernel_rfl) (by kernel_rfl)) ?_
  intro W base args ds gs before hval0 hW hcnd _
  have hval : ∀ (j : Nat) t v, Try.f6.params[j]? = some t → args[j]? = some v → Value.okWide Try.prog W .any base t v := hval0
  have hW' := hW
  obtain ⟨p, q, hA0, hV, rfl, hfz, hnd⟩ := hW
  have hA : DataW.TrodAll enc Try.prog W 0 (fun _ => true) true Try.f6.params.toList args.toList ds p := hA0
  rw [Try.params6] at hA hval
  obtain ⟨v0, vs0, d0, ds0, p0, q0, hargs, rfl, rfl, h0, r0⟩ := trodAll_cons hA
  obtain ⟨v1, vs1, d1, ds1, p1, q1, rfl, rfl, rfl, h1, r1⟩ := trodAll_cons r0
  obtain ⟨rfl, rfl, rfl⟩ := trodAll_nil r1
  obtain rfl : args = #[v0, v1] := by cases args; simp_all
  obtain ⟨rfl, rfl⟩ := trodVars_none hV
  have k0 := h0
  have lt0 : ∀ x ∈ p0, x.block < W.heap.size := by obtain ⟨m, hm⟩ := k0; exact DataW.trod_lt m _ _ _ hm
  have k1 := h1
  have lt1 : ∀ x ∈ p1, x.block < W.heap.size := by obtain ⟨m, hm⟩ := k1; exact DataW.trod_lt m _ _ _ hm
  obtain ⟨a0, rfl, _, _, w0⟩ := open_int Try.underlying3 (hval 0 3 v0 rfl rfl) h0
  obtain ⟨t1, tx1, ts1⟩ := open_term (hval 1 25 v1 rfl rfl) h1
  clear hA0 hval0
  refine (walk W a0 w0 v1 t1 tx1 ts1).mono fun e W' ⟨he, bel⟩ => ?_
  subst he
  exact ⟨_, rfl, _, _, _, [], _, [], hW', trodAll_mk1 (shut_bool Try.underlying4 _), (trodAll_cons_mk (Below.trod laidOut (by kernel_rfl) (of_decide_eq_true (by kernel_rfl)) k0 bel lt0) (trodAll_cons_mk (Below.trod laidOut (by kernel_rfl) (of_decide_eq_true (by kernel_rfl)) k1 bel lt1) trodAll_mk0)), rfl, bel.frame _, fun h => by cases h⟩

theorem over : Rows.fnExactFreshNeedsRow.holds Try.pinned (OpenSpec.ofChange Rows.fnExactFreshNeedsSpec) :=
  OpenClaim.holds_of_wide 6 Try.f6 rfl rfl rfl rfl rfl rfl rfl ⟨rfl, rfl, rfl, rfl, rfl⟩ rfl rfl rfl rfl rfl (by kernel_rfl) Try.func6 (by kernel_rfl)
    (of_decide_eq_true (by kernel_rfl)) (by unfold Func.isWrapper; first | (rw [if_pos (by decide +kernel)]; kernel_rfl) | (rw [if_neg (by decide +kernel)]; exact ⟨rfl, rfl⟩))
    (fun os started H enc _ => lifted os started H enc)

theorem proved : Rows.FnExactFreshNeedsSaid := over
#print axioms proved
end Go.Proofs.Ytbfkfklaplgebaa.fnExactFreshNeeds
