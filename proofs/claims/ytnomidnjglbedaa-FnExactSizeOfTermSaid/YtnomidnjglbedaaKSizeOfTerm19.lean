/-
  The law FnExactSizeOfTerm returns true for every value: the program gives the number of nodes that the model gives, and leaves its argument as it was. No condition.
-/
import Derived.Test.YtnomidnjglbedaaKSizeOfTerm16
import Derived.Test.YtnomidnjglbedaaKSizeOfTerm14
import Derived.Test.YtnomidnjglbedaaKSizeOfTerm17
import Derived.Test.YtnomidnjglbedaaKSizeOfTerm18
import Derived.Test.YtnomidnjglbedaaKSizeOfTerm15
namespace Go.Proofs.Ytnomidnjglbedaa.fnExactSizeOfTerm
open Go.ChangeShapes Go.WideShapes Go.ChangeAt Go.RowKit
set_option linter.unusedVariables false

set_option maxRecDepth 100000 in
set_option maxHeartbeats 8000000 in
theorem walk (w : World) (x0 : Value) (t0 : Tm) (hx0 : TmIn w x0 t0) (hs0 : Short t0) :
    Calls Try.prog 4 #[x0] w fun e w' => e = .returned (.bool true) ∧ Below w.heap.size w w' := by
  obtain ⟨A, c, kv, rfl, hp, hk⟩ := hx0
  obtain ⟨B, d, rfl⟩ := hk.form
  have hsh := (short_eq t0).1 hs0
  have hb0 : Below w.heap.size w (w.alloc (.cells #[.int .i64 t0.op, .int .i64 t0.num, .slice A t0.perm.length c, .slice B t0.kids.length d] 25)) := (Below.refl _ _).alloc (Nat.le_refl _) _
  have hx1 : TmIn (w.alloc (.cells #[.int .i64 t0.op, .int .i64 t0.num, .slice A t0.perm.length c, .slice B t0.kids.length d] 25)) (.agg #[.int .i64 t0.op, .int .i64 t0.num, .slice A t0.perm.length c, .slice B t0.kids.length d]) t0 := ⟨A, c, _, rfl, hp.below hb0, hk.below hb0⟩
  have hsz := szTerm_of t0 _ _ 1048576 (by omega) (by omega) hx1 hsh.1 fun l' w' y g0 g1 hy => szTermS_any _ t0.kids (Nat.le_refl _) hsh.2.2 hsh.2.1 l' w' y g0 g1 hy
  unfold LeftPost at hsz
  clear hp hk hsh hs0
  by_cases hn : cntT t0 ≤ 1048576
  · have hf := fit_of t0 hn
    have HF := Lib.hid hf
    rw [leftR_yes (by omega)] at hsz
    have hleft : ¬ 1048576 - (cntT t0 : Int) < 0 := by omega
    clear hf
    go_enter Try.func4, Try.ntmps4
    go_wp2_with fail
    refine hsz.mono ?_
    rintro e w1 ⟨rfl, hb1⟩
    obtain ⟨b0, b1, b2, b3⟩ := box4 hb1
    have hs1 := hb0.trans (hb1.mono hb0.size)
    have hx2 := hx1.below hb1
    have hlt1 : w.heap.size < w1.heap.size := by have := hb1.size; rw [World.size_alloc] at this; omega
    have hto := toTerm_any t0 HF.out w1 _ hx2
    clear hsz hb0 hb1 hx1
    go_wp2_with fail
    refine hto.mono ?_
    rintro e w2 ⟨P2, q2, K2, r2, S2, rfl, hL2, _, hb2⟩
    have hsp := size_spec t0 _ w2 (tmOut_in hL2) hn
    have hs2 := hs1.trans (hb2.mono hs1.size)
    have hx3 := hx2.below hb2
    have hlt2 := Nat.lt_of_lt_of_le hlt1 hb2.size
    replace b0 := (hb2.cell (p := ⟨w.heap.size, 0, none⟩) hlt1).trans b0
    replace b1 := (hb2.cell (p := ⟨w.heap.size, 1, none⟩) hlt1).trans b1
    replace b2 := (hb2.cell (p := ⟨w.heap.size, 2, none⟩) hlt1).trans b2
    replace b3 := (hb2.cell (p := ⟨w.heap.size, 3, none⟩) hlt1).trans b3
    clear hto hL2 hb2 hs1 hx2 hlt1
    go_wp2_with fail
    refine hsp.mono ?_
    rintro e w3 ⟨rfl, hb3⟩
    have hs3 := hs2.trans (hb3.mono hs2.size)
    have hx4 := hx3.below hb3
    have hlt3 := Nat.lt_of_lt_of_le hlt2 hb3.size
    replace b0 := (hb3.cell (p := ⟨w.heap.size, 0, none⟩) hlt2).trans b0
    replace b1 := (hb3.cell (p := ⟨w.heap.size, 1, none⟩) hlt2).trans b1
    replace b2 := (hb3.cell (p := ⟨w.heap.size, 2, none⟩) hlt2).trans b2
    replace b3 := (hb3.cell (p := ⟨w.heap.size, 3, none⟩) hlt2).trans b3
    have hto := toTerm_any t0 HF.out w3 _ hx4
    clear hsp hs2 hx3 hlt2 hb3
    go_wp2_with fail
    refine hto.mono ?_
    rintro e w4 ⟨P4, q4, K4, r4, S4, rfl, hL4, _, hb4⟩
    have hs4 := hs3.trans (hb4.mono hs3.size)
    have hx5 := hx4.below hb4
    have hlt4 := Nat.lt_of_lt_of_le hlt3 hb4.size
    replace b0 := (hb4.cell (p := ⟨w.heap.size, 0, none⟩) hlt3).trans b0
    replace b1 := (hb4.cell (p := ⟨w.heap.size, 1, none⟩) hlt3).trans b1
    replace b2 := (hb4.cell (p := ⟨w.heap.size, 2, none⟩) hlt3).trans b2
    replace b3 := (hb4.cell (p := ⟨w.heap.size, 3, none⟩) hlt3).trans b3
    have hbx : Below w4.heap.size w4 (w4.alloc (.cells #[.int .i64 t0.op, .int .i64 t0.num, .slice P4 t0.perm.length q4, .slice K4 t0.kids.length r4] 31)) := (Below.refl _ _).alloc (Nat.le_refl _) _
    have hy5 := (tmOut_in hL4).below hbx
    have him := size_impl t0 _ _ hy5 HF.out
    have hs5 := hs4.trans (hbx.mono hs4.size)
    have hx6 := hx5.below hbx
    clear hto hL4 hb4 hs3 hx4 hlt3 hs4 hx5
    generalize sizeF t0 = pb at him ⊢
    have hpb : (pb != pb) = false := by simp
    go_wp2_with fail
    refine him.mono ?_
    rintro e w6 ⟨rfl, hb6⟩
    obtain ⟨d0, d1, d2, d3⟩ := box4 hb6
    have hs6 := hs5.trans (hb6.mono hs5.size)
    have hx7 := hx6.below hb6
    have hy7 := hy5.below hb6
    have hlt6 : w4.heap.size < w6.heap.size := by have := hb6.size; rw [World.size_alloc] at this; omega
    have hlt7 : w.heap.size < w6.heap.size := by omega
    replace b0 := ((hbx.trans (hb6.mono hbx.size)).cell (p := ⟨w.heap.size, 0, none⟩) hlt4).trans b0
    replace b1 := ((hbx.trans (hb6.mono hbx.size)).cell (p := ⟨w.heap.size, 1, none⟩) hlt4).trans b1
    replace b2 := ((hbx.trans (hb6.mono hbx.size)).cell (p := ⟨w.heap.size, 2, none⟩) hlt4).trans b2
    replace b3 := ((hbx.trans (hb6.mono hbx.size)).cell (p := ⟨w.heap.size, 3, none⟩) hlt4).trans b3
    have hdw : Below w6.heap.size w6 w6.drew := ⟨rfl, rfl, rfl, Nat.le_refl _, fun _ _ => rfl⟩
    have hto := toTerm_any t0 HF.out w6.drew _ (hx7.below hdw)
    have hy8 := hy7.below hdw
    have hs7 := hs6.trans (hdw.mono hs6.size)
    clear him hs5 hx6 hy5 hlt4 hbx hb6 hs6 hx7 hy7 hdw
    go_wp2
    go_region_held3 (fun w' => w'.cell? ⟨w.heap.size, 0, none⟩ = some (.int .i64 t0.op) ∧ w'.cell? ⟨w.heap.size, 1, none⟩ = some (.int .i64 t0.num) ∧ w'.cell? ⟨w.heap.size, 2, none⟩ = some (.slice A t0.perm.length c) ∧ w'.cell? ⟨w.heap.size, 3, none⟩ = some (.slice B t0.kids.length d) ∧
        w'.cell? ⟨w4.heap.size, 0, none⟩ = some (.int .i64 t0.op) ∧ w'.cell? ⟨w4.heap.size, 1, none⟩ = some (.int .i64 t0.num) ∧ w'.cell? ⟨w4.heap.size, 2, none⟩ = some (.slice P4 t0.perm.length q4) ∧ w'.cell? ⟨w4.heap.size, 3, none⟩ = some (.slice K4 t0.kids.length r4))
      (first | ((try dsimp only); exact ⟨by assumption, by assumption, by assumption, by assumption, by assumption, by assumption, by assumption, by assumption⟩) | go_keep)
      (first
        | (go_at_call 17; refine hto.mono ?_; rintro e w8 ⟨P8, q8, K8, r8, S8, rfl, hL8, _, hb8⟩; have hz9 := tmOut_in hL8; have hy9 := hy8.below hb8; have hs8 := hs7.trans (hb8.mono hs7.size); have hcr := (bcell hb8).1; have hn1 : w.heap.size < w6.drew.heap.size := hlt7; have hn2 : w4.heap.size < w6.drew.heap.size := hlt6; have e0 := (hb8.cell (p := ⟨w.heap.size, 0, none⟩) hn1).trans b0; have e1 := (hb8.cell (p := ⟨w.heap.size, 1, none⟩) hn1).trans b1; have e2 := (hb8.cell (p := ⟨w.heap.size, 2, none⟩) hn1).trans b2; have e3 := (hb8.cell (p := ⟨w.heap.size, 3, none⟩) hn1).trans b3; have e4 := (hb8.cell (p := ⟨w4.heap.size, 0, none⟩) hn2).trans d0; have e5 := (hb8.cell (p := ⟨w4.heap.size, 1, none⟩) hn2).trans d1; have e6 := (hb8.cell (p := ⟨w4.heap.size, 2, none⟩) hn2).trans d2; have e7 := (hb8.cell (p := ⟨w4.heap.size, 3, none⟩) hn2).trans d3; clear hto hL8)
        | (go_at_call 19; refine (eqTerm_any t0 HF.out _ _ _ hy9 hz9).mono ?_; rintro e w9 ⟨rfl, hb9⟩; have hs9 := hs8.trans (hb9.mono hs8.size); have hcr9 := (bcell hb9).1; have hn3 : w.heap.size < w8.heap.size := Nat.lt_of_lt_of_le hn1 hb8.size; have hn4 : w4.heap.size < w8.heap.size := Nat.lt_of_lt_of_le hn2 hb8.size; have g0 := (hb9.cell (p := ⟨w.heap.size, 0, none⟩) hn3).trans e0; have g1 := (hb9.cell (p := ⟨w.heap.size, 1, none⟩) hn3).trans e1; have g2 := (hb9.cell (p := ⟨w.heap.size, 2, none⟩) hn3).trans e2; have g3 := (hb9.cell (p := ⟨w.heap.size, 3, none⟩) hn3).trans e3; have g4 := (hb9.cell (p := ⟨w4.heap.size, 0, none⟩) hn4).trans e4; have g5 := (hb9.cell (p := ⟨w4.heap.size, 1, none⟩) hn4).trans e5; have g6 := (hb9.cell (p := ⟨w4.heap.size, 2, none⟩) hn4).trans e6; have g7 := (hb9.cell (p := ⟨w4.heap.size, 3, none⟩) hn4).trans e7))
    clear b0 b1 b2 b3 d0 d1 d2 d3
    go_wp2
    go_ret
    exact ⟨rfl, hs9⟩
  · rw [leftR_no (by omega)] at hsz
    clear hx1
    go_enter Try.func4, Try.ntmps4
    go_wp2_with fail
    refine hsz.mono ?_
    rintro e w1 ⟨rfl, hb1⟩
    have hs1 := hb0.trans (hb1.mono hb0.size)
    clear hsz hb0 hb1
    go_wp2
    go_ret
    exact ⟨rfl, hs1⟩

set_option maxRecDepth 100000 in
theorem lifted (os : Os) (started : os.Started) (H : Type) (enc : TypeId × Value → H) :
    ReturnsInHanded {} Try.checked os 4 .any (Rows.fnExactSizeOfTermSpec.pre6 enc Try.prog Try.f4 Rows.fnExactSizeOfTermRow.domain false) (Rows.fnExactSizeOfTermSpec.post enc Try.prog Try.f4 false true false false) := by
  refine returnsInHanded_of_change (C := Try.checked) own started (by kernel_rfl) Try.func4
    (ChangeSpec.witness6 (enc := enc) (C := Try.checked) false ⟨#[], #[.agg #[.int .i64 0, .int .i64 0, .slice none 0 0, .slice none 0 0]], []⟩ 8 (by kernel_rfl) (by kernel_rfl) (by kernel_rfl) (by kernel_rfl)) ?_
  intro W base args ds gs before hval0 hW hcnd _
  have hval : ∀ (j : Nat) t v, Try.f4.params[j]? = some t → args[j]? = some v → Value.okWide Try.prog W .any base t v := hval0
  have hW' := hW
  obtain ⟨p, q, hA0, hV, rfl, hfz, hnd⟩ := hW
  have hA : DataW.TrodAll enc Try.prog W 0 (fun _ => true) true Try.f4.params.toList args.toList ds p := hA0
  rw [Try.params4] at hA hval
  obtain ⟨v0, vs0, d0, ds0, p0, q0, hargs, rfl, rfl, h0, r0⟩ := trodAll_cons hA
  obtain ⟨rfl, rfl, rfl⟩ := trodAll_nil r0
  obtain rfl : args = #[v0] := by cases args; simp_all
  obtain ⟨rfl, rfl⟩ := trodVars_none hV
  have k0 := h0
  have lt0 : ∀ x ∈ p0, x.block < W.heap.size := by obtain ⟨m, hm⟩ := k0; exact DataW.trod_lt m _ _ _ hm
  obtain ⟨t0, tx0, ts0⟩ := open_term (hval 0 25 v0 rfl rfl) h0
  clear hA0 hval0
  refine (walk W v0 t0 tx0 ts0).mono fun e W' ⟨he, bel⟩ => ?_
  subst he
  exact ⟨_, rfl, _, _, _, [], _, [], hW', trodAll_mk1 (shut_bool Try.underlying4 _), (trodAll_cons_mk (Below.trod laidOut (by kernel_rfl) (of_decide_eq_true (by kernel_rfl)) k0 bel lt0) trodAll_mk0), rfl, bel.frame _, fun h => by cases h⟩

theorem over : Rows.fnExactSizeOfTermRow.holds Try.pinned (OpenSpec.ofChange Rows.fnExactSizeOfTermSpec) :=
  OpenClaim.holds_of_wide 4 Try.f4 rfl rfl rfl rfl rfl rfl rfl ⟨rfl, rfl, rfl, rfl, rfl⟩ rfl rfl rfl rfl rfl (by kernel_rfl) Try.func4 (by kernel_rfl)
    (of_decide_eq_true (by kernel_rfl)) (by unfold Func.isWrapper; first | (rw [if_pos (by decide +kernel)]; kernel_rfl) | (rw [if_neg (by decide +kernel)]; exact ⟨rfl, rfl⟩))
    (fun os started H enc _ => lifted os started H enc)

theorem proved : Rows.FnExactSizeOfTermSaid := over
#print axioms proved
end Go.Proofs.Ytnomidnjglbedaa.fnExactSizeOfTerm
