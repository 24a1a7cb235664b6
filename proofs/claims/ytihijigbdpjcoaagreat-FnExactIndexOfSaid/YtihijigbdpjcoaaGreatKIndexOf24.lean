/-
  IsFunctionTerm of both sides, as contracts.
-/
import Derived.Test.YtihijigbdpjcoaaGreatKIndexOf11
import Derived.Test.YtihijigbdpjcoaaGreatKIndexOf23
import Derived.Test.YtihijigbdpjcoaaGreatKIndexOf10
namespace Go.Proofs.YtihijigbdpjcoaaGreat
open Go.RowKit Go.Sort
set_option linter.unusedVariables false

theorem ground_term8 {t : Tm} (h : groundB t = true) : isTermB t = true := by
  unfold groundB at h
  simp only [Bool.and_eq_true] at h
  exact h.1

set_option maxRecDepth 100000 in
theorem isFunctionTerm_impl (t : Tm) (x : Value) (w : World) (hx : TmIn w x t) (hf : Fit t) :
    Calls Tryz.prog 34 #[x] w (BoolPost (groundB t && funB t) w) := by
  have hgr := fun W hW => ground_impl t x W hW hf
  have hx' := hx
  obtain ⟨A, c, kv, rfl, hp, hk⟩ := hx
  obtain ⟨B, d, rfl⟩ := hk.form
  have hb0 : Below w.heap.size w (w.alloc (.cells #[.int .i64 t.op, .int .i64 t.num, .slice A t.perm.length c, .slice B t.kids.length d] 35)) := (Below.refl _ _).alloc (Nat.le_refl _) _
  have hg0 := hgr _ (hx'.below hb0)
  clear hgr hp hk
  by_cases h1 : groundB t = true
  · have hgd := term_good (ground_term8 h1)
    have hfu := fun W hW => ofFun_any (szT t) t (Nat.le_refl _) hgd W _ (hx'.below hW)
    rw [h1, Bool.true_and]
    rw [h1] at hg0
    generalize funB t = q at hfu ⊢
    clear h1 hx' hgd
    go_enter Tryz.func34, Tryz.ntmps34
    go_wp2_with fail
    refine hg0.mono ?_
    rintro e w1 ⟨rfl, hb1⟩
    obtain ⟨b0, b1, b2, b3⟩ := box4 hb1
    have hs1 := hb0.trans (hb1.mono hb0.size)
    have hc0 := hfu w1 hs1
    clear hg0 hb0 hb1 hfu
    go_wp2_with fail
    refine hc0.mono ?_
    rintro e w2 ⟨rfl, hb2⟩
    have hpost : BoolPost q w (.returned (.bool q)) w2 := ⟨rfl, hs1.trans (hb2.mono hs1.size)⟩
    clear hc0 hs1 hb2 b0 b1 b2 b3
    go_wp2
    go_ret
    exact hpost
  · have h1' : groundB t = false := by simpa using h1
    rw [h1', Bool.false_and]
    rw [h1'] at hg0
    clear h1 h1' hx'
    go_enter Tryz.func34, Tryz.ntmps34
    go_wp2_with fail
    refine hg0.mono ?_
    rintro e w1 ⟨rfl, hb1⟩
    have hpost : BoolPost false w (.returned (.bool false)) w1 := ⟨rfl, hb0.trans (hb1.mono hb0.size)⟩
    clear hg0 hb0 hb1
    go_wp2
    go_ret
    exact hpost

set_option maxRecDepth 100000 in
theorem isFunctionTerm_spec (t : Tm) (x : Value) (w : World) (hx : TmIn w x t) (hc : cntT t ≤ 1048576) :
    Calls Tryz.prog 30 #[x] w (BoolPost (groundB t && funB t) w) := by
  have hgr := fun W hW => ground_spec t x W hW hc
  have hx' := hx
  obtain ⟨A, c, kv, rfl, hp, hk⟩ := hx
  obtain ⟨B, d, rfl⟩ := hk.form
  have hb0 : Below w.heap.size w (w.alloc (.cells #[.int .i64 t.op, .int .i64 t.num, .slice A t.perm.length c, .slice B t.kids.length d] 35)) := (Below.refl _ _).alloc (Nat.le_refl _) _
  have hg0 := hgr _ (hx'.below hb0)
  clear hgr hp hk
  by_cases h1 : groundB t = true
  · have hgd := term_good (ground_term8 h1)
    have hfu := fun W hW => good8_any (szT t) t (Nat.le_refl _) hgd W _ (hx'.below hW)
    rw [h1, Bool.true_and]
    rw [h1] at hg0
    generalize funB t = q at hfu ⊢
    clear h1 hx' hgd
    go_enter Tryz.func30, Tryz.ntmps30
    go_wp2_with fail
    refine hg0.mono ?_
    rintro e w1 ⟨rfl, hb1⟩
    obtain ⟨b0, b1, b2, b3⟩ := box4 hb1
    have hs1 := hb0.trans (hb1.mono hb0.size)
    have hc0 := hfu w1 hs1
    clear hg0 hb0 hb1 hfu
    go_wp2_with fail
    refine hc0.mono ?_
    rintro e w2 ⟨rfl, hb2⟩
    have hpost : BoolPost q w (.returned (.bool q)) w2 := ⟨rfl, hs1.trans (hb2.mono hs1.size)⟩
    clear hc0 hs1 hb2 b0 b1 b2 b3
    go_wp2
    go_ret
    exact hpost
  · have h1' : groundB t = false := by simpa using h1
    rw [h1', Bool.false_and]
    rw [h1'] at hg0
    clear h1 h1' hx'
    go_enter Tryz.func30, Tryz.ntmps30
    go_wp2_with fail
    refine hg0.mono ?_
    rintro e w1 ⟨rfl, hb1⟩
    have hpost : BoolPost false w (.returned (.bool false)) w1 := ⟨rfl, hb0.trans (hb1.mono hb0.size)⟩
    clear hg0 hb0 hb1
    go_wp2
    go_ret
    exact hpost

end Go.Proofs.YtihijigbdpjcoaaGreat
