/-
  FreshIn in the program and in the model, as contracts.
-/
import Derived.Test.YtbfkfklaplgebaaGreatKFreshIn23
import Derived.Test.YtbfkfklaplgebaaGreatKFreshIn24
namespace Go.Proofs.YtbfkfklaplgebaaGreat
open Go.RowKit Go.Sort
set_option linter.unusedVariables false

def frInB (l : List (Int × Int)) (a : Int) (t : Tm) : Bool := frnB a t && (ctxB l && allIn l (frnL a t))

theorem frn_ctx {a : Int} {t : Tm} (h : frnB a t = true) : ctxB (frnL a t) = true := by
  unfold frnB at h
  rw [Bool.and_eq_true, Bool.and_eq_true, Bool.and_eq_true] at h
  obtain ⟨h1, h2, h3, h4⟩ := h
  rw [(frn_yes h1 h2 h3).1]
  unfold ctxOf
  rw [if_pos h4, ctxB_nd h1 (term_good h2)]
  exact h4

theorem frIn_incl {l : List (Int × Int)} {a : Int} {t : Tm} (h : frnB a t = true) : frInB l a t = inclB l (frnL a t) := by
  unfold frInB inclB
  rw [h, frn_ctx h]
  simp

set_option maxRecDepth 100000 in
set_option maxHeartbeats 1000000 in
theorem freshIn_impl (C : Option Addr) (e0 : Nat) (l : List (Int × Int)) (a : Int) (t : Tm) (x : Value) (w : World) (hC : PairsAt w C l) (hl : l.length ≤ 1048576) (hx : TmIn w x t) (hf : Fit t) :
    Calls Tryz.prog 28 #[.slice C l.length e0, .int .i64 a, x] w (BoolPost (frInB l a t) w) := by
  have hx' := hx
  obtain ⟨A, c, kv, rfl, hp, hk⟩ := hx
  obtain ⟨B, d, rfl⟩ := hk.form
  have hb0 : Below w.heap.size w (w.alloc (.cells #[.int .i64 t.op, .int .i64 t.num, .slice A t.perm.length c, .slice B t.kids.length d] 31)) := (Below.refl _ _).alloc (Nat.le_refl _) _
  have hfn := freshNeeds_impl a t _ _ (hx'.below hb0) hf
  have hinc := fun (W : World) (G : Option Addr) (q : Nat) (hW : PairsAt W C l) (hG : PairsAt W G (frnL a t)) => includes_impl C G e0 q l (frnL a t) W hW hG hl (by have := frnL_len a t; omega)
  clear hp hk hx'
  cases hB : frnB a t with
  | true =>
    have HR := Lib.hid (frIn_incl (l := l) hB)
    rw [hB] at hfn
    generalize frnL a t = L at hfn hinc HR
    clear hB
    go_enter Tryz.func28, Tryz.ntmps28
    go_wp2_with fail
    refine hfn.mono ?_
    rintro e w1 ⟨v1, rfl, ho1, hb1⟩
    obtain ⟨G, q, rfl, hG⟩ := own_pairsAt ho1
    have hs1 := hb0.trans (hb1.mono hb0.size)
    have hi := hinc w1 G q (hC.below hs1) hG
    generalize inclB l L = r at hi HR
    clear hfn ho1 hG hb0 hb1 hinc hC
    go_wp2_with fail
    refine hi.mono ?_
    rintro e w2 ⟨rfl, hb2⟩
    have hpost : BoolPost (frInB l a t) w (.returned (.bool r)) w2 := ⟨by rw [HR.out], hs1.trans (hb2.mono hs1.size)⟩
    clear hi hb2 hs1 HR
    go_wp2
    go_ret
    exact hpost
  | false =>
    have HR := Lib.hid (show frInB l a t = false by unfold frInB; rw [hB]; simp)
    rw [hB] at hfn
    generalize frnL a t = L at hfn hinc
    clear hB hinc
    go_enter Tryz.func28, Tryz.ntmps28
    go_wp2_with fail
    refine hfn.mono ?_
    rintro e w1 ⟨v1, rfl, ho1, hb1⟩
    have hpost : BoolPost (frInB l a t) w (.returned (.bool false)) w1 := ⟨by rw [HR.out], hb0.trans (hb1.mono hb0.size)⟩
    obtain ⟨G, q, rfl, hG⟩ := own_pairsAt ho1
    clear hfn ho1 hG hb0 hb1 hC HR
    go_wp2
    go_ret
    exact hpost

set_option maxRecDepth 100000 in
set_option maxHeartbeats 1000000 in
theorem freshIn_spec (C : Option Addr) (e0 : Nat) (l : List (Int × Int)) (a : Int) (t : Tm) (x : Value) (w : World) (hC : PairsAt w C l) (hl : l.length ≤ 1048576) (hx : TmIn w x t) (hc : cntT t ≤ 1048576) :
    Calls Tryz.prog 26 #[.slice C l.length e0, .int .i64 a, x] w (BoolPost (frInB l a t) w) := by
  have hx' := hx
  obtain ⟨A, c, kv, rfl, hp, hk⟩ := hx
  obtain ⟨B, d, rfl⟩ := hk.form
  have hb0 : Below w.heap.size w (w.alloc (.cells #[.int .i64 t.op, .int .i64 t.num, .slice A t.perm.length c, .slice B t.kids.length d] 31)) := (Below.refl _ _).alloc (Nat.le_refl _) _
  have hfn := freshNeeds_spec a t _ _ (hx'.below hb0) hc
  have hctx := fun (W : World) (hW : PairsAt W C l) => isContext_spec C e0 l W hW (by omega)
  have hinc := fun (W : World) (G : Option Addr) (q : Nat) (hW : PairsAt W C l) (hG : PairsAt W G (frnL a t)) => l3In_any C G e0 q l (frnL a t) W hW hG (by omega) (by have := frnL_len a t; omega)
  have hR : frInB l a t = (frnB a t && (ctxB l && allIn l (frnL a t))) := rfl
  clear hp hk hx'
  generalize frnB a t = k1 at hfn hR
  generalize ctxB l = k2 at hctx hR
  generalize frnL a t = L at hfn hinc hR
  cases k1 with
  | false =>
    have HR := Lib.hid (show frInB l a t = false by rw [hR]; simp)
    clear hR hctx hinc
    go_enter Tryz.func26, Tryz.ntmps26
    go_wp2_with fail
    refine hfn.mono ?_
    rintro e w1 ⟨v1, rfl, ho1, hb1⟩
    have hpost : BoolPost (frInB l a t) w (.returned (.bool false)) w1 := ⟨by rw [HR.out], hb0.trans (hb1.mono hb0.size)⟩
    obtain ⟨G, q, rfl, hG⟩ := own_pairsAt ho1
    clear hfn ho1 hG hb0 hb1 hC HR
    go_wp2
    go_ret
    exact hpost
  | true =>
    cases k2 with
    | false =>
      have HR := Lib.hid (show frInB l a t = false by rw [hR]; simp)
      clear hR hinc
      go_enter Tryz.func26, Tryz.ntmps26
      go_wp2_with fail
      refine hfn.mono ?_
      rintro e w1 ⟨v1, rfl, ho1, hb1⟩
      obtain ⟨G, q, rfl, hG⟩ := own_pairsAt ho1
      have hs1 := hb0.trans (hb1.mono hb0.size)
      have hcx := hctx w1 (hC.below hs1)
      clear hfn ho1 hG hb0 hb1 hC hctx
      go_wp2_with fail
      refine hcx.mono ?_
      rintro e w2 ⟨rfl, hb2⟩
      have hpost : BoolPost (frInB l a t) w (.returned (.bool false)) w2 := ⟨by rw [HR.out], hs1.trans (hb2.mono hs1.size)⟩
      clear hcx hb2 hs1 HR
      go_wp2
      go_ret
      exact hpost
    | true =>
      have HR := Lib.hid (show frInB l a t = allIn l L by rw [hR]; simp)
      clear hR
      go_enter Tryz.func26, Tryz.ntmps26
      go_wp2_with fail
      refine hfn.mono ?_
      rintro e w1 ⟨v1, rfl, ho1, hb1⟩
      obtain ⟨G, q, rfl, hG⟩ := own_pairsAt ho1
      have hs1 := hb0.trans (hb1.mono hb0.size)
      have hcx := hctx w1 (hC.below hs1)
      clear hfn ho1 hb0 hb1 hctx
      go_wp2_with fail
      refine hcx.mono ?_
      rintro e w2 ⟨rfl, hb2⟩
      have hs2 := hs1.trans (hb2.mono hs1.size)
      have hi := hinc w2 G q (hC.below hs2) (hG.below hb2)
      generalize allIn l L = r at hi HR
      clear hcx hb2 hs1 hinc hC hG
      go_wp2_with fail
      refine hi.mono ?_
      rintro e w3 ⟨rfl, hb3⟩
      have hpost : BoolPost (frInB l a t) w (.returned (.bool r)) w3 := ⟨by rw [HR.out], hs2.trans (hb3.mono hs2.size)⟩
      clear hi hb3 hs2 HR
      go_wp2
      go_ret
      exact hpost

end Go.Proofs.YtbfkfklaplgebaaGreat
