/-
  The free atoms of a term, in the program, as a contract.
-/
import Derived.Test.YtgdaefmmljgjkaaFreeI
import Derived.Test.YtgdaefmmljgjkaaFormOf
namespace Go.Proofs.Ytgdaefmmljgjkaa
open Go.RowKit Go.Sort
set_option linter.unusedVariables false

set_option maxRecDepth 100000 in
set_option maxHeartbeats 2000000 in
theorem free_impl (t : Tm) (x : Value) (w : World) (hx : TmIn w x t) (hf : Fit t) :
    Calls Try.prog 11 #[x] w (InsPost w.heap.size (freeL t) w) := by
  have hgd := fun W hW => isTerm_impl t x W hW hf
  have hx' := hx
  obtain ⟨A, c, kv, rfl, hp, hk⟩ := hx
  obtain ⟨B, d, rfl⟩ := hk.form
  have hb0 : Below w.heap.size w (w.alloc (.cells #[.int .i64 t.op, .int .i64 t.num, .slice A t.perm.length c, .slice B t.kids.length d] 32)) := (Below.refl _ _).alloc (Nat.le_refl _) _
  have hg0 := hgd _ (hx'.below hb0)
  clear hgd hp hk
  by_cases h1 : isTermB t = true
  · have hr := Lib.hid (freeL_yes h1)
    have hfo := formOf_term t h1
    have hfr := fun (W : World) (q : Nat → Prop) (y : Value) (hW : FIn W q (.iface (fty t) y) t) => free_any (szT t) t (Nat.le_refl _) (Nat.le_trans (term_size h1) (by decide)) q W y hW
    have hm := askFree t
    have hn := enterFree t
    rw [h1] at hg0
    clear h1
    go_enter Try.func11, Try.ntmps11
    go_wp2_with fail
    refine hg0.mono ?_
    rintro e w1 ⟨rfl, hb1⟩
    obtain ⟨b0, b1, b2, b3⟩ := box4 hb1
    have hs1 := hb0.trans (hb1.mono hb0.size)
    have hfo1 := hfo w1 _ (hx'.below hs1)
    clear hg0 hb0 hb1 hfo hx'
    go_wp2_with fail
    refine hfo1.mono ?_
    rintro e w2 ⟨fv, rfl, hfv, hb2⟩
    obtain ⟨fx, rfl⟩ := hfv.iface
    have hfr2 := hfr w2 _ fx hfv
    have hs2 := hs1.trans (hb2.mono hs1.size)
    rw [← hr.out] at hfr2
    generalize freeF t = F at hm hn hfr2
    generalize fty t = T at *
    clear hfo1 hs1 hb2 hfr hr hfv b0 b1 b2 b3
    go_wp2_with fail
    refine hfr2.mono ?_
    rintro e w3 ⟨g, cap, rfl, ho, hb3⟩
    have hpost : InsPost w.heap.size (freeL t) w (.returned (.slice (some ⟨g, 0, none⟩) (freeL t).length cap)) w3 := ⟨g, cap, rfl, own_le ho hs2.size, hs2.trans (hb3.mono hs2.size)⟩
    clear hfr2 hs2 hb3 ho hm hn
    go_wp2
    go_ret
    exact hpost
  · have h1' : isTermB t = false := by simpa using h1
    have hr := Lib.hid (freeL_no h1')
    rw [h1'] at hg0
    clear h1 h1' hx'
    go_enter Try.func11, Try.ntmps11
    go_wp2_with fail
    refine hg0.mono ?_
    rintro e w1 ⟨rfl, hb1⟩
    have hs1 := hb0.trans (hb1.mono hb0.size)
    have hpost : InsPost w.heap.size (freeL t) w (.returned (.slice (some ⟨w1.heap.size, 0, none⟩) 0 0)) (w1.alloc (.cells #[] 3)) := by
      rw [hr.out]
      exact ⟨_, _, rfl, own_le (World.ownsRow_lit w1 #[] 0 (Nat.le_refl _) (by decide) rfl) hs1.size, hs1.alloc hs1.size _⟩
    clear hg0 hb0 hb1 hr hs1
    go_wp2
    go_ret
    exact hpost
end Go.Proofs.Ytgdaefmmljgjkaa
