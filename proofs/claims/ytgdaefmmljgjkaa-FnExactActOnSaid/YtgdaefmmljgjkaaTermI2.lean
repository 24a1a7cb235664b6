/-
  IsTerm in the program, as a contract.
-/
import Derived.Test.YtgdaefmmljgjkaaTermI
import Derived.Test.YtgdaefmmljgjkaaTermS
namespace Go.Proofs.Ytgdaefmmljgjkaa
open Go.RowKit Go.Sort

set_option maxRecDepth 100000 in
theorem isTerm_impl (t : Tm) (x : Value) (w : World) (hx : TmIn w x t) (hf : Fit t) :
    Calls Try.prog 40 #[x] w (BoolPost (isTermB t) w) := by
  have hwi := fun W hW => within_any t x W hW hf
  obtain ⟨A, c, kv, rfl, hp, hk⟩ := hx
  obtain ⟨B, d, rfl⟩ := hk.form
  have hb0 : Below w.heap.size w (w.alloc (.cells #[.int .i64 t.op, .int .i64 t.num, .slice A t.perm.length c, .slice B t.kids.length d] 32)) := (Below.refl _ _).alloc (Nat.le_refl _) _
  have hw0 := hwi _ ⟨A, c, _, rfl, hp.below hb0, hk.below hb0⟩
  clear hwi
  go_enter Try.func40, Try.ntmps40
  go_wp2_with fail
  refine hw0.mono ?_
  rintro e w1 ⟨hb1, ⟨hno, rfl⟩ | ⟨hyes, F, g, cap, xs, rfl, _, _, _, _⟩⟩
  · have hpost : BoolPost (isTermB t) w (.returned (.bool false)) w1 := ⟨by rw [hno], hb0.trans (hb1.mono hb0.size)⟩
    clear hw0 hb0 hb1 hp hk hno
    go_wp2
    go_ret
    exact hpost
  · have hpost : BoolPost (isTermB t) w (.returned (.bool true)) w1 := ⟨by rw [hyes], hb0.trans (hb1.mono hb0.size)⟩
    clear hw0 hb0 hb1 hp hk hyes
    go_wp2
    go_ret
    exact hpost

end Go.Proofs.Ytgdaefmmljgjkaa
