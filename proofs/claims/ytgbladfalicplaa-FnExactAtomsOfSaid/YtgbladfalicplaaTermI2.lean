/-
  IsTerm and SizeOfTerm in the program, SizeOfTerm in the model, as contracts.
-/
import Derived.Test.YtgbladfalicplaaTermI
import Derived.Test.YtgbladfalicplaaTermS
namespace Go.Proofs.Ytgbladfalicplaa
open Go.RowKit Go.Sort

set_option maxRecDepth 100000 in
theorem isTerm_impl (t : Tm) (x : Value) (w : World) (hx : TmIn w x t) (hf : Fit t) :
    Calls Try.prog 15 #[x] w (BoolPost (isTermB t) w) := by
  have hwi := fun W hW => within_any t x W hW hf
  obtain ⟨A, c, kv, rfl, hp, hk⟩ := hx
  obtain ⟨B, d, rfl⟩ := hk.form
  have hb0 : Below w.heap.size w (w.alloc (.cells #[.int .i64 t.op, .int .i64 t.num, .slice A t.perm.length c, .slice B t.kids.length d] 31)) := (Below.refl _ _).alloc (Nat.le_refl _) _
  have hw0 := hwi _ ⟨A, c, _, rfl, hp.below hb0, hk.below hb0⟩
  clear hwi
  go_enter Try.func15, Try.ntmps15
  go_wp2_with fail
  refine hw0.mono ?_
  rintro e w1 ⟨hb1, ⟨hno, rfl⟩ | ⟨hyes, F, g, cap, xs, rfl, _, _, _, _⟩⟩
  · have hpost : BoolPost (isTermB t) w (.returned (.bool false)) w1 := ⟨by rw [hno], hb0.trans (hb1.mono hb0.size)⟩
    clear hw0 hb0 hb1 hp hk hno
    go_wp2
    go_ret
    exact hpost
  · have hpost : BoolPost (isTermB t) w (.returned (.bool true)) w1 := ⟨by rw [hyes], hb0.trans (hb1.mono hb0.size)⟩
    clear hw0 hb0 hb1 hp hk hyes
    go_wp2
    go_ret
    exact hpost

def sizeF (t : Tm) : Int := if isTermB t then (szT t : Int) else -1
theorem sizeF_yes {t : Tm} (h : isTermB t = true) : sizeF t = szT t := by simp [sizeF, h]
theorem sizeF_no {t : Tm} (h : isTermB t = false) : sizeF t = -1 := by simp [sizeF, h]

set_option maxRecDepth 100000 in
theorem size_impl (t : Tm) (x : Value) (w : World) (hx : TmIn w x t) (hf : Fit t) :
    Calls Try.prog 20 #[x] w (IntPost (sizeF t) w) := by
  have hwi := fun W hW => within_any t x W hW hf
  obtain ⟨A, c, kv, rfl, hp, hk⟩ := hx
  obtain ⟨B, d, rfl⟩ := hk.form
  have hb0 : Below w.heap.size w (w.alloc (.cells #[.int .i64 t.op, .int .i64 t.num, .slice A t.perm.length c, .slice B t.kids.length d] 31)) := (Below.refl _ _).alloc (Nat.le_refl _) _
  have hw0 := hwi _ ⟨A, c, _, rfl, hp.below hb0, hk.below hb0⟩
  clear hwi
  go_enter Try.func20, Try.ntmps20
  go_wp2_with fail
  refine hw0.mono ?_
  rintro e w1 ⟨hb1, ⟨hno, rfl⟩ | ⟨hyes, F, g, cap, xs, rfl, hlen, _, _, _⟩⟩
  · have hpost : IntPost (sizeF t) w (.returned (.int .i64 (-1))) w1 := ⟨by rw [sizeF_no hno], hb0.trans (hb1.mono hb0.size)⟩
    clear hw0 hb0 hb1 hp hk hno
    go_wp2
    go_ret
    exact hpost
  · have hpost : IntPost (sizeF t) w (.returned (.int .i64 F.length)) w1 := ⟨by rw [sizeF_yes hyes, hlen], hb0.trans (hb1.mono hb0.size)⟩
    clear hw0 hb0 hb1 hp hk hyes hlen
    go_wp2
    go_ret
    exact hpost

set_option maxRecDepth 100000 in
theorem size_spec (t : Tm) (x : Value) (w : World) (hx : TmIn w x t) (hc : cntT t ≤ 1048576) :
    Calls Try.prog 19 #[x] w (IntPost (sizeF t) w) := by
  have hle := szT_le t
  have hgd := fun W hW => isTerm_spec t x W hW hc
  have hsz := fun W hW => l2Size_any (szT t) t (Nat.le_refl _) (by omega) (fit_of t hc) W x hW
  have hx' := hx
  obtain ⟨A, c, kv, rfl, hp, hk⟩ := hx
  obtain ⟨B, d, rfl⟩ := hk.form
  have hb0 : Below w.heap.size w (w.alloc (.cells #[.int .i64 t.op, .int .i64 t.num, .slice A t.perm.length c, .slice B t.kids.length d] 31)) := (Below.refl _ _).alloc (Nat.le_refl _) _
  have hg0 := hgd _ (hx'.below hb0)
  clear hgd
  by_cases h1 : isTermB t = true
  · rw [h1] at hg0
    have hr := Lib.hid (sizeF_yes h1)
    clear h1
    go_enter Try.func19, Try.ntmps19
    go_wp2_with fail
    refine hg0.mono ?_
    rintro e w1 ⟨rfl, hb1⟩
    obtain ⟨b0, b1, b2, b3⟩ := box4 hb1
    have hs1 := hb0.trans (hb1.mono hb0.size)
    have hs0 := hsz _ (hx'.below hs1)
    clear hg0 hb0 hb1 hp hk hsz hx'
    generalize szT t = z at hs0 hr
    go_wp2_with fail
    refine hs0.mono ?_
    rintro e w2 ⟨rfl, hb2⟩
    have hpost : IntPost (sizeF t) w (.returned (.int .i64 z)) w2 := ⟨by rw [hr.out], hs1.trans (hb2.mono hs1.size)⟩
    clear hs0 hs1 hb2 hr b0 b1 b2 b3
    go_wp2
    go_ret
    exact hpost
  · have h1' : isTermB t = false := by simpa using h1
    rw [h1'] at hg0
    have hr := Lib.hid (sizeF_no h1')
    clear h1 h1' hsz hx'
    go_enter Try.func19, Try.ntmps19
    go_wp2_with fail
    refine hg0.mono ?_
    rintro e w1 ⟨rfl, hb1⟩
    have hpost : IntPost (sizeF t) w (.returned (.int .i64 (-1))) w1 := ⟨by rw [hr.out], hb0.trans (hb1.mono hb0.size)⟩
    clear hg0 hb0 hb1 hp hk hr
    go_wp2
    go_ret
    exact hpost

end Go.Proofs.Ytgbladfalicplaa
