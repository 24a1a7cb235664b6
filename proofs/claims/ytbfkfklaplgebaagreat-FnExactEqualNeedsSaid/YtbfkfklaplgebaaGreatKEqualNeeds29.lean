/-
  The law FnExactEqualNeeds returns true for every two values: the program gives the least context with which two terms are equal, and whether there is one, as the model does, in memory of its own, and leaves the terms as they were. No condition.
-/
import Derived.Test.YtbfkfklaplgebaaGreatKEqualNeeds9
import Derived.Test.YtbfkfklaplgebaaGreatKEqualNeeds6
import Derived.Test.YtbfkfklaplgebaaGreatKEqualNeeds10
import Derived.Test.YtbfkfklaplgebaaGreatKEqualNeeds5
import Derived.Test.YtbfkfklaplgebaaGreatKEqualNeeds7
import Derived.Test.YtbfkfklaplgebaaGreatKEqualNeeds28
import Derived.Test.YtbfkfklaplgebaaGreatKEqualNeeds8
namespace Go.Proofs.YtbfkfklaplgebaaGreat.fnExactEqualNeeds
open Go.ChangeShapes Go.WideShapes Go.ChangeAt Go.RowKit
set_option linter.unusedVariables false

namespace Args4
theorem box_lt {w : World} {g : Nat} {o : Obj} (h : w.heap[g]? = some o) : g < w.heap.size := (Array.getElem?_eq_some_iff.1 h).1
theorem row4 {w : World} {g : Nat} {a b c d : Value} {T : TypeId} (h : w.heap[g]? = some (.cells #[a, b, c, d] T (0, 0))) : w.cell? ⟨g, 0, none⟩ = some a ∧ w.cell? ⟨g, 1, none⟩ = some b ∧ w.cell? ⟨g, 2, none⟩ = some c ∧ w.cell? ⟨g, 3, none⟩ = some d := by
  refine ⟨?_, ?_, ?_, ?_⟩ <;> rw [cell_of_row w g _ _ _ _ h] <;> rfl
end Args4
theorem pairsAt_of {w : World} {base n : Nat} {e : TypeId} {B : Option Addr} {d : Nat} {l : List (Int × Int)} (h : w.ownsRow base e 2 (.slice B n d) l.length (cellsOf l)) : PairsAt w B l := by
  obtain ⟨A, c, ee, hp⟩ := own_pairsAt h
  injection ee with e1 e2 e3
  subst e1
  exact hp

set_option maxRecDepth 100000 in
set_option maxHeartbeats 16000000 in
theorem walk_no0 (w : World) (x0 : Value) (t0 : Tm) (hx0 : TmIn w x0 t0) (hs0 : Short t0) (x1 : Value) (t1 : Tm) (hx1 : TmIn w x1 t1) (hs1 : Short t1) (hn0 : ¬ (cntT t0 : Int) ≤ 1048576) :
    Calls Tryz.prog 5 #[x0, x1] w fun e w' => e = .returned (.bool true) ∧ Below w.heap.size w w' := by
  obtain ⟨A0, c0, kv0, rfl, hp0, hk0⟩ := hx0
  obtain ⟨B0, d0, rfl⟩ := hk0.form
  have hsh0 := (short_eq t0).1 hs0
  obtain ⟨A1, c1, kv1, rfl, hp1, hk1⟩ := hx1
  obtain ⟨B1, d1, rfl⟩ := hk1.form
  have hsh1 := (short_eq t1).1 hs1
  have hb0 : Below w.heap.size w ((w.alloc (.cells #[.int .i64 t0.op, .int .i64 t0.num, .slice A0 t0.perm.length c0, .slice B0 t0.kids.length d0] 25)).alloc (.cells #[.int .i64 t1.op, .int .i64 t1.num, .slice A1 t1.perm.length c1, .slice B1 t1.kids.length d1] 25)) := (((Below.refl _ w).alloc (by first | exact Nat.le_refl _ | (simp; done) | (simp; omega)) _).alloc (by first | exact Nat.le_refl _ | (simp; done) | (simp; omega)) _)
  have HI0 : Hid (∀ w' : World, Below ((w.alloc (.cells #[.int .i64 t0.op, .int .i64 t0.num, .slice A0 t0.perm.length c0, .slice B0 t0.kids.length d0] 25)).alloc (.cells #[.int .i64 t1.op, .int .i64 t1.num, .slice A1 t1.perm.length c1, .slice B1 t1.kids.length d1] 25)).heap.size ((w.alloc (.cells #[.int .i64 t0.op, .int .i64 t0.num, .slice A0 t0.perm.length c0, .slice B0 t0.kids.length d0] 25)).alloc (.cells #[.int .i64 t1.op, .int .i64 t1.num, .slice A1 t1.perm.length c1, .slice B1 t1.kids.length d1] 25)) w' → TmIn w' (.agg #[.int .i64 t0.op, .int .i64 t0.num, .slice A0 t0.perm.length c0, .slice B0 t0.kids.length d0]) t0) := Lib.hid (fun w' h => ⟨A0, c0, _, rfl, hp0.below (hb0.trans (h.mono hb0.size)), hk0.below (hb0.trans (h.mono hb0.size))⟩)
  have HI1 : Hid (∀ w' : World, Below ((w.alloc (.cells #[.int .i64 t0.op, .int .i64 t0.num, .slice A0 t0.perm.length c0, .slice B0 t0.kids.length d0] 25)).alloc (.cells #[.int .i64 t1.op, .int .i64 t1.num, .slice A1 t1.perm.length c1, .slice B1 t1.kids.length d1] 25)).heap.size ((w.alloc (.cells #[.int .i64 t0.op, .int .i64 t0.num, .slice A0 t0.perm.length c0, .slice B0 t0.kids.length d0] 25)).alloc (.cells #[.int .i64 t1.op, .int .i64 t1.num, .slice A1 t1.perm.length c1, .slice B1 t1.kids.length d1] 25)) w' → TmIn w' (.agg #[.int .i64 t1.op, .int .i64 t1.num, .slice A1 t1.perm.length c1, .slice B1 t1.kids.length d1]) t1) := Lib.hid (fun w' h => ⟨A1, c1, _, rfl, hp1.below (hb0.trans (h.mono hb0.size)), hk1.below (hb0.trans (h.mono hb0.size))⟩)
  have kk0 : ((w.alloc (.cells #[.int .i64 t0.op, .int .i64 t0.num, .slice A0 t0.perm.length c0, .slice B0 t0.kids.length d0] 25)).alloc (.cells #[.int .i64 t1.op, .int .i64 t1.num, .slice A1 t1.perm.length c1, .slice B1 t1.kids.length d1] 25)).heap[w.heap.size]? = some (.cells #[.int .i64 t0.op, .int .i64 t0.num, .slice A0 t0.perm.length c0, .slice B0 t0.kids.length d0] 25 (0, 0)) := by
    have h := heap_alloc_new w (.cells #[.int .i64 t0.op, .int .i64 t0.num, .slice A0 t0.perm.length c0, .slice B0 t0.kids.length d0] 25)
    exact ((Below.heap_alloc _ _ _ (by first | (simp; done) | (simp; omega))).trans h)
  obtain ⟨b00, b01, b02, b03⟩ := Args4.row4 kk0
  have lt0 : w.heap.size < ((w.alloc (.cells #[.int .i64 t0.op, .int .i64 t0.num, .slice A0 t0.perm.length c0, .slice B0 t0.kids.length d0] 25)).alloc (.cells #[.int .i64 t1.op, .int .i64 t1.num, .slice A1 t1.perm.length c1, .slice B1 t1.kids.length d1] 25)).heap.size := by first | (simp; done) | (simp; omega)
  have kk1 : ((w.alloc (.cells #[.int .i64 t0.op, .int .i64 t0.num, .slice A0 t0.perm.length c0, .slice B0 t0.kids.length d0] 25)).alloc (.cells #[.int .i64 t1.op, .int .i64 t1.num, .slice A1 t1.perm.length c1, .slice B1 t1.kids.length d1] 25)).heap[w.heap.size + 1]? = some (.cells #[.int .i64 t1.op, .int .i64 t1.num, .slice A1 t1.perm.length c1, .slice B1 t1.kids.length d1] 25 (0, 0)) := by
    have h := heap_alloc_new (w.alloc (.cells #[.int .i64 t0.op, .int .i64 t0.num, .slice A0 t0.perm.length c0, .slice B0 t0.kids.length d0] 25)) (.cells #[.int .i64 t1.op, .int .i64 t1.num, .slice A1 t1.perm.length c1, .slice B1 t1.kids.length d1] 25)
    simp only [World.size_alloc] at h
    exact h
  obtain ⟨b10, b11, b12, b13⟩ := Args4.row4 kk1
  have lt1 : w.heap.size + 1 < ((w.alloc (.cells #[.int .i64 t0.op, .int .i64 t0.num, .slice A0 t0.perm.length c0, .slice B0 t0.kids.length d0] 25)).alloc (.cells #[.int .i64 t1.op, .int .i64 t1.num, .slice A1 t1.perm.length c1, .slice B1 t1.kids.length d1] 25)).heap.size := by first | (simp; done) | (simp; omega)
  have HB0 : Hid (∀ w' : World, Below ((w.alloc (.cells #[.int .i64 t0.op, .int .i64 t0.num, .slice A0 t0.perm.length c0, .slice B0 t0.kids.length d0] 25)).alloc (.cells #[.int .i64 t1.op, .int .i64 t1.num, .slice A1 t1.perm.length c1, .slice B1 t1.kids.length d1] 25)).heap.size ((w.alloc (.cells #[.int .i64 t0.op, .int .i64 t0.num, .slice A0 t0.perm.length c0, .slice B0 t0.kids.length d0] 25)).alloc (.cells #[.int .i64 t1.op, .int .i64 t1.num, .slice A1 t1.perm.length c1, .slice B1 t1.kids.length d1] 25)) w' → w'.cell? ⟨w.heap.size, 0, none⟩ = some (.int .i64 t0.op) ∧ w'.cell? ⟨w.heap.size, 1, none⟩ = some (.int .i64 t0.num) ∧ w'.cell? ⟨w.heap.size, 2, none⟩ = some (.slice A0 t0.perm.length c0) ∧ w'.cell? ⟨w.heap.size, 3, none⟩ = some (.slice B0 t0.kids.length d0)) := Lib.hid (fun w' h => ⟨(h.cell (p := ⟨w.heap.size, 0, none⟩) lt0).trans b00, (h.cell (p := ⟨w.heap.size, 1, none⟩) lt0).trans b01, (h.cell (p := ⟨w.heap.size, 2, none⟩) lt0).trans b02, (h.cell (p := ⟨w.heap.size, 3, none⟩) lt0).trans b03⟩)
  have HB1 : Hid (∀ w' : World, Below ((w.alloc (.cells #[.int .i64 t0.op, .int .i64 t0.num, .slice A0 t0.perm.length c0, .slice B0 t0.kids.length d0] 25)).alloc (.cells #[.int .i64 t1.op, .int .i64 t1.num, .slice A1 t1.perm.length c1, .slice B1 t1.kids.length d1] 25)).heap.size ((w.alloc (.cells #[.int .i64 t0.op, .int .i64 t0.num, .slice A0 t0.perm.length c0, .slice B0 t0.kids.length d0] 25)).alloc (.cells #[.int .i64 t1.op, .int .i64 t1.num, .slice A1 t1.perm.length c1, .slice B1 t1.kids.length d1] 25)) w' → w'.cell? ⟨w.heap.size + 1, 0, none⟩ = some (.int .i64 t1.op) ∧ w'.cell? ⟨w.heap.size + 1, 1, none⟩ = some (.int .i64 t1.num) ∧ w'.cell? ⟨w.heap.size + 1, 2, none⟩ = some (.slice A1 t1.perm.length c1) ∧ w'.cell? ⟨w.heap.size + 1, 3, none⟩ = some (.slice B1 t1.kids.length d1)) := Lib.hid (fun w' h => ⟨(h.cell (p := ⟨w.heap.size + 1, 0, none⟩) lt1).trans b10, (h.cell (p := ⟨w.heap.size + 1, 1, none⟩) lt1).trans b11, (h.cell (p := ⟨w.heap.size + 1, 2, none⟩) lt1).trans b12, (h.cell (p := ⟨w.heap.size + 1, 3, none⟩) lt1).trans b13⟩)
  clear hp0 hk0 hs0 kk0 lt0 hp1 hk1 hs1 kk1 lt1
  have HC0 : Hid (Below ((w.alloc (.cells #[.int .i64 t0.op, .int .i64 t0.num, .slice A0 t0.perm.length c0, .slice B0 t0.kids.length d0] 25)).alloc (.cells #[.int .i64 t1.op, .int .i64 t1.num, .slice A1 t1.perm.length c1, .slice B1 t1.kids.length d1] 25)).heap.size ((w.alloc (.cells #[.int .i64 t0.op, .int .i64 t0.num, .slice A0 t0.perm.length c0, .slice B0 t0.kids.length d0] 25)).alloc (.cells #[.int .i64 t1.op, .int .i64 t1.num, .slice A1 t1.perm.length c1, .slice B1 t1.kids.length d1] 25)) ((w.alloc (.cells #[.int .i64 t0.op, .int .i64 t0.num, .slice A0 t0.perm.length c0, .slice B0 t0.kids.length d0] 25)).alloc (.cells #[.int .i64 t1.op, .int .i64 t1.num, .slice A1 t1.perm.length c1, .slice B1 t1.kids.length d1] 25))) := Lib.hid (Below.refl _ _)
  have HW0 := Lib.hid hb0
  clear hb0
  go_enter Tryz.func5, Tryz.ntmps5
  have hsz := szTerm_of t0 _ _ (1048576) (by omega) (by omega) (HI0.out ((w.alloc (.cells #[.int .i64 t0.op, .int .i64 t0.num, .slice A0 t0.perm.length c0, .slice B0 t0.kids.length d0] 25)).alloc (.cells #[.int .i64 t1.op, .int .i64 t1.num, .slice A1 t1.perm.length c1, .slice B1 t1.kids.length d1] 25)) HC0.out) hsh0.1 fun l' w' y g0 g1 hy => szTermS_any _ t0.kids (Nat.le_refl _) hsh0.2.2 hsh0.2.1 l' w' y g0 g1 hy
  unfold LeftPost at hsz
  rw [leftR_no (by omega)] at hsz
  go_wp2_with fail
  refine hsz.mono ?_
  rintro e u1 ⟨rfl, hb⟩
  clear hsz b00 b01 b02 b03 b10 b11 b12 b13
  have s2 : ((w.alloc (.cells #[.int .i64 t0.op, .int .i64 t0.num, .slice A0 t0.perm.length c0, .slice B0 t0.kids.length d0] 25)).alloc (.cells #[.int .i64 t1.op, .int .i64 t1.num, .slice A1 t1.perm.length c1, .slice B1 t1.kids.length d1] 25)).heap.size ≤ u1.heap.size := hb.size
  have HC2 := Lib.hid (HC0.out.trans (hb.mono HC0.out.size))
  clear hb HC0
  have hfin := HW0.out.trans (HC2.out.mono HW0.out.size)
  go_wp2
  go_ret
  exact ⟨rfl, hfin⟩

set_option maxRecDepth 100000 in
set_option maxHeartbeats 16000000 in
theorem walk_no1 (w : World) (x0 : Value) (t0 : Tm) (hx0 : TmIn w x0 t0) (hs0 : Short t0) (x1 : Value) (t1 : Tm) (hx1 : TmIn w x1 t1) (hs1 : Short t1) (hn0 : (cntT t0 : Int) ≤ 1048576) (hn1 : ¬ (cntT t1 : Int) ≤ 1048576 - (cntT t0 : Int)) :
    Calls Tryz.prog 5 #[x0, x1] w fun e w' => e = .returned (.bool true) ∧ Below w.heap.size w w' := by
  obtain ⟨A0, c0, kv0, rfl, hp0, hk0⟩ := hx0
  obtain ⟨B0, d0, rfl⟩ := hk0.form
  have hsh0 := (short_eq t0).1 hs0
  obtain ⟨A1, c1, kv1, rfl, hp1, hk1⟩ := hx1
  obtain ⟨B1, d1, rfl⟩ := hk1.form
  have hsh1 := (short_eq t1).1 hs1
  have hb0 : Below w.heap.size w ((w.alloc (.cells #[.int .i64 t0.op, .int .i64 t0.num, .slice A0 t0.perm.length c0, .slice B0 t0.kids.length d0] 25)).alloc (.cells #[.int .i64 t1.op, .int .i64 t1.num, .slice A1 t1.perm.length c1, .slice B1 t1.kids.length d1] 25)) := (((Below.refl _ w).alloc (by first | exact Nat.le_refl _ | (simp; done) | (simp; omega)) _).alloc (by first | exact Nat.le_refl _ | (simp; done) | (simp; omega)) _)
  have HI0 : Hid (∀ w' : World, Below ((w.alloc (.cells #[.int .i64 t0.op, .int .i64 t0.num, .slice A0 t0.perm.length c0, .slice B0 t0.kids.length d0] 25)).alloc (.cells #[.int .i64 t1.op, .int .i64 t1.num, .slice A1 t1.perm.length c1, .slice B1 t1.kids.length d1] 25)).heap.size ((w.alloc (.cells #[.int .i64 t0.op, .int .i64 t0.num, .slice A0 t0.perm.length c0, .slice B0 t0.kids.length d0] 25)).alloc (.cells #[.int .i64 t1.op, .int .i64 t1.num, .slice A1 t1.perm.length c1, .slice B1 t1.kids.length d1] 25)) w' → TmIn w' (.agg #[.int .i64 t0.op, .int .i64 t0.num, .slice A0 t0.perm.length c0, .slice B0 t0.kids.length d0]) t0) := Lib.hid (fun w' h => ⟨A0, c0, _, rfl, hp0.below (hb0.trans (h.mono hb0.size)), hk0.below (hb0.trans (h.mono hb0.size))⟩)
  have HI1 : Hid (∀ w' : World, Below ((w.alloc (.cells #[.int .i64 t0.op, .int .i64 t0.num, .slice A0 t0.perm.length c0, .slice B0 t0.kids.length d0] 25)).alloc (.cells #[.int .i64 t1.op, .int .i64 t1.num, .slice A1 t1.perm.length c1, .slice B1 t1.kids.length d1] 25)).heap.size ((w.alloc (.cells #[.int .i64 t0.op, .int .i64 t0.num, .slice A0 t0.perm.length c0, .slice B0 t0.kids.length d0] 25)).alloc (.cells #[.int .i64 t1.op, .int .i64 t1.num, .slice A1 t1.perm.length c1, .slice B1 t1.kids.length d1] 25)) w' → TmIn w' (.agg #[.int .i64 t1.op, .int .i64 t1.num, .slice A1 t1.perm.length c1, .slice B1 t1.kids.length d1]) t1) := Lib.hid (fun w' h => ⟨A1, c1, _, rfl, hp1.below (hb0.trans (h.mono hb0.size)), hk1.below (hb0.trans (h.mono hb0.size))⟩)
  have kk0 : ((w.alloc (.cells #[.int .i64 t0.op, .int .i64 t0.num, .slice A0 t0.perm.length c0, .slice B0 t0.kids.length d0] 25)).alloc (.cells #[.int .i64 t1.op, .int .i64 t1.num, .slice A1 t1.perm.length c1, .slice B1 t1.kids.length d1] 25)).heap[w.heap.size]? = some (.cells #[.int .i64 t0.op, .int .i64 t0.num, .slice A0 t0.perm.length c0, .slice B0 t0.kids.length d0] 25 (0, 0)) := by
    have h := heap_alloc_new w (.cells #[.int .i64 t0.op, .int .i64 t0.num, .slice A0 t0.perm.length c0, .slice B0 t0.kids.length d0] 25)
    exact ((Below.heap_alloc _ _ _ (by first | (simp; done) | (simp; omega))).trans h)
  obtain ⟨b00, b01, b02, b03⟩ := Args4.row4 kk0
  have lt0 : w.heap.size < ((w.alloc (.cells #[.int .i64 t0.op, .int .i64 t0.num, .slice A0 t0.perm.length c0, .slice B0 t0.kids.length d0] 25)).alloc (.cells #[.int .i64 t1.op, .int .i64 t1.num, .slice A1 t1.perm.length c1, .slice B1 t1.kids.length d1] 25)).heap.size := by first | (simp; done) | (simp; omega)
  have kk1 : ((w.alloc (.cells #[.int .i64 t0.op, .int .i64 t0.num, .slice A0 t0.perm.length c0, .slice B0 t0.kids.length d0] 25)).alloc (.cells #[.int .i64 t1.op, .int .i64 t1.num, .slice A1 t1.perm.length c1, .slice B1 t1.kids.length d1] 25)).heap[w.heap.size + 1]? = some (.cells #[.int .i64 t1.op, .int .i64 t1.num, .slice A1 t1.perm.length c1, .slice B1 t1.kids.length d1] 25 (0, 0)) := by
    have h := heap_alloc_new (w.alloc (.cells #[.int .i64 t0.op, .int .i64 t0.num, .slice A0 t0.perm.length c0, .slice B0 t0.kids.length d0] 25)) (.cells #[.int .i64 t1.op, .int .i64 t1.num, .slice A1 t1.perm.length c1, .slice B1 t1.kids.length d1] 25)
    simp only [World.size_alloc] at h
    exact h
  obtain ⟨b10, b11, b12, b13⟩ := Args4.row4 kk1
  have lt1 : w.heap.size + 1 < ((w.alloc (.cells #[.int .i64 t0.op, .int .i64 t0.num, .slice A0 t0.perm.length c0, .slice B0 t0.kids.length d0] 25)).alloc (.cells #[.int .i64 t1.op, .int .i64 t1.num, .slice A1 t1.perm.length c1, .slice B1 t1.kids.length d1] 25)).heap.size := by first | (simp; done) | (simp; omega)
  have HB0 : Hid (∀ w' : World, Below ((w.alloc (.cells #[.int .i64 t0.op, .int .i64 t0.num, .slice A0 t0.perm.length c0, .slice B0 t0.kids.length d0] 25)).alloc (.cells #[.int .i64 t1.op, .int .i64 t1.num, .slice A1 t1.perm.length c1, .slice B1 t1.kids.length d1] 25)).heap.size ((w.alloc (.cells #[.int .i64 t0.op, .int .i64 t0.num, .slice A0 t0.perm.length c0, .slice B0 t0.kids.length d0] 25)).alloc (.cells #[.int .i64 t1.op, .int .i64 t1.num, .slice A1 t1.perm.length c1, .slice B1 t1.kids.length d1] 25)) w' → w'.cell? ⟨w.heap.size, 0, none⟩ = some (.int .i64 t0.op) ∧ w'.cell? ⟨w.heap.size, 1, none⟩ = some (.int .i64 t0.num) ∧ w'.cell? ⟨w.heap.size, 2, none⟩ = some (.slice A0 t0.perm.length c0) ∧ w'.cell? ⟨w.heap.size, 3, none⟩ = some (.slice B0 t0.kids.length d0)) := Lib.hid (fun w' h => ⟨(h.cell (p := ⟨w.heap.size, 0, none⟩) lt0).trans b00, (h.cell (p := ⟨w.heap.size, 1, none⟩) lt0).trans b01, (h.cell (p := ⟨w.heap.size, 2, none⟩) lt0).trans b02, (h.cell (p := ⟨w.heap.size, 3, none⟩) lt0).trans b03⟩)
  have HB1 : Hid (∀ w' : World, Below ((w.alloc (.cells #[.int .i64 t0.op, .int .i64 t0.num, .slice A0 t0.perm.length c0, .slice B0 t0.kids.length d0] 25)).alloc (.cells #[.int .i64 t1.op, .int .i64 t1.num, .slice A1 t1.perm.length c1, .slice B1 t1.kids.length d1] 25)).heap.size ((w.alloc (.cells #[.int .i64 t0.op, .int .i64 t0.num, .slice A0 t0.perm.length c0, .slice B0 t0.kids.length d0] 25)).alloc (.cells #[.int .i64 t1.op, .int .i64 t1.num, .slice A1 t1.perm.length c1, .slice B1 t1.kids.length d1] 25)) w' → w'.cell? ⟨w.heap.size + 1, 0, none⟩ = some (.int .i64 t1.op) ∧ w'.cell? ⟨w.heap.size + 1, 1, none⟩ = some (.int .i64 t1.num) ∧ w'.cell? ⟨w.heap.size + 1, 2, none⟩ = some (.slice A1 t1.perm.length c1) ∧ w'.cell? ⟨w.heap.size + 1, 3, none⟩ = some (.slice B1 t1.kids.length d1)) := Lib.hid (fun w' h => ⟨(h.cell (p := ⟨w.heap.size + 1, 0, none⟩) lt1).trans b10, (h.cell (p := ⟨w.heap.size + 1, 1, none⟩) lt1).trans b11, (h.cell (p := ⟨w.heap.size + 1, 2, none⟩) lt1).trans b12, (h.cell (p := ⟨w.heap.size + 1, 3, none⟩) lt1).trans b13⟩)
  clear hp0 hk0 hs0 kk0 lt0 hp1 hk1 hs1 kk1 lt1
  have HC0 : Hid (Below ((w.alloc (.cells #[.int .i64 t0.op, .int .i64 t0.num, .slice A0 t0.perm.length c0, .slice B0 t0.kids.length d0] 25)).alloc (.cells #[.int .i64 t1.op, .int .i64 t1.num, .slice A1 t1.perm.length c1, .slice B1 t1.kids.length d1] 25)).heap.size ((w.alloc (.cells #[.int .i64 t0.op, .int .i64 t0.num, .slice A0 t0.perm.length c0, .slice B0 t0.kids.length d0] 25)).alloc (.cells #[.int .i64 t1.op, .int .i64 t1.num, .slice A1 t1.perm.length c1, .slice B1 t1.kids.length d1] 25)) ((w.alloc (.cells #[.int .i64 t0.op, .int .i64 t0.num, .slice A0 t0.perm.length c0, .slice B0 t0.kids.length d0] 25)).alloc (.cells #[.int .i64 t1.op, .int .i64 t1.num, .slice A1 t1.perm.length c1, .slice B1 t1.kids.length d1] 25))) := Lib.hid (Below.refl _ _)
  have HW0 := Lib.hid hb0
  clear hb0
  go_enter Tryz.func5, Tryz.ntmps5
  have hsz := szTerm_of t0 _ _ (1048576) (by omega) (by omega) (HI0.out ((w.alloc (.cells #[.int .i64 t0.op, .int .i64 t0.num, .slice A0 t0.perm.length c0, .slice B0 t0.kids.length d0] 25)).alloc (.cells #[.int .i64 t1.op, .int .i64 t1.num, .slice A1 t1.perm.length c1, .slice B1 t1.kids.length d1] 25)) HC0.out) hsh0.1 fun l' w' y g0 g1 hy => szTermS_any _ t0.kids (Nat.le_refl _) hsh0.2.2 hsh0.2.1 l' w' y g0 g1 hy
  unfold LeftPost at hsz
  rw [leftR_yes hn0] at hsz
  have hleft0 : ¬ 1048576 - (cntT t0 : Int) < 0 := by omega
  go_wp2_with fail
  refine hsz.mono ?_
  rintro e u1 ⟨rfl, hb⟩
  clear hsz b00 b01 b02 b03 b10 b11 b12 b13
  have s2 : ((w.alloc (.cells #[.int .i64 t0.op, .int .i64 t0.num, .slice A0 t0.perm.length c0, .slice B0 t0.kids.length d0] 25)).alloc (.cells #[.int .i64 t1.op, .int .i64 t1.num, .slice A1 t1.perm.length c1, .slice B1 t1.kids.length d1] 25)).heap.size ≤ u1.heap.size := hb.size
  have HC2 := Lib.hid (HC0.out.trans (hb.mono HC0.out.size))
  clear hb HC0
  obtain ⟨b10, b11, b12, b13⟩ := HB1.out u1 HC2.out
  have hsz := szTerm_of t1 _ _ (1048576 - (cntT t0 : Int)) (by omega) (by omega) (HI1.out u1 HC2.out) hsh1.1 fun l' w' y g0 g1 hy => szTermS_any _ t1.kids (Nat.le_refl _) hsh1.2.2 hsh1.2.1 l' w' y g0 g1 hy
  unfold LeftPost at hsz
  rw [leftR_no (by omega)] at hsz
  go_wp2_with fail
  refine hsz.mono ?_
  rintro e u3 ⟨rfl, hb⟩
  clear hsz b10 b11 b12 b13
  have s4 : u1.heap.size ≤ u3.heap.size := hb.size
  have HC4 := Lib.hid (HC2.out.trans (hb.mono HC2.out.size))
  clear hb HC2
  have hfin := HW0.out.trans (HC4.out.mono HW0.out.size)
  go_wp2
  go_ret
  exact ⟨rfl, hfin⟩

set_option maxRecDepth 100000 in
set_option maxHeartbeats 16000000 in
theorem walk_yes (w : World) (x0 : Value) (t0 : Tm) (hx0 : TmIn w x0 t0) (hs0 : Short t0) (x1 : Value) (t1 : Tm) (hx1 : TmIn w x1 t1) (hs1 : Short t1) (hn0 : (cntT t0 : Int) ≤ 1048576) (hn1 : (cntT t1 : Int) ≤ 1048576 - (cntT t0 : Int)) :
    Calls Tryz.prog 5 #[x0, x1] w fun e w' => e = .returned (.bool true) ∧ Below w.heap.size w w' := by
  have HN0 : Hid (cntT t0 ≤ 1048576) := Lib.hid (by omega)
  have HF0 := Lib.hid (fit_of t0 HN0.out)
  have hmk0 : t0.perm.length * 2 + mcTs t0.kids ≤ 2097152 := by
    have h1 := mcTs_le t0.kids
    have h2 := cntT_eq t0
    omega
  have HN1 : Hid (cntT t1 ≤ 1048576) := Lib.hid (by omega)
  have HF1 := Lib.hid (fit_of t1 HN1.out)
  have hmk1 : t1.perm.length * 2 + mcTs t1.kids ≤ 2097152 := by
    have h1 := mcTs_le t1.kids
    have h2 := cntT_eq t1
    omega
  have hLL : (eqnL t0 t1).length ≤ 2097152 := by have := eqnL_len t0 t1; omega
  generalize hL : eqnL t0 t1 = L at hLL
  have HL := Lib.hid hL
  clear hL
  generalize hFF : eqnB t0 t1 = fl
  have HFL := Lib.hid hFF
  have hfl : (fl != fl) = false := by simp
  clear hFF
  obtain ⟨A0, c0, kv0, rfl, hp0, hk0⟩ := hx0
  obtain ⟨B0, d0, rfl⟩ := hk0.form
  have hsh0 := (short_eq t0).1 hs0
  obtain ⟨A1, c1, kv1, rfl, hp1, hk1⟩ := hx1
  obtain ⟨B1, d1, rfl⟩ := hk1.form
  have hsh1 := (short_eq t1).1 hs1
  have hb0 : Below w.heap.size w ((w.alloc (.cells #[.int .i64 t0.op, .int .i64 t0.num, .slice A0 t0.perm.length c0, .slice B0 t0.kids.length d0] 25)).alloc (.cells #[.int .i64 t1.op, .int .i64 t1.num, .slice A1 t1.perm.length c1, .slice B1 t1.kids.length d1] 25)) := (((Below.refl _ w).alloc (by first | exact Nat.le_refl _ | (simp; done) | (simp; omega)) _).alloc (by first | exact Nat.le_refl _ | (simp; done) | (simp; omega)) _)
  have HI0 : Hid (∀ w' : World, Below ((w.alloc (.cells #[.int .i64 t0.op, .int .i64 t0.num, .slice A0 t0.perm.length c0, .slice B0 t0.kids.length d0] 25)).alloc (.cells #[.int .i64 t1.op, .int .i64 t1.num, .slice A1 t1.perm.length c1, .slice B1 t1.kids.length d1] 25)).heap.size ((w.alloc (.cells #[.int .i64 t0.op, .int .i64 t0.num, .slice A0 t0.perm.length c0, .slice B0 t0.kids.length d0] 25)).alloc (.cells #[.int .i64 t1.op, .int .i64 t1.num, .slice A1 t1.perm.length c1, .slice B1 t1.kids.length d1] 25)) w' → TmIn w' (.agg #[.int .i64 t0.op, .int .i64 t0.num, .slice A0 t0.perm.length c0, .slice B0 t0.kids.length d0]) t0) := Lib.hid (fun w' h => ⟨A0, c0, _, rfl, hp0.below (hb0.trans (h.mono hb0.size)), hk0.below (hb0.trans (h.mono hb0.size))⟩)
  have HI1 : Hid (∀ w' : World, Below ((w.alloc (.cells #[.int .i64 t0.op, .int .i64 t0.num, .slice A0 t0.perm.length c0, .slice B0 t0.kids.length d0] 25)).alloc (.cells #[.int .i64 t1.op, .int .i64 t1.num, .slice A1 t1.perm.length c1, .slice B1 t1.kids.length d1] 25)).heap.size ((w.alloc (.cells #[.int .i64 t0.op, .int .i64 t0.num, .slice A0 t0.perm.length c0, .slice B0 t0.kids.length d0] 25)).alloc (.cells #[.int .i64 t1.op, .int .i64 t1.num, .slice A1 t1.perm.length c1, .slice B1 t1.kids.length d1] 25)) w' → TmIn w' (.agg #[.int .i64 t1.op, .int .i64 t1.num, .slice A1 t1.perm.length c1, .slice B1 t1.kids.length d1]) t1) := Lib.hid (fun w' h => ⟨A1, c1, _, rfl, hp1.below (hb0.trans (h.mono hb0.size)), hk1.below (hb0.trans (h.mono hb0.size))⟩)
  have kk0 : ((w.alloc (.cells #[.int .i64 t0.op, .int .i64 t0.num, .slice A0 t0.perm.length c0, .slice B0 t0.kids.length d0] 25)).alloc (.cells #[.int .i64 t1.op, .int .i64 t1.num, .slice A1 t1.perm.length c1, .slice B1 t1.kids.length d1] 25)).heap[w.heap.size]? = some (.cells #[.int .i64 t0.op, .int .i64 t0.num, .slice A0 t0.perm.length c0, .slice B0 t0.kids.length d0] 25 (0, 0)) := by
    have h := heap_alloc_new w (.cells #[.int .i64 t0.op, .int .i64 t0.num, .slice A0 t0.perm.length c0, .slice B0 t0.kids.length d0] 25)
    exact ((Below.heap_alloc _ _ _ (by first | (simp; done) | (simp; omega))).trans h)
  obtain ⟨b00, b01, b02, b03⟩ := Args4.row4 kk0
  have lt0 : w.heap.size < ((w.alloc (.cells #[.int .i64 t0.op, .int .i64 t0.num, .slice A0 t0.perm.length c0, .slice B0 t0.kids.length d0] 25)).alloc (.cells #[.int .i64 t1.op, .int .i64 t1.num, .slice A1 t1.perm.length c1, .slice B1 t1.kids.length d1] 25)).heap.size := by first | (simp; done) | (simp; omega)
  have kk1 : ((w.alloc (.cells #[.int .i64 t0.op, .int .i64 t0.num, .slice A0 t0.perm.length c0, .slice B0 t0.kids.length d0] 25)).alloc (.cells #[.int .i64 t1.op, .int .i64 t1.num, .slice A1 t1.perm.length c1, .slice B1 t1.kids.length d1] 25)).heap[w.heap.size + 1]? = some (.cells #[.int .i64 t1.op, .int .i64 t1.num, .slice A1 t1.perm.length c1, .slice B1 t1.kids.length d1] 25 (0, 0)) := by
    have h := heap_alloc_new (w.alloc (.cells #[.int .i64 t0.op, .int .i64 t0.num, .slice A0 t0.perm.length c0, .slice B0 t0.kids.length d0] 25)) (.cells #[.int .i64 t1.op, .int .i64 t1.num, .slice A1 t1.perm.length c1, .slice B1 t1.kids.length d1] 25)
    simp only [World.size_alloc] at h
    exact h
  obtain ⟨b10, b11, b12, b13⟩ := Args4.row4 kk1
  have lt1 : w.heap.size + 1 < ((w.alloc (.cells #[.int .i64 t0.op, .int .i64 t0.num, .slice A0 t0.perm.length c0, .slice B0 t0.kids.length d0] 25)).alloc (.cells #[.int .i64 t1.op, .int .i64 t1.num, .slice A1 t1.perm.length c1, .slice B1 t1.kids.length d1] 25)).heap.size := by first | (simp; done) | (simp; omega)
  have HB0 : Hid (∀ w' : World, Below ((w.alloc (.cells #[.int .i64 t0.op, .int .i64 t0.num, .slice A0 t0.perm.length c0, .slice B0 t0.kids.length d0] 25)).alloc (.cells #[.int .i64 t1.op, .int .i64 t1.num, .slice A1 t1.perm.length c1, .slice B1 t1.kids.length d1] 25)).heap.size ((w.alloc (.cells #[.int .i64 t0.op, .int .i64 t0.num, .slice A0 t0.perm.length c0, .slice B0 t0.kids.length d0] 25)).alloc (.cells #[.int .i64 t1.op, .int .i64 t1.num, .slice A1 t1.perm.length c1, .slice B1 t1.kids.length d1] 25)) w' → w'.cell? ⟨w.heap.size, 0, none⟩ = some (.int .i64 t0.op) ∧ w'.cell? ⟨w.heap.size, 1, none⟩ = some (.int .i64 t0.num) ∧ w'.cell? ⟨w.heap.size, 2, none⟩ = some (.slice A0 t0.perm.length c0) ∧ w'.cell? ⟨w.heap.size, 3, none⟩ = some (.slice B0 t0.kids.length d0)) := Lib.hid (fun w' h => ⟨(h.cell (p := ⟨w.heap.size, 0, none⟩) lt0).trans b00, (h.cell (p := ⟨w.heap.size, 1, none⟩) lt0).trans b01, (h.cell (p := ⟨w.heap.size, 2, none⟩) lt0).trans b02, (h.cell (p := ⟨w.heap.size, 3, none⟩) lt0).trans b03⟩)
  have HB1 : Hid (∀ w' : World, Below ((w.alloc (.cells #[.int .i64 t0.op, .int .i64 t0.num, .slice A0 t0.perm.length c0, .slice B0 t0.kids.length d0] 25)).alloc (.cells #[.int .i64 t1.op, .int .i64 t1.num, .slice A1 t1.perm.length c1, .slice B1 t1.kids.length d1] 25)).heap.size ((w.alloc (.cells #[.int .i64 t0.op, .int .i64 t0.num, .slice A0 t0.perm.length c0, .slice B0 t0.kids.length d0] 25)).alloc (.cells #[.int .i64 t1.op, .int .i64 t1.num, .slice A1 t1.perm.length c1, .slice B1 t1.kids.length d1] 25)) w' → w'.cell? ⟨w.heap.size + 1, 0, none⟩ = some (.int .i64 t1.op) ∧ w'.cell? ⟨w.heap.size + 1, 1, none⟩ = some (.int .i64 t1.num) ∧ w'.cell? ⟨w.heap.size + 1, 2, none⟩ = some (.slice A1 t1.perm.length c1) ∧ w'.cell? ⟨w.heap.size + 1, 3, none⟩ = some (.slice B1 t1.kids.length d1)) := Lib.hid (fun w' h => ⟨(h.cell (p := ⟨w.heap.size + 1, 0, none⟩) lt1).trans b10, (h.cell (p := ⟨w.heap.size + 1, 1, none⟩) lt1).trans b11, (h.cell (p := ⟨w.heap.size + 1, 2, none⟩) lt1).trans b12, (h.cell (p := ⟨w.heap.size + 1, 3, none⟩) lt1).trans b13⟩)
  clear hp0 hk0 hs0 kk0 lt0 hp1 hk1 hs1 kk1 lt1
  have HC0 : Hid (Below ((w.alloc (.cells #[.int .i64 t0.op, .int .i64 t0.num, .slice A0 t0.perm.length c0, .slice B0 t0.kids.length d0] 25)).alloc (.cells #[.int .i64 t1.op, .int .i64 t1.num, .slice A1 t1.perm.length c1, .slice B1 t1.kids.length d1] 25)).heap.size ((w.alloc (.cells #[.int .i64 t0.op, .int .i64 t0.num, .slice A0 t0.perm.length c0, .slice B0 t0.kids.length d0] 25)).alloc (.cells #[.int .i64 t1.op, .int .i64 t1.num, .slice A1 t1.perm.length c1, .slice B1 t1.kids.length d1] 25)) ((w.alloc (.cells #[.int .i64 t0.op, .int .i64 t0.num, .slice A0 t0.perm.length c0, .slice B0 t0.kids.length d0] 25)).alloc (.cells #[.int .i64 t1.op, .int .i64 t1.num, .slice A1 t1.perm.length c1, .slice B1 t1.kids.length d1] 25))) := Lib.hid (Below.refl _ _)
  have HW0 := Lib.hid hb0
  clear hb0
  go_enter Tryz.func5, Tryz.ntmps5
  have hsz := szTerm_of t0 _ _ (1048576) (by omega) (by omega) (HI0.out ((w.alloc (.cells #[.int .i64 t0.op, .int .i64 t0.num, .slice A0 t0.perm.length c0, .slice B0 t0.kids.length d0] 25)).alloc (.cells #[.int .i64 t1.op, .int .i64 t1.num, .slice A1 t1.perm.length c1, .slice B1 t1.kids.length d1] 25)) HC0.out) hsh0.1 fun l' w' y g0 g1 hy => szTermS_any _ t0.kids (Nat.le_refl _) hsh0.2.2 hsh0.2.1 l' w' y g0 g1 hy
  unfold LeftPost at hsz
  rw [leftR_yes hn0] at hsz
  have hleft0 : ¬ 1048576 - (cntT t0 : Int) < 0 := by omega
  go_wp2_with fail
  refine hsz.mono ?_
  rintro e u1 ⟨rfl, hb⟩
  clear hsz b00 b01 b02 b03 b10 b11 b12 b13
  have s2 : ((w.alloc (.cells #[.int .i64 t0.op, .int .i64 t0.num, .slice A0 t0.perm.length c0, .slice B0 t0.kids.length d0] 25)).alloc (.cells #[.int .i64 t1.op, .int .i64 t1.num, .slice A1 t1.perm.length c1, .slice B1 t1.kids.length d1] 25)).heap.size ≤ u1.heap.size := hb.size
  have HC2 := Lib.hid (HC0.out.trans (hb.mono HC0.out.size))
  clear hb HC0
  obtain ⟨b10, b11, b12, b13⟩ := HB1.out u1 HC2.out
  have hsz := szTerm_of t1 _ _ (1048576 - (cntT t0 : Int)) (by omega) (by omega) (HI1.out u1 HC2.out) hsh1.1 fun l' w' y g0 g1 hy => szTermS_any _ t1.kids (Nat.le_refl _) hsh1.2.2 hsh1.2.1 l' w' y g0 g1 hy
  unfold LeftPost at hsz
  rw [leftR_yes hn1] at hsz
  have hleft1 : ¬ 1048576 - (cntT t0 : Int) - (cntT t1 : Int) < 0 := by omega
  go_wp2_with fail
  refine hsz.mono ?_
  rintro e u3 ⟨rfl, hb⟩
  clear hsz b10 b11 b12 b13
  have s4 : u1.heap.size ≤ u3.heap.size := hb.size
  have HC4 := Lib.hid (HC2.out.trans (hb.mono HC2.out.size))
  clear hb HC2
  have HZ : Hid (((w.alloc (.cells #[.int .i64 t0.op, .int .i64 t0.num, .slice A0 t0.perm.length c0, .slice B0 t0.kids.length d0] 25)).alloc (.cells #[.int .i64 t1.op, .int .i64 t1.num, .slice A1 t1.perm.length c1, .slice B1 t1.kids.length d1] 25)).heap.size ≤ u3.heap.size) := Lib.hid HC4.out.size
  have hdw : Below u3.heap.size u3 u3.drew := ⟨rfl, rfl, rfl, Nat.le_refl _, fun _ _ => rfl⟩
  have s5 : u3.heap.size ≤ u3.drew.heap.size := hdw.size
  have HC5 := Lib.hid (HC4.out.trans (hdw.mono HC4.out.size))
  clear hdw HC4
  have HS := HC5
  obtain ⟨b00, b01, b02, b03⟩ := HB0.out u3.drew HC5.out
  obtain ⟨b10, b11, b12, b13⟩ := HB1.out u3.drew HC5.out
  have hto0 := toTerm_any t0 HF0.out u3.drew _ (HI0.out u3.drew HS.out)
  go_wp2
  go_region_held3 (fun w' => w'.cell? ⟨w.heap.size, 0, none⟩ = some (.int .i64 t0.op) ∧ w'.cell? ⟨w.heap.size, 1, none⟩ = some (.int .i64 t0.num) ∧ w'.cell? ⟨w.heap.size, 2, none⟩ = some (.slice A0 t0.perm.length c0) ∧ w'.cell? ⟨w.heap.size, 3, none⟩ = some (.slice B0 t0.kids.length d0) ∧ w'.cell? ⟨w.heap.size + 1, 0, none⟩ = some (.int .i64 t1.op) ∧ w'.cell? ⟨w.heap.size + 1, 1, none⟩ = some (.int .i64 t1.num) ∧ w'.cell? ⟨w.heap.size + 1, 2, none⟩ = some (.slice A1 t1.perm.length c1) ∧ w'.cell? ⟨w.heap.size + 1, 3, none⟩ = some (.slice B1 t1.kids.length d1))
    (first | (with_reducible exact ⟨by assumption, by assumption, by assumption, by assumption, by assumption, by assumption, by assumption, by assumption⟩) | ((try dsimp only); exact ⟨by assumption, by assumption, by assumption, by assumption, by assumption, by assumption, by assumption, by assumption⟩) | go_keep)
    (first
      | (go_at_call_of 13 A0; refine hto0.mono ?_; rintro e w6 ⟨P0, q0, K0, r0, S0, rfl, hL0, _, hb0⟩; have hc0 := HS.out.trans (hb0.mono HS.out.size); have hin0 := tmOut_in hL0; obtain ⟨e000, e001, e002, e003⟩ := HB0.out w6 hc0; obtain ⟨e010, e011, e012, e013⟩ := HB1.out w6 hc0; have hto1 := toTerm_any t1 HF1.out w6 _ (HI1.out w6 hc0))
      | (go_at_call_of 13 A1; refine hto1.mono ?_; rintro e w7 ⟨P1, q1, K1, r1, S1, rfl, hL1, _, hb1⟩; have hc1 := hc0.trans (hb1.mono hc0.size); have hin1 := tmOut_in hL1; have hin0 := hin0.below hb1; obtain ⟨e100, e101, e102, e103⟩ := HB0.out w7 hc1; obtain ⟨e110, e111, e112, e113⟩ := HB1.out w7 hc1; have hsp := equalNeeds_spec t0 t1 _ _ w7 (hin0) (hin1) HN0.out HN1.out; rw [HL.out] at hsp; rw [HFL.out] at hsp)
      | (go_at_call 20; refine hsp.mono ?_; rintro e w8 ⟨vW, rfl, oW, hb2⟩; have hc2 := hc1.trans (hb2.mono hc1.size); obtain ⟨e200, e201, e202, e203⟩ := HB0.out w8 hc2; obtain ⟨e210, e211, e212, e213⟩ := HB1.out w8 hc2)
      | fail)
  have hbz : Below u3.drew.heap.size u3.drew w8 := ((hb0.trans (hb1.mono (hb0).size)).trans (hb2.mono ((hb0.trans (hb1.mono (hb0).size))).size))
  have slo : u3.drew.heap.size ≤ w7.heap.size := ((hb0.trans (hb1.mono (hb0).size))).size
  have s9 : u3.drew.heap.size ≤ w8.heap.size := hbz.size
  have HC9 := Lib.hid (HC5.out.trans (hbz.mono HC5.out.size))
  have HRW := Lib.hid (show ∀ k, (vW : Value).ownBlock = some k → w7.heap.size ≤ k ∧ k < w8.heap.size from fun k hk => oW.lt k hk)
  have QW := Lib.hid oW
  clear hbz HS hb0 hb1 hb2 hc0 hc1 hc2 hto0 hto1 hsp hin0 hin1 hL0 hL1 b00 b01 b02 b03 b10 b11 b12 b13 e000 e001 e002 e003 e010 e011 e012 e013 e100 e101 e102 e103 e110 e111 e112 e113 e200 e201 e202 e203 e210 e211 e212 e213 HC5 oW
  obtain ⟨b0, b1, b2, b3⟩ := HB0.out w8 HC9.out
  have hto := toTerm_any t0 HF0.out w8 _ (HI0.out w8 HC9.out)
  go_wp2_with fail
  refine hto.mono ?_
  rintro e w10 ⟨PX0, qX0, KX0, rX0, SX0, rfl, hL, hS, hb⟩
  have s11 : w8.heap.size ≤ w10.heap.size := hb.size
  have QW_11 := Lib.hid (own_below QW.out hb)
  have HC11 := Lib.hid (HC9.out.trans (hb.mono HC9.out.size))
  have HTX0 : Hid (∀ b ∈ SX0, w8.heap.size ≤ b ∧ b < w10.heap.size) := Lib.hid (fun b hb => ⟨hS b hb, hL.lt b hb⟩)
  have NX0 := Lib.hid hL
  clear hto hb hS b0 b1 b2 b3 QW HC9 hL
  have hbx : Below w10.heap.size w10 (w10.alloc (.cells #[.int .i64 t0.op, .int .i64 t0.num, .slice PX0 t0.perm.length qX0, .slice KX0 t0.kids.length rX0] 31)) := (Below.refl _ _).alloc (Nat.le_refl _) _
  have s12 : w10.heap.size ≤ (w10.alloc (.cells #[.int .i64 t0.op, .int .i64 t0.num, .slice PX0 t0.perm.length qX0, .slice KX0 t0.kids.length rX0] 31)).heap.size := hbx.size
  have NX0_12 := Lib.hid (NX0.out.alike (w' := (w10.alloc (.cells #[.int .i64 t0.op, .int .i64 t0.num, .slice PX0 t0.perm.length qX0, .slice KX0 t0.kids.length rX0] 31))) fun bb hbb => hbx.block bb (NX0.out.lt bb hbb))
  have QW_12 := Lib.hid (own_below QW_11.out hbx)
  have HC12 := Lib.hid (HC11.out.trans (hbx.mono HC11.out.size))
  have KBX0 := Lib.hid (heap_alloc_new w10 (.cells #[.int .i64 t0.op, .int .i64 t0.num, .slice PX0 t0.perm.length qX0, .slice KX0 t0.kids.length rX0] 31))
  clear hbx NX0 QW_11 HC11
  have lt_X0 : w10.heap.size < (w10.alloc (.cells #[.int .i64 t0.op, .int .i64 t0.num, .slice PX0 t0.perm.length qX0, .slice KX0 t0.kids.length rX0] 31)).heap.size := by simp
  obtain ⟨b0, b1, b2, b3⟩ := HB1.out (w10.alloc (.cells #[.int .i64 t0.op, .int .i64 t0.num, .slice PX0 t0.perm.length qX0, .slice KX0 t0.kids.length rX0] 31)) HC12.out
  have hto := toTerm_any t1 HF1.out (w10.alloc (.cells #[.int .i64 t0.op, .int .i64 t0.num, .slice PX0 t0.perm.length qX0, .slice KX0 t0.kids.length rX0] 31)) _ (HI1.out (w10.alloc (.cells #[.int .i64 t0.op, .int .i64 t0.num, .slice PX0 t0.perm.length qX0, .slice KX0 t0.kids.length rX0] 31)) HC12.out)
  go_wp2_with fail
  refine hto.mono ?_
  rintro e w13 ⟨PX1, qX1, KX1, rX1, SX1, rfl, hL, hS, hb⟩
  have s14 : (w10.alloc (.cells #[.int .i64 t0.op, .int .i64 t0.num, .slice PX0 t0.perm.length qX0, .slice KX0 t0.kids.length rX0] 31)).heap.size ≤ w13.heap.size := hb.size
  have KBX0_14 := Lib.hid ((hb.block _ (Args4.box_lt KBX0.out)).trans KBX0.out)
  have NX0_14 := Lib.hid (NX0_12.out.alike (w' := w13) fun bb hbb => hb.block bb (NX0_12.out.lt bb hbb))
  have QW_14 := Lib.hid (own_below QW_12.out hb)
  have HC14 := Lib.hid (HC12.out.trans (hb.mono HC12.out.size))
  have HTX1 : Hid (∀ b ∈ SX1, (w10.alloc (.cells #[.int .i64 t0.op, .int .i64 t0.num, .slice PX0 t0.perm.length qX0, .slice KX0 t0.kids.length rX0] 31)).heap.size ≤ b ∧ b < w13.heap.size) := Lib.hid (fun b hb => ⟨hS b hb, hL.lt b hb⟩)
  have NX1 := Lib.hid hL
  clear hto hb hS b0 b1 b2 b3 KBX0 NX0_12 QW_12 HC12 hL
  have hbx : Below w13.heap.size w13 (w13.alloc (.cells #[.int .i64 t1.op, .int .i64 t1.num, .slice PX1 t1.perm.length qX1, .slice KX1 t1.kids.length rX1] 31)) := (Below.refl _ _).alloc (Nat.le_refl _) _
  have s15 : w13.heap.size ≤ (w13.alloc (.cells #[.int .i64 t1.op, .int .i64 t1.num, .slice PX1 t1.perm.length qX1, .slice KX1 t1.kids.length rX1] 31)).heap.size := hbx.size
  have KBX0_15 := Lib.hid ((hbx.block _ (Args4.box_lt KBX0_14.out)).trans KBX0_14.out)
  have NX0_15 := Lib.hid (NX0_14.out.alike (w' := (w13.alloc (.cells #[.int .i64 t1.op, .int .i64 t1.num, .slice PX1 t1.perm.length qX1, .slice KX1 t1.kids.length rX1] 31))) fun bb hbb => hbx.block bb (NX0_14.out.lt bb hbb))
  have NX1_15 := Lib.hid (NX1.out.alike (w' := (w13.alloc (.cells #[.int .i64 t1.op, .int .i64 t1.num, .slice PX1 t1.perm.length qX1, .slice KX1 t1.kids.length rX1] 31))) fun bb hbb => hbx.block bb (NX1.out.lt bb hbb))
  have QW_15 := Lib.hid (own_below QW_14.out hbx)
  have HC15 := Lib.hid (HC14.out.trans (hbx.mono HC14.out.size))
  have KBX1 := Lib.hid (heap_alloc_new w13 (.cells #[.int .i64 t1.op, .int .i64 t1.num, .slice PX1 t1.perm.length qX1, .slice KX1 t1.kids.length rX1] 31))
  clear hbx KBX0_14 NX0_14 NX1 QW_14 HC14
  have lt_X1 : w13.heap.size < (w13.alloc (.cells #[.int .i64 t1.op, .int .i64 t1.num, .slice PX1 t1.perm.length qX1, .slice KX1 t1.kids.length rX1] 31)).heap.size := by simp
  have hsp := equalNeeds_impl t0 t1 _ _ (w13.alloc (.cells #[.int .i64 t1.op, .int .i64 t1.num, .slice PX1 t1.perm.length qX1, .slice KX1 t1.kids.length rX1] 31)) (tmOut_in NX0_15.out) (tmOut_in NX1_15.out) HF0.out HF1.out
  rw [HL.out] at hsp
  rw [HFL.out] at hsp
  obtain ⟨x00, x01, x02, x03⟩ := Args4.row4 KBX0_15.out
  obtain ⟨x10, x11, x12, x13⟩ := Args4.row4 KBX1.out
  go_wp2_with fail
  refine hsp.mono ?_
  rintro e w16 ⟨vG, rfl, oG, hb⟩
  have s17 : (w13.alloc (.cells #[.int .i64 t1.op, .int .i64 t1.num, .slice PX1 t1.perm.length qX1, .slice KX1 t1.kids.length rX1] 31)).heap.size ≤ w16.heap.size := hb.size
  have KBX0_17 := Lib.hid ((hb.block _ (Args4.box_lt KBX0_15.out)).trans KBX0_15.out)
  have KBX1_17 := Lib.hid ((hb.block _ (Args4.box_lt KBX1.out)).trans KBX1.out)
  have NX0_17 := Lib.hid (NX0_15.out.alike (w' := w16) fun bb hbb => hb.block bb (NX0_15.out.lt bb hbb))
  have NX1_17 := Lib.hid (NX1_15.out.alike (w' := w16) fun bb hbb => hb.block bb (NX1_15.out.lt bb hbb))
  have QW_17 := Lib.hid (own_below QW_15.out hb)
  have HC17 := Lib.hid (HC15.out.trans (hb.mono HC15.out.size))
  have HRG := Lib.hid (show ∀ k, (vG : Value).ownBlock = some k → (w13.alloc (.cells #[.int .i64 t1.op, .int .i64 t1.num, .slice PX1 t1.perm.length qX1, .slice KX1 t1.kids.length rX1] 31)).heap.size ≤ k ∧ k < w16.heap.size from fun k hk => oG.lt k hk)
  have QG := Lib.hid oG
  clear hb KBX0_15 KBX1 NX0_15 NX1_15 QW_15 HC15 oG
  clear hsp x00 x01 x02 x03 x10 x11 x12 x13
  have heq := eqFreshS_own _ _ _ _ L L w16 QG.out QW_17.out (by omega)
  rw [decide_eq_true (rfl : L = L)] at heq
  go_wp2_with fail
  refine heq.mono ?_
  rintro e w18 ⟨rfl, hb⟩
  have s19 : w16.heap.size ≤ w18.heap.size := hb.size
  have KBX0_19 := Lib.hid ((hb.block _ (Args4.box_lt KBX0_17.out)).trans KBX0_17.out)
  have KBX1_19 := Lib.hid ((hb.block _ (Args4.box_lt KBX1_17.out)).trans KBX1_17.out)
  have NX0_19 := Lib.hid (NX0_17.out.alike (w' := w18) fun bb hbb => hb.block bb (NX0_17.out.lt bb hbb))
  have NX1_19 := Lib.hid (NX1_17.out.alike (w' := w18) fun bb hbb => hb.block bb (NX1_17.out.lt bb hbb))
  have QW_19 := Lib.hid (own_below QW_17.out hb)
  have QG_19 := Lib.hid (own_below QG.out hb)
  have HC19 := Lib.hid (HC17.out.trans (hb.mono HC17.out.size))
  clear heq hb KBX0_17 KBX1_17 NX0_17 NX1_17 QW_17 QG HC17
  have hdw : Below w18.heap.size w18 w18.drew := ⟨rfl, rfl, rfl, Nat.le_refl _, fun _ _ => rfl⟩
  have s20 : w18.heap.size ≤ w18.drew.heap.size := hdw.size
  have KBX0_20 := Lib.hid ((hdw.block _ (Args4.box_lt KBX0_19.out)).trans KBX0_19.out)
  have KBX1_20 := Lib.hid ((hdw.block _ (Args4.box_lt KBX1_19.out)).trans KBX1_19.out)
  have NX0_20 := Lib.hid (NX0_19.out.alike (w' := w18.drew) fun bb hbb => hdw.block bb (NX0_19.out.lt bb hbb))
  have NX1_20 := Lib.hid (NX1_19.out.alike (w' := w18.drew) fun bb hbb => hdw.block bb (NX1_19.out.lt bb hbb))
  have QW_20 := Lib.hid (own_below QW_19.out hdw)
  have QG_20 := Lib.hid (own_below QG_19.out hdw)
  have HC20 := Lib.hid (HC19.out.trans (hdw.mono HC19.out.size))
  clear hdw KBX0_19 KBX1_19 NX0_19 NX1_19 QW_19 QG_19 HC19
  have HS := HC20
  have HX := KBX0_20
  obtain ⟨b0, b1, b2, b3⟩ := HB0.out w18.drew HC20.out
  obtain ⟨x0, x1, x2, x3⟩ := Args4.row4 KBX0_20.out
  have hxx := tmOut_in NX0_20.out
  have hto := toTerm_any t0 HF0.out w18.drew _ (HI0.out w18.drew HS.out)
  go_wp2
  go_region_held3 (fun w' => w'.cell? ⟨w.heap.size, 0, none⟩ = some (.int .i64 t0.op) ∧ w'.cell? ⟨w.heap.size, 1, none⟩ = some (.int .i64 t0.num) ∧ w'.cell? ⟨w.heap.size, 2, none⟩ = some (.slice A0 t0.perm.length c0) ∧ w'.cell? ⟨w.heap.size, 3, none⟩ = some (.slice B0 t0.kids.length d0) ∧ w'.cell? ⟨w10.heap.size, 0, none⟩ = some (.int .i64 t0.op) ∧ w'.cell? ⟨w10.heap.size, 1, none⟩ = some (.int .i64 t0.num) ∧ w'.cell? ⟨w10.heap.size, 2, none⟩ = some (.slice PX0 t0.perm.length qX0) ∧ w'.cell? ⟨w10.heap.size, 3, none⟩ = some (.slice KX0 t0.kids.length rX0))
    (first | (with_reducible exact ⟨by assumption, by assumption, by assumption, by assumption, by assumption, by assumption, by assumption, by assumption⟩) | ((try dsimp only); exact ⟨by assumption, by assumption, by assumption, by assumption, by assumption, by assumption, by assumption, by assumption⟩) | go_keep)
    (first
      | (go_at_call 13; refine hto.mono ?_; rintro e w21 ⟨PZ, qZ, KZ, rZ, SZ, rfl, hLZ, _, hb1⟩; have hc1 := HS.out.trans (hb1.mono HS.out.size); have hzz := tmOut_in hLZ; have hyy := hxx.below hb1; obtain ⟨e0, e1, e2, e3⟩ := HB0.out w21 hc1; obtain ⟨e4, e5, e6, e7⟩ := Args4.row4 (((hb1).block _ (Args4.box_lt HX.out)).trans HX.out))
      | (go_at_call 15; refine (eqTerm_any t0 HF0.out _ _ _ hyy hzz).mono ?_; rintro e w22 ⟨rfl, hb2⟩; have hbz := hb1.trans (hb2.mono hb1.size); have hc2 := HS.out.trans (hbz.mono HS.out.size); obtain ⟨g0, g1, g2, g3⟩ := HB0.out w22 hc2; obtain ⟨g4, g5, g6, g7⟩ := Args4.row4 (((hbz).block _ (Args4.box_lt HX.out)).trans HX.out))
      | fail)
  have s23 : w18.drew.heap.size ≤ w22.heap.size := hbz.size
  have KBX0_23 := Lib.hid ((hbz.block _ (Args4.box_lt KBX0_20.out)).trans KBX0_20.out)
  have KBX1_23 := Lib.hid ((hbz.block _ (Args4.box_lt KBX1_20.out)).trans KBX1_20.out)
  have NX0_23 := Lib.hid (NX0_20.out.alike (w' := w22) fun bb hbb => hbz.block bb (NX0_20.out.lt bb hbb))
  have NX1_23 := Lib.hid (NX1_20.out.alike (w' := w22) fun bb hbb => hbz.block bb (NX1_20.out.lt bb hbb))
  have QW_23 := Lib.hid (own_below QW_20.out hbz)
  have QG_23 := Lib.hid (own_below QG_20.out hbz)
  have HC23 := Lib.hid (HC20.out.trans (hbz.mono HC20.out.size))
  clear hbz hb1 hb2 hc1 hc2 hzz hyy hxx hLZ hto HS HX b0 b1 b2 b3 x0 x1 x2 x3 e0 e1 e2 e3 e4 e5 e6 e7 g0 g1 g2 g3 g4 g5 g6 g7 KBX0_20 KBX1_20 NX0_20 NX1_20 QW_20 QG_20 HC20
  have hdw : Below w22.heap.size w22 w22.drew := ⟨rfl, rfl, rfl, Nat.le_refl _, fun _ _ => rfl⟩
  have s24 : w22.heap.size ≤ w22.drew.heap.size := hdw.size
  have KBX0_24 := Lib.hid ((hdw.block _ (Args4.box_lt KBX0_23.out)).trans KBX0_23.out)
  have KBX1_24 := Lib.hid ((hdw.block _ (Args4.box_lt KBX1_23.out)).trans KBX1_23.out)
  have NX0_24 := Lib.hid (NX0_23.out.alike (w' := w22.drew) fun bb hbb => hdw.block bb (NX0_23.out.lt bb hbb))
  have NX1_24 := Lib.hid (NX1_23.out.alike (w' := w22.drew) fun bb hbb => hdw.block bb (NX1_23.out.lt bb hbb))
  have QW_24 := Lib.hid (own_below QW_23.out hdw)
  have QG_24 := Lib.hid (own_below QG_23.out hdw)
  have HC24 := Lib.hid (HC23.out.trans (hdw.mono HC23.out.size))
  clear hdw KBX0_23 KBX1_23 NX0_23 NX1_23 QW_23 QG_23 HC23
  have HS := HC24
  have HX := KBX1_24
  obtain ⟨b0, b1, b2, b3⟩ := HB1.out w22.drew HC24.out
  obtain ⟨x0, x1, x2, x3⟩ := Args4.row4 KBX1_24.out
  have hxx := tmOut_in NX1_24.out
  have hto := toTerm_any t1 HF1.out w22.drew _ (HI1.out w22.drew HS.out)
  go_wp2
  go_region_held3 (fun w' => w'.cell? ⟨w.heap.size + 1, 0, none⟩ = some (.int .i64 t1.op) ∧ w'.cell? ⟨w.heap.size + 1, 1, none⟩ = some (.int .i64 t1.num) ∧ w'.cell? ⟨w.heap.size + 1, 2, none⟩ = some (.slice A1 t1.perm.length c1) ∧ w'.cell? ⟨w.heap.size + 1, 3, none⟩ = some (.slice B1 t1.kids.length d1) ∧ w'.cell? ⟨w13.heap.size, 0, none⟩ = some (.int .i64 t1.op) ∧ w'.cell? ⟨w13.heap.size, 1, none⟩ = some (.int .i64 t1.num) ∧ w'.cell? ⟨w13.heap.size, 2, none⟩ = some (.slice PX1 t1.perm.length qX1) ∧ w'.cell? ⟨w13.heap.size, 3, none⟩ = some (.slice KX1 t1.kids.length rX1))
    (first | (with_reducible exact ⟨by assumption, by assumption, by assumption, by assumption, by assumption, by assumption, by assumption, by assumption⟩) | ((try dsimp only); exact ⟨by assumption, by assumption, by assumption, by assumption, by assumption, by assumption, by assumption, by assumption⟩) | go_keep)
    (first
      | (go_at_call 13; refine hto.mono ?_; rintro e w25 ⟨PZ, qZ, KZ, rZ, SZ, rfl, hLZ, _, hb1⟩; have hc1 := HS.out.trans (hb1.mono HS.out.size); have hzz := tmOut_in hLZ; have hyy := hxx.below hb1; obtain ⟨e0, e1, e2, e3⟩ := HB1.out w25 hc1; obtain ⟨e4, e5, e6, e7⟩ := Args4.row4 (((hb1).block _ (Args4.box_lt HX.out)).trans HX.out))
      | (go_at_call 15; refine (eqTerm_any t1 HF1.out _ _ _ hyy hzz).mono ?_; rintro e w26 ⟨rfl, hb2⟩; have hbz := hb1.trans (hb2.mono hb1.size); have hc2 := HS.out.trans (hbz.mono HS.out.size); obtain ⟨g0, g1, g2, g3⟩ := HB1.out w26 hc2; obtain ⟨g4, g5, g6, g7⟩ := Args4.row4 (((hbz).block _ (Args4.box_lt HX.out)).trans HX.out))
      | fail)
  have s27 : w22.drew.heap.size ≤ w26.heap.size := hbz.size
  have KBX0_27 := Lib.hid ((hbz.block _ (Args4.box_lt KBX0_24.out)).trans KBX0_24.out)
  have KBX1_27 := Lib.hid ((hbz.block _ (Args4.box_lt KBX1_24.out)).trans KBX1_24.out)
  have NX0_27 := Lib.hid (NX0_24.out.alike (w' := w26) fun bb hbb => hbz.block bb (NX0_24.out.lt bb hbb))
  have NX1_27 := Lib.hid (NX1_24.out.alike (w' := w26) fun bb hbb => hbz.block bb (NX1_24.out.lt bb hbb))
  have QW_27 := Lib.hid (own_below QW_24.out hbz)
  have QG_27 := Lib.hid (own_below QG_24.out hbz)
  have HC27 := Lib.hid (HC24.out.trans (hbz.mono HC24.out.size))
  clear hbz hb1 hb2 hc1 hc2 hzz hyy hxx hLZ hto HS HX b0 b1 b2 b3 x0 x1 x2 x3 e0 e1 e2 e3 e4 e5 e6 e7 g0 g1 g2 g3 g4 g5 g6 g7 KBX0_24 KBX1_24 NX0_24 NX1_24 QW_24 QG_24 HC24
  obtain ⟨x0, x1, x2, x3⟩ := Args4.row4 KBX0_27.out
  have hmk := markTerm_any t0 HF0.out SX0 PX0 KX0 qX0 rX0 (1) w26 (by omega) (by omega) NX0_27.out
  go_wp2_with fail
  (with_reducible refine hmk.mono ?_)
  rintro e w28 ⟨rfl, hon⟩
  have s29 : w26.heap.size ≤ w28.heap.size := hon.size
  have KBX1_29 := Lib.hid ((hon.block _ (Args4.box_lt KBX1_27.out) (fun hm => by have := HTX0.out _ hm; omega)).trans KBX1_27.out)
  have NX1_29 := Lib.hid (NX1_27.out.alike (w' := w28) fun bb hbb => hon.block bb (NX1_27.out.lt bb hbb) (fun hm => by have h1 := HTX0.out _ hm; have h2 := HTX1.out _ hbb; omega))
  have QW_29 := Lib.hid (own_only QW_27.out hon (fun k e hm => by have h1 := HTX0.out _ hm; have h2 := HRW.out _ e; omega))
  have QG_29 := Lib.hid (own_only QG_27.out hon (fun k e hm => by have h1 := HTX0.out _ hm; have h2 := HRG.out _ e; omega))
  have HC29 := Lib.hid (Only.below HC27.out hon HC27.out.size (fun b hb => by have := HTX0.out _ hb; have := HZ.out; omega))
  clear hmk hon x0 x1 x2 x3 NX0_27 KBX0_27 KBX1_27 NX1_27 QW_27 QG_27 HC27
  obtain ⟨x0, x1, x2, x3⟩ := Args4.row4 KBX1_29.out
  have hmk := markTerm_any t1 HF1.out SX1 PX1 KX1 qX1 rX1 (1 + (t0.perm.length : Int) * 2 + (mcTs t0.kids : Int)) w28 (by omega) (by omega) NX1_29.out
  go_wp2_with fail
  (with_reducible refine hmk.mono ?_)
  rintro e w30 ⟨rfl, hon⟩
  have s31 : w28.heap.size ≤ w30.heap.size := hon.size
  have QW_31 := Lib.hid (own_only QW_29.out hon (fun k e hm => by have h1 := HTX1.out _ hm; have h2 := HRW.out _ e; omega))
  have QG_31 := Lib.hid (own_only QG_29.out hon (fun k e hm => by have h1 := HTX1.out _ hm; have h2 := HRG.out _ e; omega))
  have HC31 := Lib.hid (Only.below HC29.out hon HC29.out.size (fun b hb => by have := HTX1.out _ hb; have := HZ.out; omega))
  clear hmk hon x0 x1 x2 x3 NX1_29 KBX1_29 QW_29 QG_29 HC29
  have tk : ¬ 1 + (t0.perm.length : Int) * 2 + (mcTs t0.kids : Int) + (t1.perm.length : Int) * 2 + (mcTs t1.kids : Int) < 0 := by omega
  have heq := eqFreshS_own _ _ _ _ L L w30 QG_31.out QW_31.out (by omega)
  rw [decide_eq_true (rfl : L = L)] at heq
  go_wp2_with fail
  refine heq.mono ?_
  rintro e w32 ⟨rfl, hb⟩
  have s33 : w30.heap.size ≤ w32.heap.size := hb.size
  have QW_33 := Lib.hid (own_below QW_31.out hb)
  have QG_33 := Lib.hid (own_below QG_31.out hb)
  have HC33 := Lib.hid (HC31.out.trans (hb.mono HC31.out.size))
  clear heq hb QW_31 QG_31 HC31
  have hmi := markFreshS_own _ L.length vG _ 1 w32 QG_33.out (by omega) (by omega)
  go_wp2_with fail
  refine hmi.mono ?_
  rintro e w34 ⟨rfl, om, hg⟩
  have hon : Only vG.ownBlock.toList w32 w34 := Only.of_grown hg (fun b e => by rw [e]; simp)
  have HTG : Hid (∀ b ∈ vG.ownBlock.toList, _ ∧ _) := Lib.hid (fun b hb => HRG.out b (by simpa using hb))
  have s35 : w32.heap.size ≤ w34.heap.size := hon.size
  have QW_35 := Lib.hid (own_only QW_33.out hon (fun k e hm => by have h1 := HTG.out _ hm; have h2 := HRW.out _ e; omega))
  have HC35 := Lib.hid (Only.below HC33.out hon HC33.out.size (fun b hb => by have := HTG.out _ hb; have := HZ.out; omega))
  have QM := Lib.hid om
  clear hmi hg hon om QG_33 QW_33 HC33
  have tm : ¬ 1 + (L.length : Int) * 2 < 0 := by omega
  have tq : (1 + (L.length : Int) * 2 != 1 + (L.length : Int) * 2) = false := by simp
  have hhi := heldFreshS_own _ L.length vG 1 w34 QM.out (by omega) (by omega)
  go_wp2_with fail
  refine hhi.mono ?_
  rintro e w' ⟨rfl, rfl⟩
  clear hhi
  have hdw : Below w34.heap.size w34 w34.drew := ⟨rfl, rfl, rfl, Nat.le_refl _, fun _ _ => rfl⟩
  have s36 : w34.heap.size ≤ w34.drew.heap.size := hdw.size
  have QW_36 := Lib.hid (own_below QW_35.out hdw)
  have QM_36 := Lib.hid (own_below QM.out hdw)
  have HC36 := Lib.hid (HC35.out.trans (hdw.mono HC35.out.size))
  clear hdw QW_35 QM HC35
  have HS := HC36
  obtain ⟨b00, b01, b02, b03⟩ := HB0.out w34.drew HC36.out
  obtain ⟨b10, b11, b12, b13⟩ := HB1.out w34.drew HC36.out
  have hto0 := toTerm_any t0 HF0.out w34.drew _ (HI0.out w34.drew HS.out)
  go_wp2
  go_region_held3 (fun w' => w'.cell? ⟨w.heap.size, 0, none⟩ = some (.int .i64 t0.op) ∧ w'.cell? ⟨w.heap.size, 1, none⟩ = some (.int .i64 t0.num) ∧ w'.cell? ⟨w.heap.size, 2, none⟩ = some (.slice A0 t0.perm.length c0) ∧ w'.cell? ⟨w.heap.size, 3, none⟩ = some (.slice B0 t0.kids.length d0) ∧ w'.cell? ⟨w.heap.size + 1, 0, none⟩ = some (.int .i64 t1.op) ∧ w'.cell? ⟨w.heap.size + 1, 1, none⟩ = some (.int .i64 t1.num) ∧ w'.cell? ⟨w.heap.size + 1, 2, none⟩ = some (.slice A1 t1.perm.length c1) ∧ w'.cell? ⟨w.heap.size + 1, 3, none⟩ = some (.slice B1 t1.kids.length d1))
    (first | (with_reducible exact ⟨by assumption, by assumption, by assumption, by assumption, by assumption, by assumption, by assumption, by assumption⟩) | ((try dsimp only); exact ⟨by assumption, by assumption, by assumption, by assumption, by assumption, by assumption, by assumption, by assumption⟩) | go_keep)
    (first
      | (go_at_call_of 13 A0; refine hto0.mono ?_; rintro e w37 ⟨P0, q0, K0, r0, S0, rfl, hL0, _, hb0⟩; have hc0 := HS.out.trans (hb0.mono HS.out.size); have hin0 := tmOut_in hL0; obtain ⟨e000, e001, e002, e003⟩ := HB0.out w37 hc0; obtain ⟨e010, e011, e012, e013⟩ := HB1.out w37 hc0; have hto1 := toTerm_any t1 HF1.out w37 _ (HI1.out w37 hc0))
      | (go_at_call_of 13 A1; refine hto1.mono ?_; rintro e w38 ⟨P1, q1, K1, r1, S1, rfl, hL1, _, hb1⟩; have hc1 := hc0.trans (hb1.mono hc0.size); have hin1 := tmOut_in hL1; have hin0 := hin0.below hb1; obtain ⟨e100, e101, e102, e103⟩ := HB0.out w38 hc1; obtain ⟨e110, e111, e112, e113⟩ := HB1.out w38 hc1; have hsp := equalNeeds_impl t0 t1 _ _ w38 (hin0) (hin1) HF0.out HF1.out; rw [HL.out] at hsp; rw [HFL.out] at hsp)
      | (go_at_call 21; refine hsp.mono ?_; rintro e w39 ⟨vH, rfl, oH, hb2⟩; have hc2 := hc1.trans (hb2.mono hc1.size); obtain ⟨e200, e201, e202, e203⟩ := HB0.out w39 hc2; obtain ⟨e210, e211, e212, e213⟩ := HB1.out w39 hc2)
      | fail)
  have hbz : Below w34.drew.heap.size w34.drew w39 := ((hb0.trans (hb1.mono (hb0).size)).trans (hb2.mono ((hb0.trans (hb1.mono (hb0).size))).size))
  have slo : w34.drew.heap.size ≤ w38.heap.size := ((hb0.trans (hb1.mono (hb0).size))).size
  have s40 : w34.drew.heap.size ≤ w39.heap.size := hbz.size
  have QW_40 := Lib.hid (own_below QW_36.out hbz)
  have QM_40 := Lib.hid (own_below QM_36.out hbz)
  have HC40 := Lib.hid (HC36.out.trans (hbz.mono HC36.out.size))
  have HRH := Lib.hid (show ∀ k, (vH : Value).ownBlock = some k → w38.heap.size ≤ k ∧ k < w39.heap.size from fun k hk => oH.lt k hk)
  have QH := Lib.hid oH
  clear hbz HS hb0 hb1 hb2 hc0 hc1 hc2 hto0 hto1 hsp hin0 hin1 hL0 hL1 b00 b01 b02 b03 b10 b11 b12 b13 e000 e001 e002 e003 e010 e011 e012 e013 e100 e101 e102 e103 e110 e111 e112 e113 e200 e201 e202 e203 e210 e211 e212 e213 QW_36 QM_36 HC36 oH
  have heq := eqFreshS_own _ _ _ _ L L w39 QH.out QW_40.out (by omega)
  rw [decide_eq_true (rfl : L = L)] at heq
  go_wp2_with fail
  refine heq.mono ?_
  rintro e w41 ⟨rfl, hb⟩
  have s42 : w39.heap.size ≤ w41.heap.size := hb.size
  have QW_42 := Lib.hid (own_below QW_40.out hb)
  have QM_42 := Lib.hid (own_below QM_40.out hb)
  have QH_42 := Lib.hid (own_below QH.out hb)
  have HC42 := Lib.hid (HC40.out.trans (hb.mono HC40.out.size))
  clear heq hb QW_40 QM_40 QH HC40
  have hhi := heldFreshS_own _ L.length vG 1 w41 QM_42.out (by omega) (by omega)
  go_wp2_with fail
  refine hhi.mono ?_
  rintro e w' ⟨rfl, rfl⟩
  clear hhi
  have hfin := HW0.out.trans (HC42.out.mono HW0.out.size)
  go_wp2
  go_ret
  exact ⟨rfl, hfin⟩

theorem walk (w : World) (x0 : Value) (t0 : Tm) (hx0 : TmIn w x0 t0) (hs0 : Short t0) (x1 : Value) (t1 : Tm) (hx1 : TmIn w x1 t1) (hs1 : Short t1) :
    Calls Tryz.prog 5 #[x0, x1] w fun e w' => e = .returned (.bool true) ∧ Below w.heap.size w w' := by
  by_cases hn0 : (cntT t0 : Int) ≤ 1048576
  · skip
    by_cases hn1 : (cntT t1 : Int) ≤ 1048576 - (cntT t0 : Int)
    · skip
      exact walk_yes w x0 t0 hx0 hs0 x1 t1 hx1 hs1 hn0 hn1
    · exact walk_no1 w x0 t0 hx0 hs0 x1 t1 hx1 hs1 hn0 hn1
  · exact walk_no0 w x0 t0 hx0 hs0 x1 t1 hx1 hs1 hn0

set_option maxRecDepth 100000 in
theorem lifted (os : Os) (started : os.Started) (H : Type) (enc : TypeId × Value → H) :
    ReturnsInHanded {} Tryz.checked os 5 .any (Rows.fnExactEqualNeedsSpec.pre6 enc Tryz.prog Tryz.f5 Rows.fnExactEqualNeedsRow.domain false) (Rows.fnExactEqualNeedsSpec.post enc Tryz.prog Tryz.f5 false true false false) := by
  refine returnsInHanded_of_change (C := Tryz.checked) own started (by kernel_rfl) Tryz.func5
    (ChangeSpec.witness6 (enc := enc) (C := Tryz.checked) false ⟨#[], #[.agg #[.int .i64 0, .int .i64 0, .slice none 0 0, .slice none 0 0], .agg #[.int .i64 0, .int .i64 0, .slice none 0 0, .slice none 0 0]], []⟩ 8 (by kernel_rfl) (by kernel_rfl) (by kernel_rfl) (by kernel_rfl)) ?_
  intro W base args ds gs before hval0 hW hcnd _
  have hval : ∀ (j : Nat) t v, Tryz.f5.params[j]? = some t → args[j]? = some v → Value.okWide Tryz.prog W .any base t v := hval0
  have hW' := hW
  obtain ⟨p, q, hA0, hV, rfl, hfz, hnd⟩ := hW
  have hA : DataW.TrodAll enc Tryz.prog W 0 (fun _ => true) true Tryz.f5.params.toList args.toList ds p := hA0
  rw [Tryz.params5] at hA hval
  obtain ⟨v0, vs0, d0, ds0, p0, q0, hargs, rfl, rfl, h0, r0⟩ := trodAll_cons hA
  obtain ⟨v1, vs1, d1, ds1, p1, q1, rfl, rfl, rfl, h1, r1⟩ := trodAll_cons r0
  obtain ⟨rfl, rfl, rfl⟩ := trodAll_nil r1
  obtain rfl : args = #[v0, v1] := by cases args; simp_all
  obtain ⟨rfl, rfl⟩ := trodVars_none hV
  have k0 := h0
  have lt0 : ∀ x ∈ p0, x.block < W.heap.size := by obtain ⟨m, hm⟩ := k0; exact DataW.trod_lt m _ _ _ hm
  have k1 := h1
  have lt1 : ∀ x ∈ p1, x.block < W.heap.size := by obtain ⟨m, hm⟩ := k1; exact DataW.trod_lt m _ _ _ hm
  obtain ⟨t0, tx0, ts0⟩ := open_term (hval 0 25 v0 rfl rfl) h0
  obtain ⟨t1, tx1, ts1⟩ := open_term (hval 1 25 v1 rfl rfl) h1
  clear hA0 hval0
  refine (walk W v0 t0 tx0 ts0 v1 t1 tx1 ts1).mono fun e W' ⟨he, bel⟩ => ?_
  subst he
  exact ⟨_, rfl, _, _, _, [], _, [], hW', trodAll_mk1 (shut_bool Tryz.underlying4 _), (trodAll_cons_mk (Below.trod laidOut (by kernel_rfl) (of_decide_eq_true (by kernel_rfl)) k0 bel lt0) (trodAll_cons_mk (Below.trod laidOut (by kernel_rfl) (of_decide_eq_true (by kernel_rfl)) k1 bel lt1) trodAll_mk0)), rfl, bel.frame _, fun h => by cases h⟩

theorem over : Rows.fnExactEqualNeedsRow.holds Tryz.pinned (OpenSpec.ofChange Rows.fnExactEqualNeedsSpec) :=
  OpenClaim.holds_of_wide 5 Tryz.f5 rfl rfl rfl rfl rfl rfl rfl ⟨rfl, rfl, rfl, rfl, rfl⟩ rfl rfl rfl rfl rfl (by kernel_rfl) Tryz.func5 (by kernel_rfl)
    (of_decide_eq_true (by kernel_rfl)) (by unfold Func.isWrapper; first | (rw [if_pos (by decide +kernel)]; kernel_rfl) | (rw [if_neg (by decide +kernel)]; exact ⟨rfl, rfl⟩))
    (fun os started H enc _ => lifted os started H enc)

theorem proved : Rows.FnExactEqualNeedsSaid := over
#print axioms proved
end Go.Proofs.YtbfkfklaplgebaaGreat.fnExactEqualNeeds
