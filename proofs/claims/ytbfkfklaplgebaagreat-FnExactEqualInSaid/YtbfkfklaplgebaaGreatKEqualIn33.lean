/-
  The law FnExactEqualIn returns true for every three values: the program decides as the model whether two terms are equal with a context, and leaves its arguments as they were. No condition.
-/
import Derived.Test.YtbfkfklaplgebaaGreatKEqualIn9
import Derived.Test.YtbfkfklaplgebaaGreatKEqualIn6
import Derived.Test.YtbfkfklaplgebaaGreatKEqualIn10
import Derived.Test.YtbfkfklaplgebaaGreatKEqualIn7
import Derived.Test.YtbfkfklaplgebaaGreatKEqualIn8
import Derived.Test.YtbfkfklaplgebaaGreatKEqualIn32
namespace Go.Proofs.YtbfkfklaplgebaaGreat.fnExactEqualIn
open Go.ChangeShapes Go.WideShapes Go.ChangeAt Go.RowKit
set_option linter.unusedVariables false

namespace Args4
theorem box_lt {w : World} {g : Nat} {o : Obj} (h : w.heap[g]? = some o) : g < w.heap.size := (Array.getElem?_eq_some_iff.1 h).1
theorem row4 {w : World} {g : Nat} {a b c d : Value} {T : TypeId} (h : w.heap[g]? = some (.cells #[a, b, c, d] T (0, 0))) : w.cell? ⟨g, 0, none⟩ = some a ∧ w.cell? ⟨g, 1, none⟩ = some b ∧ w.cell? ⟨g, 2, none⟩ = some c ∧ w.cell? ⟨g, 3, none⟩ = some d := by
  refine ⟨?_, ?_, ?_, ?_⟩ <;> rw [cell_of_row w g _ _ _ _ h] <;> rfl
end Args4
theorem pairsAt_of {w : World} {base n : Nat} {e : TypeId} {B : Option Addr} {d : Nat} {l : List (Int × Int)} (h : w.ownsRow base e 2 (.slice B n d) l.length (cellsOf l)) : PairsAt w B l := by
  obtain ⟨A, c, ee, hp⟩ := own_pairsAt h
  injection ee with e1 e2 e3
  subst e1
  exact hp

set_option maxRecDepth 100000 in
set_option maxHeartbeats 16000000 in
theorem walk_no0 (w : World) (A0 : Option Addr) (c0 : Nat) (l0 : List (Int × Int)) (hA0 : PairsAt w A0 l0) (hm0 : l0.length ≤ maxLen) (x1 : Value) (t1 : Tm) (hx1 : TmIn w x1 t1) (hs1 : Short t1) (x2 : Value) (t2 : Tm) (hx2 : TmIn w x2 t2) (hs2 : Short t2) (hn0 : ¬ (l0.length : Int) ≤ 1048576) :
    Calls Tryz.prog 7 #[.slice A0 l0.length c0, x1, x2] w fun e w' => e = .returned (.bool true) ∧ Below w.heap.size w w' := by
  unfold maxLen at hm0
  obtain ⟨A1, c1, kv1, rfl, hp1, hk1⟩ := hx1
  obtain ⟨B1, d1, rfl⟩ := hk1.form
  have hsh1 := (short_eq t1).1 hs1
  obtain ⟨A2, c2, kv2, rfl, hp2, hk2⟩ := hx2
  obtain ⟨B2, d2, rfl⟩ := hk2.form
  have hsh2 := (short_eq t2).1 hs2
  have hb0 : Below w.heap.size w ((w.alloc (.cells #[.int .i64 t1.op, .int .i64 t1.num, .slice A1 t1.perm.length c1, .slice B1 t1.kids.length d1] 25)).alloc (.cells #[.int .i64 t2.op, .int .i64 t2.num, .slice A2 t2.perm.length c2, .slice B2 t2.kids.length d2] 25)) := (((Below.refl _ w).alloc (by first | exact Nat.le_refl _ | (simp; done) | (simp; omega)) _).alloc (by first | exact Nat.le_refl _ | (simp; done) | (simp; omega)) _)
  have HI1 : Hid (∀ w' : World, Below ((w.alloc (.cells #[.int .i64 t1.op, .int .i64 t1.num, .slice A1 t1.perm.length c1, .slice B1 t1.kids.length d1] 25)).alloc (.cells #[.int .i64 t2.op, .int .i64 t2.num, .slice A2 t2.perm.length c2, .slice B2 t2.kids.length d2] 25)).heap.size ((w.alloc (.cells #[.int .i64 t1.op, .int .i64 t1.num, .slice A1 t1.perm.length c1, .slice B1 t1.kids.length d1] 25)).alloc (.cells #[.int .i64 t2.op, .int .i64 t2.num, .slice A2 t2.perm.length c2, .slice B2 t2.kids.length d2] 25)) w' → TmIn w' (.agg #[.int .i64 t1.op, .int .i64 t1.num, .slice A1 t1.perm.length c1, .slice B1 t1.kids.length d1]) t1) := Lib.hid (fun w' h => ⟨A1, c1, _, rfl, hp1.below (hb0.trans (h.mono hb0.size)), hk1.below (hb0.trans (h.mono hb0.size))⟩)
  have HI2 : Hid (∀ w' : World, Below ((w.alloc (.cells #[.int .i64 t1.op, .int .i64 t1.num, .slice A1 t1.perm.length c1, .slice B1 t1.kids.length d1] 25)).alloc (.cells #[.int .i64 t2.op, .int .i64 t2.num, .slice A2 t2.perm.length c2, .slice B2 t2.kids.length d2] 25)).heap.size ((w.alloc (.cells #[.int .i64 t1.op, .int .i64 t1.num, .slice A1 t1.perm.length c1, .slice B1 t1.kids.length d1] 25)).alloc (.cells #[.int .i64 t2.op, .int .i64 t2.num, .slice A2 t2.perm.length c2, .slice B2 t2.kids.length d2] 25)) w' → TmIn w' (.agg #[.int .i64 t2.op, .int .i64 t2.num, .slice A2 t2.perm.length c2, .slice B2 t2.kids.length d2]) t2) := Lib.hid (fun w' h => ⟨A2, c2, _, rfl, hp2.below (hb0.trans (h.mono hb0.size)), hk2.below (hb0.trans (h.mono hb0.size))⟩)
  have HI0 : Hid (∀ w' : World, Below ((w.alloc (.cells #[.int .i64 t1.op, .int .i64 t1.num, .slice A1 t1.perm.length c1, .slice B1 t1.kids.length d1] 25)).alloc (.cells #[.int .i64 t2.op, .int .i64 t2.num, .slice A2 t2.perm.length c2, .slice B2 t2.kids.length d2] 25)).heap.size ((w.alloc (.cells #[.int .i64 t1.op, .int .i64 t1.num, .slice A1 t1.perm.length c1, .slice B1 t1.kids.length d1] 25)).alloc (.cells #[.int .i64 t2.op, .int .i64 t2.num, .slice A2 t2.perm.length c2, .slice B2 t2.kids.length d2] 25)) w' → PairsAt w' A0 l0) := Lib.hid (fun w' h => hA0.below (hb0.trans (h.mono hb0.size)))
  have kk1 : ((w.alloc (.cells #[.int .i64 t1.op, .int .i64 t1.num, .slice A1 t1.perm.length c1, .slice B1 t1.kids.length d1] 25)).alloc (.cells #[.int .i64 t2.op, .int .i64 t2.num, .slice A2 t2.perm.length c2, .slice B2 t2.kids.length d2] 25)).heap[w.heap.size]? = some (.cells #[.int .i64 t1.op, .int .i64 t1.num, .slice A1 t1.perm.length c1, .slice B1 t1.kids.length d1] 25 (0, 0)) := by
    have h := heap_alloc_new w (.cells #[.int .i64 t1.op, .int .i64 t1.num, .slice A1 t1.perm.length c1, .slice B1 t1.kids.length d1] 25)
    exact ((Below.heap_alloc _ _ _ (by first | (simp; done) | (simp; omega))).trans h)
  obtain ⟨b10, b11, b12, b13⟩ := Args4.row4 kk1
  have lt1 : w.heap.size < ((w.alloc (.cells #[.int .i64 t1.op, .int .i64 t1.num, .slice A1 t1.perm.length c1, .slice B1 t1.kids.length d1] 25)).alloc (.cells #[.int .i64 t2.op, .int .i64 t2.num, .slice A2 t2.perm.length c2, .slice B2 t2.kids.length d2] 25)).heap.size := by first | (simp; done) | (simp; omega)
  have kk2 : ((w.alloc (.cells #[.int .i64 t1.op, .int .i64 t1.num, .slice A1 t1.perm.length c1, .slice B1 t1.kids.length d1] 25)).alloc (.cells #[.int .i64 t2.op, .int .i64 t2.num, .slice A2 t2.perm.length c2, .slice B2 t2.kids.length d2] 25)).heap[w.heap.size + 1]? = some (.cells #[.int .i64 t2.op, .int .i64 t2.num, .slice A2 t2.perm.length c2, .slice B2 t2.kids.length d2] 25 (0, 0)) := by
    have h := heap_alloc_new (w.alloc (.cells #[.int .i64 t1.op, .int .i64 t1.num, .slice A1 t1.perm.length c1, .slice B1 t1.kids.length d1] 25)) (.cells #[.int .i64 t2.op, .int .i64 t2.num, .slice A2 t2.perm.length c2, .slice B2 t2.kids.length d2] 25)
    simp only [World.size_alloc] at h
    exact h
  obtain ⟨b20, b21, b22, b23⟩ := Args4.row4 kk2
  have lt2 : w.heap.size + 1 < ((w.alloc (.cells #[.int .i64 t1.op, .int .i64 t1.num, .slice A1 t1.perm.length c1, .slice B1 t1.kids.length d1] 25)).alloc (.cells #[.int .i64 t2.op, .int .i64 t2.num, .slice A2 t2.perm.length c2, .slice B2 t2.kids.length d2] 25)).heap.size := by first | (simp; done) | (simp; omega)
  have HB1 : Hid (∀ w' : World, Below ((w.alloc (.cells #[.int .i64 t1.op, .int .i64 t1.num, .slice A1 t1.perm.length c1, .slice B1 t1.kids.length d1] 25)).alloc (.cells #[.int .i64 t2.op, .int .i64 t2.num, .slice A2 t2.perm.length c2, .slice B2 t2.kids.length d2] 25)).heap.size ((w.alloc (.cells #[.int .i64 t1.op, .int .i64 t1.num, .slice A1 t1.perm.length c1, .slice B1 t1.kids.length d1] 25)).alloc (.cells #[.int .i64 t2.op, .int .i64 t2.num, .slice A2 t2.perm.length c2, .slice B2 t2.kids.length d2] 25)) w' → w'.cell? ⟨w.heap.size, 0, none⟩ = some (.int .i64 t1.op) ∧ w'.cell? ⟨w.heap.size, 1, none⟩ = some (.int .i64 t1.num) ∧ w'.cell? ⟨w.heap.size, 2, none⟩ = some (.slice A1 t1.perm.length c1) ∧ w'.cell? ⟨w.heap.size, 3, none⟩ = some (.slice B1 t1.kids.length d1)) := Lib.hid (fun w' h => ⟨(h.cell (p := ⟨w.heap.size, 0, none⟩) lt1).trans b10, (h.cell (p := ⟨w.heap.size, 1, none⟩) lt1).trans b11, (h.cell (p := ⟨w.heap.size, 2, none⟩) lt1).trans b12, (h.cell (p := ⟨w.heap.size, 3, none⟩) lt1).trans b13⟩)
  have HB2 : Hid (∀ w' : World, Below ((w.alloc (.cells #[.int .i64 t1.op, .int .i64 t1.num, .slice A1 t1.perm.length c1, .slice B1 t1.kids.length d1] 25)).alloc (.cells #[.int .i64 t2.op, .int .i64 t2.num, .slice A2 t2.perm.length c2, .slice B2 t2.kids.length d2] 25)).heap.size ((w.alloc (.cells #[.int .i64 t1.op, .int .i64 t1.num, .slice A1 t1.perm.length c1, .slice B1 t1.kids.length d1] 25)).alloc (.cells #[.int .i64 t2.op, .int .i64 t2.num, .slice A2 t2.perm.length c2, .slice B2 t2.kids.length d2] 25)) w' → w'.cell? ⟨w.heap.size + 1, 0, none⟩ = some (.int .i64 t2.op) ∧ w'.cell? ⟨w.heap.size + 1, 1, none⟩ = some (.int .i64 t2.num) ∧ w'.cell? ⟨w.heap.size + 1, 2, none⟩ = some (.slice A2 t2.perm.length c2) ∧ w'.cell? ⟨w.heap.size + 1, 3, none⟩ = some (.slice B2 t2.kids.length d2)) := Lib.hid (fun w' h => ⟨(h.cell (p := ⟨w.heap.size + 1, 0, none⟩) lt2).trans b20, (h.cell (p := ⟨w.heap.size + 1, 1, none⟩) lt2).trans b21, (h.cell (p := ⟨w.heap.size + 1, 2, none⟩) lt2).trans b22, (h.cell (p := ⟨w.heap.size + 1, 3, none⟩) lt2).trans b23⟩)
  clear hp1 hk1 hs1 kk1 lt1 hp2 hk2 hs2 kk2 lt2 hA0
  have HC0 : Hid (Below ((w.alloc (.cells #[.int .i64 t1.op, .int .i64 t1.num, .slice A1 t1.perm.length c1, .slice B1 t1.kids.length d1] 25)).alloc (.cells #[.int .i64 t2.op, .int .i64 t2.num, .slice A2 t2.perm.length c2, .slice B2 t2.kids.length d2] 25)).heap.size ((w.alloc (.cells #[.int .i64 t1.op, .int .i64 t1.num, .slice A1 t1.perm.length c1, .slice B1 t1.kids.length d1] 25)).alloc (.cells #[.int .i64 t2.op, .int .i64 t2.num, .slice A2 t2.perm.length c2, .slice B2 t2.kids.length d2] 25)) ((w.alloc (.cells #[.int .i64 t1.op, .int .i64 t1.num, .slice A1 t1.perm.length c1, .slice B1 t1.kids.length d1] 25)).alloc (.cells #[.int .i64 t2.op, .int .i64 t2.num, .slice A2 t2.perm.length c2, .slice B2 t2.kids.length d2] 25))) := Lib.hid (Below.refl _ _)
  have HW0 := Lib.hid hb0
  clear hb0
  go_enter Tryz.func7, Tryz.ntmps7
  go_wp2_with fail
  refine (szF_no A0 l0.length c0 (1048576) _ (by omega) (by omega) (by omega) (by omega)).mono ?_
  rintro e w' ⟨rfl, rfl⟩
  clear b10 b11 b12 b13 b20 b21 b22 b23
  have hfin := HW0.out.trans (HC0.out.mono HW0.out.size)
  go_wp2
  go_ret
  exact ⟨rfl, hfin⟩

set_option maxRecDepth 100000 in
set_option maxHeartbeats 16000000 in
theorem walk_no1 (w : World) (A0 : Option Addr) (c0 : Nat) (l0 : List (Int × Int)) (hA0 : PairsAt w A0 l0) (hm0 : l0.length ≤ maxLen) (x1 : Value) (t1 : Tm) (hx1 : TmIn w x1 t1) (hs1 : Short t1) (x2 : Value) (t2 : Tm) (hx2 : TmIn w x2 t2) (hs2 : Short t2) (hn0 : (l0.length : Int) ≤ 1048576) (hn1 : ¬ (cntT t1 : Int) ≤ 1048576 - (l0.length : Int)) :
    Calls Tryz.prog 7 #[.slice A0 l0.length c0, x1, x2] w fun e w' => e = .returned (.bool true) ∧ Below w.heap.size w w' := by
  unfold maxLen at hm0
  obtain ⟨A1, c1, kv1, rfl, hp1, hk1⟩ := hx1
  obtain ⟨B1, d1, rfl⟩ := hk1.form
  have hsh1 := (short_eq t1).1 hs1
  obtain ⟨A2, c2, kv2, rfl, hp2, hk2⟩ := hx2
  obtain ⟨B2, d2, rfl⟩ := hk2.form
  have hsh2 := (short_eq t2).1 hs2
  have hb0 : Below w.heap.size w ((w.alloc (.cells #[.int .i64 t1.op, .int .i64 t1.num, .slice A1 t1.perm.length c1, .slice B1 t1.kids.length d1] 25)).alloc (.cells #[.int .i64 t2.op, .int .i64 t2.num, .slice A2 t2.perm.length c2, .slice B2 t2.kids.length d2] 25)) := (((Below.refl _ w).alloc (by first | exact Nat.le_refl _ | (simp; done) | (simp; omega)) _).alloc (by first | exact Nat.le_refl _ | (simp; done) | (simp; omega)) _)
  have HI1 : Hid (∀ w' : World, Below ((w.alloc (.cells #[.int .i64 t1.op, .int .i64 t1.num, .slice A1 t1.perm.length c1, .slice B1 t1.kids.length d1] 25)).alloc (.cells #[.int .i64 t2.op, .int .i64 t2.num, .slice A2 t2.perm.length c2, .slice B2 t2.kids.length d2] 25)).heap.size ((w.alloc (.cells #[.int .i64 t1.op, .int .i64 t1.num, .slice A1 t1.perm.length c1, .slice B1 t1.kids.length d1] 25)).alloc (.cells #[.int .i64 t2.op, .int .i64 t2.num, .slice A2 t2.perm.length c2, .slice B2 t2.kids.length d2] 25)) w' → TmIn w' (.agg #[.int .i64 t1.op, .int .i64 t1.num, .slice A1 t1.perm.length c1, .slice B1 t1.kids.length d1]) t1) := Lib.hid (fun w' h => ⟨A1, c1, _, rfl, hp1.below (hb0.trans (h.mono hb0.size)), hk1.below (hb0.trans (h.mono hb0.size))⟩)
  have HI2 : Hid (∀ w' : World, Below ((w.alloc (.cells #[.int .i64 t1.op, .int .i64 t1.num, .slice A1 t1.perm.length c1, .slice B1 t1.kids.length d1] 25)).alloc (.cells #[.int .i64 t2.op, .int .i64 t2.num, .slice A2 t2.perm.length c2, .slice B2 t2.kids.length d2] 25)).heap.size ((w.alloc (.cells #[.int .i64 t1.op, .int .i64 t1.num, .slice A1 t1.perm.length c1, .slice B1 t1.kids.length d1] 25)).alloc (.cells #[.int .i64 t2.op, .int .i64 t2.num, .slice A2 t2.perm.length c2, .slice B2 t2.kids.length d2] 25)) w' → TmIn w' (.agg #[.int .i64 t2.op, .int .i64 t2.num, .slice A2 t2.perm.length c2, .slice B2 t2.kids.length d2]) t2) := Lib.hid (fun w' h => ⟨A2, c2, _, rfl, hp2.below (hb0.trans (h.mono hb0.size)), hk2.below (hb0.trans (h.mono hb0.size))⟩)
  have HI0 : Hid (∀ w' : World, Below ((w.alloc (.cells #[.int .i64 t1.op, .int .i64 t1.num, .slice A1 t1.perm.length c1, .slice B1 t1.kids.length d1] 25)).alloc (.cells #[.int .i64 t2.op, .int .i64 t2.num, .slice A2 t2.perm.length c2, .slice B2 t2.kids.length d2] 25)).heap.size ((w.alloc (.cells #[.int .i64 t1.op, .int .i64 t1.num, .slice A1 t1.perm.length c1, .slice B1 t1.kids.length d1] 25)).alloc (.cells #[.int .i64 t2.op, .int .i64 t2.num, .slice A2 t2.perm.length c2, .slice B2 t2.kids.length d2] 25)) w' → PairsAt w' A0 l0) := Lib.hid (fun w' h => hA0.below (hb0.trans (h.mono hb0.size)))
  have kk1 : ((w.alloc (.cells #[.int .i64 t1.op, .int .i64 t1.num, .slice A1 t1.perm.length c1, .slice B1 t1.kids.length d1] 25)).alloc (.cells #[.int .i64 t2.op, .int .i64 t2.num, .slice A2 t2.perm.length c2, .slice B2 t2.kids.length d2] 25)).heap[w.heap.size]? = some (.cells #[.int .i64 t1.op, .int .i64 t1.num, .slice A1 t1.perm.length c1, .slice B1 t1.kids.length d1] 25 (0, 0)) := by
    have h := heap_alloc_new w (.cells #[.int .i64 t1.op, .int .i64 t1.num, .slice A1 t1.perm.length c1, .slice B1 t1.kids.length d1] 25)
    exact ((Below.heap_alloc _ _ _ (by first | (simp; done) | (simp; omega))).trans h)
  obtain ⟨b10, b11, b12, b13⟩ := Args4.row4 kk1
  have lt1 : w.heap.size < ((w.alloc (.cells #[.int .i64 t1.op, .int .i64 t1.num, .slice A1 t1.perm.length c1, .slice B1 t1.kids.length d1] 25)).alloc (.cells #[.int .i64 t2.op, .int .i64 t2.num, .slice A2 t2.perm.length c2, .slice B2 t2.kids.length d2] 25)).heap.size := by first | (simp; done) | (simp; omega)
  have kk2 : ((w.alloc (.cells #[.int .i64 t1.op, .int .i64 t1.num, .slice A1 t1.perm.length c1, .slice B1 t1.kids.length d1] 25)).alloc (.cells #[.int .i64 t2.op, .int .i64 t2.num, .slice A2 t2.perm.length c2, .slice B2 t2.kids.length d2] 25)).heap[w.heap.size + 1]? = some (.cells #[.int .i64 t2.op, .int .i64 t2.num, .slice A2 t2.perm.length c2, .slice B2 t2.kids.length d2] 25 (0, 0)) := by
    have h := heap_alloc_new (w.alloc (.cells #[.int .i64 t1.op, .int .i64 t1.num, .slice A1 t1.perm.length c1, .slice B1 t1.kids.length d1] 25)) (.cells #[.int .i64 t2.op, .int .i64 t2.num, .slice A2 t2.perm.length c2, .slice B2 t2.kids.length d2] 25)
    simp only [World.size_alloc] at h
    exact h
  obtain ⟨b20, b21, b22, b23⟩ := Args4.row4 kk2
  have lt2 : w.heap.size + 1 < ((w.alloc (.cells #[.int .i64 t1.op, .int .i64 t1.num, .slice A1 t1.perm.length c1, .slice B1 t1.kids.length d1] 25)).alloc (.cells #[.int .i64 t2.op, .int .i64 t2.num, .slice A2 t2.perm.length c2, .slice B2 t2.kids.length d2] 25)).heap.size := by first | (simp; done) | (simp; omega)
  have HB1 : Hid (∀ w' : World, Below ((w.alloc (.cells #[.int .i64 t1.op, .int .i64 t1.num, .slice A1 t1.perm.length c1, .slice B1 t1.kids.length d1] 25)).alloc (.cells #[.int .i64 t2.op, .int .i64 t2.num, .slice A2 t2.perm.length c2, .slice B2 t2.kids.length d2] 25)).heap.size ((w.alloc (.cells #[.int .i64 t1.op, .int .i64 t1.num, .slice A1 t1.perm.length c1, .slice B1 t1.kids.length d1] 25)).alloc (.cells #[.int .i64 t2.op, .int .i64 t2.num, .slice A2 t2.perm.length c2, .slice B2 t2.kids.length d2] 25)) w' → w'.cell? ⟨w.heap.size, 0, none⟩ = some (.int .i64 t1.op) ∧ w'.cell? ⟨w.heap.size, 1, none⟩ = some (.int .i64 t1.num) ∧ w'.cell? ⟨w.heap.size, 2, none⟩ = some (.slice A1 t1.perm.length c1) ∧ w'.cell? ⟨w.heap.size, 3, none⟩ = some (.slice B1 t1.kids.length d1)) := Lib.hid (fun w' h => ⟨(h.cell (p := ⟨w.heap.size, 0, none⟩) lt1).trans b10, (h.cell (p := ⟨w.heap.size, 1, none⟩) lt1).trans b11, (h.cell (p := ⟨w.heap.size, 2, none⟩) lt1).trans b12, (h.cell (p := ⟨w.heap.size, 3, none⟩) lt1).trans b13⟩)
  have HB2 : Hid (∀ w' : World, Below ((w.alloc (.cells #[.int .i64 t1.op, .int .i64 t1.num, .slice A1 t1.perm.length c1, .slice B1 t1.kids.length d1] 25)).alloc (.cells #[.int .i64 t2.op, .int .i64 t2.num, .slice A2 t2.perm.length c2, .slice B2 t2.kids.length d2] 25)).heap.size ((w.alloc (.cells #[.int .i64 t1.op, .int .i64 t1.num, .slice A1 t1.perm.length c1, .slice B1 t1.kids.length d1] 25)).alloc (.cells #[.int .i64 t2.op, .int .i64 t2.num, .slice A2 t2.perm.length c2, .slice B2 t2.kids.length d2] 25)) w' → w'.cell? ⟨w.heap.size + 1, 0, none⟩ = some (.int .i64 t2.op) ∧ w'.cell? ⟨w.heap.size + 1, 1, none⟩ = some (.int .i64 t2.num) ∧ w'.cell? ⟨w.heap.size + 1, 2, none⟩ = some (.slice A2 t2.perm.length c2) ∧ w'.cell? ⟨w.heap.size + 1, 3, none⟩ = some (.slice B2 t2.kids.length d2)) := Lib.hid (fun w' h => ⟨(h.cell (p := ⟨w.heap.size + 1, 0, none⟩) lt2).trans b20, (h.cell (p := ⟨w.heap.size + 1, 1, none⟩) lt2).trans b21, (h.cell (p := ⟨w.heap.size + 1, 2, none⟩) lt2).trans b22, (h.cell (p := ⟨w.heap.size + 1, 3, none⟩) lt2).trans b23⟩)
  clear hp1 hk1 hs1 kk1 lt1 hp2 hk2 hs2 kk2 lt2 hA0
  have HC0 : Hid (Below ((w.alloc (.cells #[.int .i64 t1.op, .int .i64 t1.num, .slice A1 t1.perm.length c1, .slice B1 t1.kids.length d1] 25)).alloc (.cells #[.int .i64 t2.op, .int .i64 t2.num, .slice A2 t2.perm.length c2, .slice B2 t2.kids.length d2] 25)).heap.size ((w.alloc (.cells #[.int .i64 t1.op, .int .i64 t1.num, .slice A1 t1.perm.length c1, .slice B1 t1.kids.length d1] 25)).alloc (.cells #[.int .i64 t2.op, .int .i64 t2.num, .slice A2 t2.perm.length c2, .slice B2 t2.kids.length d2] 25)) ((w.alloc (.cells #[.int .i64 t1.op, .int .i64 t1.num, .slice A1 t1.perm.length c1, .slice B1 t1.kids.length d1] 25)).alloc (.cells #[.int .i64 t2.op, .int .i64 t2.num, .slice A2 t2.perm.length c2, .slice B2 t2.kids.length d2] 25))) := Lib.hid (Below.refl _ _)
  have HW0 := Lib.hid hb0
  clear hb0
  go_enter Tryz.func7, Tryz.ntmps7
  have hleft0 : ¬ 1048576 - (l0.length : Int) < 0 := by omega
  go_wp2_with fail
  refine (szF_yes A0 l0.length c0 (1048576) _ (by omega) (by omega) hn0).mono ?_
  rintro e w' ⟨rfl, rfl⟩
  have hsz := szTerm_of t1 _ _ (1048576 - (l0.length : Int)) (by omega) (by omega) (HI1.out ((w.alloc (.cells #[.int .i64 t1.op, .int .i64 t1.num, .slice A1 t1.perm.length c1, .slice B1 t1.kids.length d1] 25)).alloc (.cells #[.int .i64 t2.op, .int .i64 t2.num, .slice A2 t2.perm.length c2, .slice B2 t2.kids.length d2] 25)) HC0.out) hsh1.1 fun l' w' y g0 g1 hy => szTermS_any _ t1.kids (Nat.le_refl _) hsh1.2.2 hsh1.2.1 l' w' y g0 g1 hy
  unfold LeftPost at hsz
  rw [leftR_no (by omega)] at hsz
  go_wp2_with fail
  refine hsz.mono ?_
  rintro e u1 ⟨rfl, hb⟩
  clear hsz b10 b11 b12 b13 b20 b21 b22 b23
  have s2 : ((w.alloc (.cells #[.int .i64 t1.op, .int .i64 t1.num, .slice A1 t1.perm.length c1, .slice B1 t1.kids.length d1] 25)).alloc (.cells #[.int .i64 t2.op, .int .i64 t2.num, .slice A2 t2.perm.length c2, .slice B2 t2.kids.length d2] 25)).heap.size ≤ u1.heap.size := hb.size
  have HC2 := Lib.hid (HC0.out.trans (hb.mono HC0.out.size))
  clear hb HC0
  have hfin := HW0.out.trans (HC2.out.mono HW0.out.size)
  go_wp2
  go_ret
  exact ⟨rfl, hfin⟩

set_option maxRecDepth 100000 in
set_option maxHeartbeats 16000000 in
theorem walk_no2 (w : World) (A0 : Option Addr) (c0 : Nat) (l0 : List (Int × Int)) (hA0 : PairsAt w A0 l0) (hm0 : l0.length ≤ maxLen) (x1 : Value) (t1 : Tm) (hx1 : TmIn w x1 t1) (hs1 : Short t1) (x2 : Value) (t2 : Tm) (hx2 : TmIn w x2 t2) (hs2 : Short t2) (hn0 : (l0.length : Int) ≤ 1048576) (hn1 : (cntT t1 : Int) ≤ 1048576 - (l0.length : Int)) (hn2 : ¬ (cntT t2 : Int) ≤ 1048576 - (l0.length : Int) - (cntT t1 : Int)) :
    Calls Tryz.prog 7 #[.slice A0 l0.length c0, x1, x2] w fun e w' => e = .returned (.bool true) ∧ Below w.heap.size w w' := by
  unfold maxLen at hm0
  obtain ⟨A1, c1, kv1, rfl, hp1, hk1⟩ := hx1
  obtain ⟨B1, d1, rfl⟩ := hk1.form
  have hsh1 := (short_eq t1).1 hs1
  obtain ⟨A2, c2, kv2, rfl, hp2, hk2⟩ := hx2
  obtain ⟨B2, d2, rfl⟩ := hk2.form
  have hsh2 := (short_eq t2).1 hs2
  have hb0 : Below w.heap.size w ((w.alloc (.cells #[.int .i64 t1.op, .int .i64 t1.num, .slice A1 t1.perm.length c1, .slice B1 t1.kids.length d1] 25)).alloc (.cells #[.int .i64 t2.op, .int .i64 t2.num, .slice A2 t2.perm.length c2, .slice B2 t2.kids.length d2] 25)) := (((Below.refl _ w).alloc (by first | exact Nat.le_refl _ | (simp; done) | (simp; omega)) _).alloc (by first | exact Nat.le_refl _ | (simp; done) | (simp; omega)) _)
  have HI1 : Hid (∀ w' : World, Below ((w.alloc (.cells #[.int .i64 t1.op, .int .i64 t1.num, .slice A1 t1.perm.length c1, .slice B1 t1.kids.length d1] 25)).alloc (.cells #[.int .i64 t2.op, .int .i64 t2.num, .slice A2 t2.perm.length c2, .slice B2 t2.kids.length d2] 25)).heap.size ((w.alloc (.cells #[.int .i64 t1.op, .int .i64 t1.num, .slice A1 t1.perm.length c1, .slice B1 t1.kids.length d1] 25)).alloc (.cells #[.int .i64 t2.op, .int .i64 t2.num, .slice A2 t2.perm.length c2, .slice B2 t2.kids.length d2] 25)) w' → TmIn w' (.agg #[.int .i64 t1.op, .int .i64 t1.num, .slice A1 t1.perm.length c1, .slice B1 t1.kids.length d1]) t1) := Lib.hid (fun w' h => ⟨A1, c1, _, rfl, hp1.below (hb0.trans (h.mono hb0.size)), hk1.below (hb0.trans (h.mono hb0.size))⟩)
  have HI2 : Hid (∀ w' : World, Below ((w.alloc (.cells #[.int .i64 t1.op, .int .i64 t1.num, .slice A1 t1.perm.length c1, .slice B1 t1.kids.length d1] 25)).alloc (.cells #[.int .i64 t2.op, .int .i64 t2.num, .slice A2 t2.perm.length c2, .slice B2 t2.kids.length d2] 25)).heap.size ((w.alloc (.cells #[.int .i64 t1.op, .int .i64 t1.num, .slice A1 t1.perm.length c1, .slice B1 t1.kids.length d1] 25)).alloc (.cells #[.int .i64 t2.op, .int .i64 t2.num, .slice A2 t2.perm.length c2, .slice B2 t2.kids.length d2] 25)) w' → TmIn w' (.agg #[.int .i64 t2.op, .int .i64 t2.num, .slice A2 t2.perm.length c2, .slice B2 t2.kids.length d2]) t2) := Lib.hid (fun w' h => ⟨A2, c2, _, rfl, hp2.below (hb0.trans (h.mono hb0.size)), hk2.below (hb0.trans (h.mono hb0.size))⟩)
  have HI0 : Hid (∀ w' : World, Below ((w.alloc (.cells #[.int .i64 t1.op, .int .i64 t1.num, .slice A1 t1.perm.length c1, .slice B1 t1.kids.length d1] 25)).alloc (.cells #[.int .i64 t2.op, .int .i64 t2.num, .slice A2 t2.perm.length c2, .slice B2 t2.kids.length d2] 25)).heap.size ((w.alloc (.cells #[.int .i64 t1.op, .int .i64 t1.num, .slice A1 t1.perm.length c1, .slice B1 t1.kids.length d1] 25)).alloc (.cells #[.int .i64 t2.op, .int .i64 t2.num, .slice A2 t2.perm.length c2, .slice B2 t2.kids.length d2] 25)) w' → PairsAt w' A0 l0) := Lib.hid (fun w' h => hA0.below (hb0.trans (h.mono hb0.size)))
  have kk1 : ((w.alloc (.cells #[.int .i64 t1.op, .int .i64 t1.num, .slice A1 t1.perm.length c1, .slice B1 t1.kids.length d1] 25)).alloc (.cells #[.int .i64 t2.op, .int .i64 t2.num, .slice A2 t2.perm.length c2, .slice B2 t2.kids.length d2] 25)).heap[w.heap.size]? = some (.cells #[.int .i64 t1.op, .int .i64 t1.num, .slice A1 t1.perm.length c1, .slice B1 t1.kids.length d1] 25 (0, 0)) := by
    have h := heap_alloc_new w (.cells #[.int .i64 t1.op, .int .i64 t1.num, .slice A1 t1.perm.length c1, .slice B1 t1.kids.length d1] 25)
    exact ((Below.heap_alloc _ _ _ (by first | (simp; done) | (simp; omega))).trans h)
  obtain ⟨b10, b11, b12, b13⟩ := Args4.row4 kk1
  have lt1 : w.heap.size < ((w.alloc (.cells #[.int .i64 t1.op, .int .i64 t1.num, .slice A1 t1.perm.length c1, .slice B1 t1.kids.length d1] 25)).alloc (.cells #[.int .i64 t2.op, .int .i64 t2.num, .slice A2 t2.perm.length c2, .slice B2 t2.kids.length d2] 25)).heap.size := by first | (simp; done) | (simp; omega)
  have kk2 : ((w.alloc (.cells #[.int .i64 t1.op, .int .i64 t1.num, .slice A1 t1.perm.length c1, .slice B1 t1.kids.length d1] 25)).alloc (.cells #[.int .i64 t2.op, .int .i64 t2.num, .slice A2 t2.perm.length c2, .slice B2 t2.kids.length d2] 25)).heap[w.heap.size + 1]? = some (.cells #[.int .i64 t2.op, .int .i64 t2.num, .slice A2 t2.perm.length c2, .slice B2 t2.kids.length d2] 25 (0, 0)) := by
    have h := heap_alloc_new (w.alloc (.cells #[.int .i64 t1.op, .int .i64 t1.num, .slice A1 t1.perm.length c1, .slice B1 t1.kids.length d1] 25)) (.cells #[.int .i64 t2.op, .int .i64 t2.num, .slice A2 t2.perm.length c2, .slice B2 t2.kids.length d2] 25)
    simp only [World.size_alloc] at h
    exact h
  obtain ⟨b20, b21, b22, b23⟩ := Args4.row4 kk2
  have lt2 : w.heap.size + 1 < ((w.alloc (.cells #[.int .i64 t1.op, .int .i64 t1.num, .slice A1 t1.perm.length c1, .slice B1 t1.kids.length d1] 25)).alloc (.cells #[.int .i64 t2.op, .int .i64 t2.num, .slice A2 t2.perm.length c2, .slice B2 t2.kids.length d2] 25)).heap.size := by first | (simp; done) | (simp; omega)
  have HB1 : Hid (∀ w' : World, Below ((w.alloc (.cells #[.int .i64 t1.op, .int .i64 t1.num, .slice A1 t1.perm.length c1, .slice B1 t1.kids.length d1] 25)).alloc (.cells #[.int .i64 t2.op, .int .i64 t2.num, .slice A2 t2.perm.length c2, .slice B2 t2.kids.length d2] 25)).heap.size ((w.alloc (.cells #[.int .i64 t1.op, .int .i64 t1.num, .slice A1 t1.perm.length c1, .slice B1 t1.kids.length d1] 25)).alloc (.cells #[.int .i64 t2.op, .int .i64 t2.num, .slice A2 t2.perm.length c2, .slice B2 t2.kids.length d2] 25)) w' → w'.cell? ⟨w.heap.size, 0, none⟩ = some (.int .i64 t1.op) ∧ w'.cell? ⟨w.heap.size, 1, none⟩ = some (.int .i64 t1.num) ∧ w'.cell? ⟨w.heap.size, 2, none⟩ = some (.slice A1 t1.perm.length c1) ∧ w'.cell? ⟨w.heap.size, 3, none⟩ = some (.slice B1 t1.kids.length d1)) := Lib.hid (fun w' h => ⟨(h.cell (p := ⟨w.heap.size, 0, none⟩) lt1).trans b10, (h.cell (p := ⟨w.heap.size, 1, none⟩) lt1).trans b11, (h.cell (p := ⟨w.heap.size, 2, none⟩) lt1).trans b12, (h.cell (p := ⟨w.heap.size, 3, none⟩) lt1).trans b13⟩)
  have HB2 : Hid (∀ w' : World, Below ((w.alloc (.cells #[.int .i64 t1.op, .int .i64 t1.num, .slice A1 t1.perm.length c1, .slice B1 t1.kids.length d1] 25)).alloc (.cells #[.int .i64 t2.op, .int .i64 t2.num, .slice A2 t2.perm.length c2, .slice B2 t2.kids.length d2] 25)).heap.size ((w.alloc (.cells #[.int .i64 t1.op, .int .i64 t1.num, .slice A1 t1.perm.length c1, .slice B1 t1.kids.length d1] 25)).alloc (.cells #[.int .i64 t2.op, .int .i64 t2.num, .slice A2 t2.perm.length c2, .slice B2 t2.kids.length d2] 25)) w' → w'.cell? ⟨w.heap.size + 1, 0, none⟩ = some (.int .i64 t2.op) ∧ w'.cell? ⟨w.heap.size + 1, 1, none⟩ = some (.int .i64 t2.num) ∧ w'.cell? ⟨w.heap.size + 1, 2, none⟩ = some (.slice A2 t2.perm.length c2) ∧ w'.cell? ⟨w.heap.size + 1, 3, none⟩ = some (.slice B2 t2.kids.length d2)) := Lib.hid (fun w' h => ⟨(h.cell (p := ⟨w.heap.size + 1, 0, none⟩) lt2).trans b20, (h.cell (p := ⟨w.heap.size + 1, 1, none⟩) lt2).trans b21, (h.cell (p := ⟨w.heap.size + 1, 2, none⟩) lt2).trans b22, (h.cell (p := ⟨w.heap.size + 1, 3, none⟩) lt2).trans b23⟩)
  clear hp1 hk1 hs1 kk1 lt1 hp2 hk2 hs2 kk2 lt2 hA0
  have HC0 : Hid (Below ((w.alloc (.cells #[.int .i64 t1.op, .int .i64 t1.num, .slice A1 t1.perm.length c1, .slice B1 t1.kids.length d1] 25)).alloc (.cells #[.int .i64 t2.op, .int .i64 t2.num, .slice A2 t2.perm.length c2, .slice B2 t2.kids.length d2] 25)).heap.size ((w.alloc (.cells #[.int .i64 t1.op, .int .i64 t1.num, .slice A1 t1.perm.length c1, .slice B1 t1.kids.length d1] 25)).alloc (.cells #[.int .i64 t2.op, .int .i64 t2.num, .slice A2 t2.perm.length c2, .slice B2 t2.kids.length d2] 25)) ((w.alloc (.cells #[.int .i64 t1.op, .int .i64 t1.num, .slice A1 t1.perm.length c1, .slice B1 t1.kids.length d1] 25)).alloc (.cells #[.int .i64 t2.op, .int .i64 t2.num, .slice A2 t2.perm.length c2, .slice B2 t2.kids.length d2] 25))) := Lib.hid (Below.refl _ _)
  have HW0 := Lib.hid hb0
  clear hb0
  go_enter Tryz.func7, Tryz.ntmps7
  have hleft0 : ¬ 1048576 - (l0.length : Int) < 0 := by omega
  go_wp2_with fail
  refine (szF_yes A0 l0.length c0 (1048576) _ (by omega) (by omega) hn0).mono ?_
  rintro e w' ⟨rfl, rfl⟩
  have hsz := szTerm_of t1 _ _ (1048576 - (l0.length : Int)) (by omega) (by omega) (HI1.out ((w.alloc (.cells #[.int .i64 t1.op, .int .i64 t1.num, .slice A1 t1.perm.length c1, .slice B1 t1.kids.length d1] 25)).alloc (.cells #[.int .i64 t2.op, .int .i64 t2.num, .slice A2 t2.perm.length c2, .slice B2 t2.kids.length d2] 25)) HC0.out) hsh1.1 fun l' w' y g0 g1 hy => szTermS_any _ t1.kids (Nat.le_refl _) hsh1.2.2 hsh1.2.1 l' w' y g0 g1 hy
  unfold LeftPost at hsz
  rw [leftR_yes hn1] at hsz
  have hleft1 : ¬ 1048576 - (l0.length : Int) - (cntT t1 : Int) < 0 := by omega
  go_wp2_with fail
  refine hsz.mono ?_
  rintro e u1 ⟨rfl, hb⟩
  clear hsz b10 b11 b12 b13 b20 b21 b22 b23
  have s2 : ((w.alloc (.cells #[.int .i64 t1.op, .int .i64 t1.num, .slice A1 t1.perm.length c1, .slice B1 t1.kids.length d1] 25)).alloc (.cells #[.int .i64 t2.op, .int .i64 t2.num, .slice A2 t2.perm.length c2, .slice B2 t2.kids.length d2] 25)).heap.size ≤ u1.heap.size := hb.size
  have HC2 := Lib.hid (HC0.out.trans (hb.mono HC0.out.size))
  clear hb HC0
  obtain ⟨b20, b21, b22, b23⟩ := HB2.out u1 HC2.out
  have hsz := szTerm_of t2 _ _ (1048576 - (l0.length : Int) - (cntT t1 : Int)) (by omega) (by omega) (HI2.out u1 HC2.out) hsh2.1 fun l' w' y g0 g1 hy => szTermS_any _ t2.kids (Nat.le_refl _) hsh2.2.2 hsh2.2.1 l' w' y g0 g1 hy
  unfold LeftPost at hsz
  rw [leftR_no (by omega)] at hsz
  go_wp2_with fail
  refine hsz.mono ?_
  rintro e u3 ⟨rfl, hb⟩
  clear hsz b20 b21 b22 b23
  have s4 : u1.heap.size ≤ u3.heap.size := hb.size
  have HC4 := Lib.hid (HC2.out.trans (hb.mono HC2.out.size))
  clear hb HC2
  have hfin := HW0.out.trans (HC4.out.mono HW0.out.size)
  go_wp2
  go_ret
  exact ⟨rfl, hfin⟩

set_option maxRecDepth 100000 in
set_option maxHeartbeats 16000000 in
theorem walk_yes (w : World) (A0 : Option Addr) (c0 : Nat) (l0 : List (Int × Int)) (hA0 : PairsAt w A0 l0) (hm0 : l0.length ≤ maxLen) (x1 : Value) (t1 : Tm) (hx1 : TmIn w x1 t1) (hs1 : Short t1) (x2 : Value) (t2 : Tm) (hx2 : TmIn w x2 t2) (hs2 : Short t2) (hn0 : (l0.length : Int) ≤ 1048576) (hn1 : (cntT t1 : Int) ≤ 1048576 - (l0.length : Int)) (hn2 : (cntT t2 : Int) ≤ 1048576 - (l0.length : Int) - (cntT t1 : Int)) :
    Calls Tryz.prog 7 #[.slice A0 l0.length c0, x1, x2] w fun e w' => e = .returned (.bool true) ∧ Below w.heap.size w w' := by
  have HN0 : Hid (l0.length ≤ 1048576) := Lib.hid (by omega)
  have HN1 : Hid (cntT t1 ≤ 1048576) := Lib.hid (by omega)
  have HF1 := Lib.hid (fit_of t1 HN1.out)
  have hmk1 : t1.perm.length * 2 + mcTs t1.kids ≤ 2097152 := by
    have h1 := mcTs_le t1.kids
    have h2 := cntT_eq t1
    omega
  have HN2 : Hid (cntT t2 ≤ 1048576) := Lib.hid (by omega)
  have HF2 := Lib.hid (fit_of t2 HN2.out)
  have hmk2 : t2.perm.length * 2 + mcTs t2.kids ≤ 2097152 := by
    have h1 := mcTs_le t2.kids
    have h2 := cntT_eq t2
    omega
  generalize hFF : eqInB l0 t1 t2 = fl
  have HFL := Lib.hid hFF
  have hfl : (fl != fl) = false := by simp
  clear hFF
  unfold maxLen at hm0
  obtain ⟨A1, c1, kv1, rfl, hp1, hk1⟩ := hx1
  obtain ⟨B1, d1, rfl⟩ := hk1.form
  have hsh1 := (short_eq t1).1 hs1
  obtain ⟨A2, c2, kv2, rfl, hp2, hk2⟩ := hx2
  obtain ⟨B2, d2, rfl⟩ := hk2.form
  have hsh2 := (short_eq t2).1 hs2
  have hb0 : Below w.heap.size w ((w.alloc (.cells #[.int .i64 t1.op, .int .i64 t1.num, .slice A1 t1.perm.length c1, .slice B1 t1.kids.length d1] 25)).alloc (.cells #[.int .i64 t2.op, .int .i64 t2.num, .slice A2 t2.perm.length c2, .slice B2 t2.kids.length d2] 25)) := (((Below.refl _ w).alloc (by first | exact Nat.le_refl _ | (simp; done) | (simp; omega)) _).alloc (by first | exact Nat.le_refl _ | (simp; done) | (simp; omega)) _)
  have HI1 : Hid (∀ w' : World, Below ((w.alloc (.cells #[.int .i64 t1.op, .int .i64 t1.num, .slice A1 t1.perm.length c1, .slice B1 t1.kids.length d1] 25)).alloc (.cells #[.int .i64 t2.op, .int .i64 t2.num, .slice A2 t2.perm.length c2, .slice B2 t2.kids.length d2] 25)).heap.size ((w.alloc (.cells #[.int .i64 t1.op, .int .i64 t1.num, .slice A1 t1.perm.length c1, .slice B1 t1.kids.length d1] 25)).alloc (.cells #[.int .i64 t2.op, .int .i64 t2.num, .slice A2 t2.perm.length c2, .slice B2 t2.kids.length d2] 25)) w' → TmIn w' (.agg #[.int .i64 t1.op, .int .i64 t1.num, .slice A1 t1.perm.length c1, .slice B1 t1.kids.length d1]) t1) := Lib.hid (fun w' h => ⟨A1, c1, _, rfl, hp1.below (hb0.trans (h.mono hb0.size)), hk1.below (hb0.trans (h.mono hb0.size))⟩)
  have HI2 : Hid (∀ w' : World, Below ((w.alloc (.cells #[.int .i64 t1.op, .int .i64 t1.num, .slice A1 t1.perm.length c1, .slice B1 t1.kids.length d1] 25)).alloc (.cells #[.int .i64 t2.op, .int .i64 t2.num, .slice A2 t2.perm.length c2, .slice B2 t2.kids.length d2] 25)).heap.size ((w.alloc (.cells #[.int .i64 t1.op, .int .i64 t1.num, .slice A1 t1.perm.length c1, .slice B1 t1.kids.length d1] 25)).alloc (.cells #[.int .i64 t2.op, .int .i64 t2.num, .slice A2 t2.perm.length c2, .slice B2 t2.kids.length d2] 25)) w' → TmIn w' (.agg #[.int .i64 t2.op, .int .i64 t2.num, .slice A2 t2.perm.length c2, .slice B2 t2.kids.length d2]) t2) := Lib.hid (fun w' h => ⟨A2, c2, _, rfl, hp2.below (hb0.trans (h.mono hb0.size)), hk2.below (hb0.trans (h.mono hb0.size))⟩)
  have HI0 : Hid (∀ w' : World, Below ((w.alloc (.cells #[.int .i64 t1.op, .int .i64 t1.num, .slice A1 t1.perm.length c1, .slice B1 t1.kids.length d1] 25)).alloc (.cells #[.int .i64 t2.op, .int .i64 t2.num, .slice A2 t2.perm.length c2, .slice B2 t2.kids.length d2] 25)).heap.size ((w.alloc (.cells #[.int .i64 t1.op, .int .i64 t1.num, .slice A1 t1.perm.length c1, .slice B1 t1.kids.length d1] 25)).alloc (.cells #[.int .i64 t2.op, .int .i64 t2.num, .slice A2 t2.perm.length c2, .slice B2 t2.kids.length d2] 25)) w' → PairsAt w' A0 l0) := Lib.hid (fun w' h => hA0.below (hb0.trans (h.mono hb0.size)))
  have kk1 : ((w.alloc (.cells #[.int .i64 t1.op, .int .i64 t1.num, .slice A1 t1.perm.length c1, .slice B1 t1.kids.length d1] 25)).alloc (.cells #[.int .i64 t2.op, .int .i64 t2.num, .slice A2 t2.perm.length c2, .slice B2 t2.kids.length d2] 25)).heap[w.heap.size]? = some (.cells #[.int .i64 t1.op, .int .i64 t1.num, .slice A1 t1.perm.length c1, .slice B1 t1.kids.length d1] 25 (0, 0)) := by
    have h := heap_alloc_new w (.cells #[.int .i64 t1.op, .int .i64 t1.num, .slice A1 t1.perm.length c1, .slice B1 t1.kids.length d1] 25)
    exact ((Below.heap_alloc _ _ _ (by first | (simp; done) | (simp; omega))).trans h)
  obtain ⟨b10, b11, b12, b13⟩ := Args4.row4 kk1
  have lt1 : w.heap.size < ((w.alloc (.cells #[.int .i64 t1.op, .int .i64 t1.num, .slice A1 t1.perm.length c1, .slice B1 t1.kids.length d1] 25)).alloc (.cells #[.int .i64 t2.op, .int .i64 t2.num, .slice A2 t2.perm.length c2, .slice B2 t2.kids.length d2] 25)).heap.size := by first | (simp; done) | (simp; omega)
  have kk2 : ((w.alloc (.cells #[.int .i64 t1.op, .int .i64 t1.num, .slice A1 t1.perm.length c1, .slice B1 t1.kids.length d1] 25)).alloc (.cells #[.int .i64 t2.op, .int .i64 t2.num, .slice A2 t2.perm.length c2, .slice B2 t2.kids.length d2] 25)).heap[w.heap.size + 1]? = some (.cells #[.int .i64 t2.op, .int .i64 t2.num, .slice A2 t2.perm.length c2, .slice B2 t2.kids.length d2] 25 (0, 0)) := by
    have h := heap_alloc_new (w.alloc (.cells #[.int .i64 t1.op, .int .i64 t1.num, .slice A1 t1.perm.length c1, .slice B1 t1.kids.length d1] 25)) (.cells #[.int .i64 t2.op, .int .i64 t2.num, .slice A2 t2.perm.length c2, .slice B2 t2.kids.length d2] 25)
    simp only [World.size_alloc] at h
    exact h
  obtain ⟨b20, b21, b22, b23⟩ := Args4.row4 kk2
  have lt2 : w.heap.size + 1 < ((w.alloc (.cells #[.int .i64 t1.op, .int .i64 t1.num, .slice A1 t1.perm.length c1, .slice B1 t1.kids.length d1] 25)).alloc (.cells #[.int .i64 t2.op, .int .i64 t2.num, .slice A2 t2.perm.length c2, .slice B2 t2.kids.length d2] 25)).heap.size := by first | (simp; done) | (simp; omega)
  have HB1 : Hid (∀ w' : World, Below ((w.alloc (.cells #[.int .i64 t1.op, .int .i64 t1.num, .slice A1 t1.perm.length c1, .slice B1 t1.kids.length d1] 25)).alloc (.cells #[.int .i64 t2.op, .int .i64 t2.num, .slice A2 t2.perm.length c2, .slice B2 t2.kids.length d2] 25)).heap.size ((w.alloc (.cells #[.int .i64 t1.op, .int .i64 t1.num, .slice A1 t1.perm.length c1, .slice B1 t1.kids.length d1] 25)).alloc (.cells #[.int .i64 t2.op, .int .i64 t2.num, .slice A2 t2.perm.length c2, .slice B2 t2.kids.length d2] 25)) w' → w'.cell? ⟨w.heap.size, 0, none⟩ = some (.int .i64 t1.op) ∧ w'.cell? ⟨w.heap.size, 1, none⟩ = some (.int .i64 t1.num) ∧ w'.cell? ⟨w.heap.size, 2, none⟩ = some (.slice A1 t1.perm.length c1) ∧ w'.cell? ⟨w.heap.size, 3, none⟩ = some (.slice B1 t1.kids.length d1)) := Lib.hid (fun w' h => ⟨(h.cell (p := ⟨w.heap.size, 0, none⟩) lt1).trans b10, (h.cell (p := ⟨w.heap.size, 1, none⟩) lt1).trans b11, (h.cell (p := ⟨w.heap.size, 2, none⟩) lt1).trans b12, (h.cell (p := ⟨w.heap.size, 3, none⟩) lt1).trans b13⟩)
  have HB2 : Hid (∀ w' : World, Below ((w.alloc (.cells #[.int .i64 t1.op, .int .i64 t1.num, .slice A1 t1.perm.length c1, .slice B1 t1.kids.length d1] 25)).alloc (.cells #[.int .i64 t2.op, .int .i64 t2.num, .slice A2 t2.perm.length c2, .slice B2 t2.kids.length d2] 25)).heap.size ((w.alloc (.cells #[.int .i64 t1.op, .int .i64 t1.num, .slice A1 t1.perm.length c1, .slice B1 t1.kids.length d1] 25)).alloc (.cells #[.int .i64 t2.op, .int .i64 t2.num, .slice A2 t2.perm.length c2, .slice B2 t2.kids.length d2] 25)) w' → w'.cell? ⟨w.heap.size + 1, 0, none⟩ = some (.int .i64 t2.op) ∧ w'.cell? ⟨w.heap.size + 1, 1, none⟩ = some (.int .i64 t2.num) ∧ w'.cell? ⟨w.heap.size + 1, 2, none⟩ = some (.slice A2 t2.perm.length c2) ∧ w'.cell? ⟨w.heap.size + 1, 3, none⟩ = some (.slice B2 t2.kids.length d2)) := Lib.hid (fun w' h => ⟨(h.cell (p := ⟨w.heap.size + 1, 0, none⟩) lt2).trans b20, (h.cell (p := ⟨w.heap.size + 1, 1, none⟩) lt2).trans b21, (h.cell (p := ⟨w.heap.size + 1, 2, none⟩) lt2).trans b22, (h.cell (p := ⟨w.heap.size + 1, 3, none⟩) lt2).trans b23⟩)
  clear hp1 hk1 hs1 kk1 lt1 hp2 hk2 hs2 kk2 lt2 hA0
  have HC0 : Hid (Below ((w.alloc (.cells #[.int .i64 t1.op, .int .i64 t1.num, .slice A1 t1.perm.length c1, .slice B1 t1.kids.length d1] 25)).alloc (.cells #[.int .i64 t2.op, .int .i64 t2.num, .slice A2 t2.perm.length c2, .slice B2 t2.kids.length d2] 25)).heap.size ((w.alloc (.cells #[.int .i64 t1.op, .int .i64 t1.num, .slice A1 t1.perm.length c1, .slice B1 t1.kids.length d1] 25)).alloc (.cells #[.int .i64 t2.op, .int .i64 t2.num, .slice A2 t2.perm.length c2, .slice B2 t2.kids.length d2] 25)) ((w.alloc (.cells #[.int .i64 t1.op, .int .i64 t1.num, .slice A1 t1.perm.length c1, .slice B1 t1.kids.length d1] 25)).alloc (.cells #[.int .i64 t2.op, .int .i64 t2.num, .slice A2 t2.perm.length c2, .slice B2 t2.kids.length d2] 25))) := Lib.hid (Below.refl _ _)
  have HW0 := Lib.hid hb0
  clear hb0
  go_enter Tryz.func7, Tryz.ntmps7
  have hleft0 : ¬ 1048576 - (l0.length : Int) < 0 := by omega
  go_wp2_with fail
  refine (szF_yes A0 l0.length c0 (1048576) _ (by omega) (by omega) hn0).mono ?_
  rintro e w' ⟨rfl, rfl⟩
  have hsz := szTerm_of t1 _ _ (1048576 - (l0.length : Int)) (by omega) (by omega) (HI1.out ((w.alloc (.cells #[.int .i64 t1.op, .int .i64 t1.num, .slice A1 t1.perm.length c1, .slice B1 t1.kids.length d1] 25)).alloc (.cells #[.int .i64 t2.op, .int .i64 t2.num, .slice A2 t2.perm.length c2, .slice B2 t2.kids.length d2] 25)) HC0.out) hsh1.1 fun l' w' y g0 g1 hy => szTermS_any _ t1.kids (Nat.le_refl _) hsh1.2.2 hsh1.2.1 l' w' y g0 g1 hy
  unfold LeftPost at hsz
  rw [leftR_yes hn1] at hsz
  have hleft1 : ¬ 1048576 - (l0.length : Int) - (cntT t1 : Int) < 0 := by omega
  go_wp2_with fail
  refine hsz.mono ?_
  rintro e u1 ⟨rfl, hb⟩
  clear hsz b10 b11 b12 b13 b20 b21 b22 b23
  have s2 : ((w.alloc (.cells #[.int .i64 t1.op, .int .i64 t1.num, .slice A1 t1.perm.length c1, .slice B1 t1.kids.length d1] 25)).alloc (.cells #[.int .i64 t2.op, .int .i64 t2.num, .slice A2 t2.perm.length c2, .slice B2 t2.kids.length d2] 25)).heap.size ≤ u1.heap.size := hb.size
  have HC2 := Lib.hid (HC0.out.trans (hb.mono HC0.out.size))
  clear hb HC0
  obtain ⟨b20, b21, b22, b23⟩ := HB2.out u1 HC2.out
  have hsz := szTerm_of t2 _ _ (1048576 - (l0.length : Int) - (cntT t1 : Int)) (by omega) (by omega) (HI2.out u1 HC2.out) hsh2.1 fun l' w' y g0 g1 hy => szTermS_any _ t2.kids (Nat.le_refl _) hsh2.2.2 hsh2.2.1 l' w' y g0 g1 hy
  unfold LeftPost at hsz
  rw [leftR_yes hn2] at hsz
  have hleft2 : ¬ 1048576 - (l0.length : Int) - (cntT t1 : Int) - (cntT t2 : Int) < 0 := by omega
  go_wp2_with fail
  refine hsz.mono ?_
  rintro e u3 ⟨rfl, hb⟩
  clear hsz b20 b21 b22 b23
  have s4 : u1.heap.size ≤ u3.heap.size := hb.size
  have HC4 := Lib.hid (HC2.out.trans (hb.mono HC2.out.size))
  clear hb HC2
  have HZ : Hid (((w.alloc (.cells #[.int .i64 t1.op, .int .i64 t1.num, .slice A1 t1.perm.length c1, .slice B1 t1.kids.length d1] 25)).alloc (.cells #[.int .i64 t2.op, .int .i64 t2.num, .slice A2 t2.perm.length c2, .slice B2 t2.kids.length d2] 25)).heap.size ≤ u3.heap.size) := Lib.hid HC4.out.size
  have hdw : Below u3.heap.size u3 u3.drew := ⟨rfl, rfl, rfl, Nat.le_refl _, fun _ _ => rfl⟩
  have s5 : u3.heap.size ≤ u3.drew.heap.size := hdw.size
  have HC5 := Lib.hid (HC4.out.trans (hdw.mono HC4.out.size))
  clear hdw HC4
  have HS := HC5
  obtain ⟨b10, b11, b12, b13⟩ := HB1.out u3.drew HC5.out
  obtain ⟨b20, b21, b22, b23⟩ := HB2.out u3.drew HC5.out
  have hto0 := toFreshS_any A0 c0 l0 u3.drew (HI0.out u3.drew HS.out) (by have := HN0.out; omega)
  go_wp2
  go_region_held3 (fun w' => w'.cell? ⟨w.heap.size, 0, none⟩ = some (.int .i64 t1.op) ∧ w'.cell? ⟨w.heap.size, 1, none⟩ = some (.int .i64 t1.num) ∧ w'.cell? ⟨w.heap.size, 2, none⟩ = some (.slice A1 t1.perm.length c1) ∧ w'.cell? ⟨w.heap.size, 3, none⟩ = some (.slice B1 t1.kids.length d1) ∧ w'.cell? ⟨w.heap.size + 1, 0, none⟩ = some (.int .i64 t2.op) ∧ w'.cell? ⟨w.heap.size + 1, 1, none⟩ = some (.int .i64 t2.num) ∧ w'.cell? ⟨w.heap.size + 1, 2, none⟩ = some (.slice A2 t2.perm.length c2) ∧ w'.cell? ⟨w.heap.size + 1, 3, none⟩ = some (.slice B2 t2.kids.length d2))
    (first | (with_reducible exact ⟨by assumption, by assumption, by assumption, by assumption, by assumption, by assumption, by assumption, by assumption⟩) | ((try dsimp only); exact ⟨by assumption, by assumption, by assumption, by assumption, by assumption, by assumption, by assumption, by assumption⟩) | go_keep)
    (first
      | (go_at_call 27; refine hto0.mono ?_; rintro e w6 ⟨v0, rfl, ho0, hb0⟩; obtain ⟨Bv0, dv0, rfl, hin0⟩ := own_pairsAt ho0; have hc0 := HS.out.trans (hb0.mono HS.out.size); obtain ⟨e010, e011, e012, e013⟩ := HB1.out w6 hc0; obtain ⟨e020, e021, e022, e023⟩ := HB2.out w6 hc0; have hto1 := toTerm_any t1 HF1.out w6 _ (HI1.out w6 hc0))
      | (go_at_call_of 13 A1; refine hto1.mono ?_; rintro e w7 ⟨P1, q1, K1, r1, S1, rfl, hL1, _, hb1⟩; have hc1 := hc0.trans (hb1.mono hc0.size); have hin1 := tmOut_in hL1; have hin0 := hin0.below hb1; obtain ⟨e110, e111, e112, e113⟩ := HB1.out w7 hc1; obtain ⟨e120, e121, e122, e123⟩ := HB2.out w7 hc1; have hto2 := toTerm_any t2 HF2.out w7 _ (HI2.out w7 hc1))
      | (go_at_call_of 13 A2; refine hto2.mono ?_; rintro e w8 ⟨P2, q2, K2, r2, S2, rfl, hL2, _, hb2⟩; have hc2 := hc1.trans (hb2.mono hc1.size); have hin2 := tmOut_in hL2; have hin0 := hin0.below hb2; have hin1 := hin1.below hb2; obtain ⟨e210, e211, e212, e213⟩ := HB1.out w8 hc2; obtain ⟨e220, e221, e222, e223⟩ := HB2.out w8 hc2; have hsp := equalIn_spec Bv0 dv0 l0 t1 t2 _ _ w8 (hin0) (by have := HN0.out; omega) (hin1) (hin2) HN1.out HN2.out; rw [HFL.out] at hsp)
      | (go_at_call 29; refine hsp.mono ?_; rintro e w9 ⟨rfl, hb3⟩; have hc3 := hc2.trans (hb3.mono hc2.size); obtain ⟨e310, e311, e312, e313⟩ := HB1.out w9 hc3; obtain ⟨e320, e321, e322, e323⟩ := HB2.out w9 hc3)
      | fail)
  have hbz : Below u3.drew.heap.size u3.drew w9 := (((hb0.trans (hb1.mono (hb0).size)).trans (hb2.mono ((hb0.trans (hb1.mono (hb0).size))).size)).trans (hb3.mono (((hb0.trans (hb1.mono (hb0).size)).trans (hb2.mono ((hb0.trans (hb1.mono (hb0).size))).size))).size))
  have slo : u3.drew.heap.size ≤ w8.heap.size := (((hb0.trans (hb1.mono (hb0).size)).trans (hb2.mono ((hb0.trans (hb1.mono (hb0).size))).size))).size
  have s10 : u3.drew.heap.size ≤ w9.heap.size := hbz.size
  have HC10 := Lib.hid (HC5.out.trans (hbz.mono HC5.out.size))
  clear hbz HS hb0 hb1 hb2 hb3 hc0 hc1 hc2 hc3 hto0 hto1 hto2 hsp hin0 hin1 hin2 ho0 hL1 hL2 b10 b11 b12 b13 b20 b21 b22 b23 e010 e011 e012 e013 e020 e021 e022 e023 e110 e111 e112 e113 e120 e121 e122 e123 e210 e211 e212 e213 e220 e221 e222 e223 e310 e311 e312 e313 e320 e321 e322 e323 HC5
  have hto := toFreshS_any A0 c0 l0 w9 (HI0.out w9 HC10.out) (by have := HN0.out; omega)
  go_wp2_with fail
  refine hto.mono ?_
  rintro e w11 ⟨vX0, rfl, oX0, hb⟩
  obtain ⟨BX0, dX0, rfl, hq⟩ := own_pairsAt oX0
  have s12 : w9.heap.size ≤ w11.heap.size := hb.size
  have HC12 := Lib.hid (HC10.out.trans (hb.mono HC10.out.size))
  have HRX0 := Lib.hid (show ∀ k, (.slice BX0 l0.length dX0 : Value).ownBlock = some k → w9.heap.size ≤ k ∧ k < w11.heap.size from fun k hk => oX0.lt k hk)
  have QX0 := Lib.hid oX0
  clear hto hb hq HC10 oX0
  obtain ⟨b0, b1, b2, b3⟩ := HB1.out w11 HC12.out
  have hto := toTerm_any t1 HF1.out w11 _ (HI1.out w11 HC12.out)
  go_wp2_with fail
  refine hto.mono ?_
  rintro e w13 ⟨PX1, qX1, KX1, rX1, SX1, rfl, hL, hS, hb⟩
  have s14 : w11.heap.size ≤ w13.heap.size := hb.size
  have QX0_14 := Lib.hid (own_below QX0.out hb)
  have HC14 := Lib.hid (HC12.out.trans (hb.mono HC12.out.size))
  have HTX1 : Hid (∀ b ∈ SX1, w11.heap.size ≤ b ∧ b < w13.heap.size) := Lib.hid (fun b hb => ⟨hS b hb, hL.lt b hb⟩)
  have NX1 := Lib.hid hL
  clear hto hb hS b0 b1 b2 b3 QX0 HC12 hL
  have hbx : Below w13.heap.size w13 (w13.alloc (.cells #[.int .i64 t1.op, .int .i64 t1.num, .slice PX1 t1.perm.length qX1, .slice KX1 t1.kids.length rX1] 31)) := (Below.refl _ _).alloc (Nat.le_refl _) _
  have s15 : w13.heap.size ≤ (w13.alloc (.cells #[.int .i64 t1.op, .int .i64 t1.num, .slice PX1 t1.perm.length qX1, .slice KX1 t1.kids.length rX1] 31)).heap.size := hbx.size
  have NX1_15 := Lib.hid (NX1.out.alike (w' := (w13.alloc (.cells #[.int .i64 t1.op, .int .i64 t1.num, .slice PX1 t1.perm.length qX1, .slice KX1 t1.kids.length rX1] 31))) fun bb hbb => hbx.block bb (NX1.out.lt bb hbb))
  have QX0_15 := Lib.hid (own_below QX0_14.out hbx)
  have HC15 := Lib.hid (HC14.out.trans (hbx.mono HC14.out.size))
  have KBX1 := Lib.hid (heap_alloc_new w13 (.cells #[.int .i64 t1.op, .int .i64 t1.num, .slice PX1 t1.perm.length qX1, .slice KX1 t1.kids.length rX1] 31))
  clear hbx NX1 QX0_14 HC14
  have lt_X1 : w13.heap.size < (w13.alloc (.cells #[.int .i64 t1.op, .int .i64 t1.num, .slice PX1 t1.perm.length qX1, .slice KX1 t1.kids.length rX1] 31)).heap.size := by simp
  obtain ⟨b0, b1, b2, b3⟩ := HB2.out (w13.alloc (.cells #[.int .i64 t1.op, .int .i64 t1.num, .slice PX1 t1.perm.length qX1, .slice KX1 t1.kids.length rX1] 31)) HC15.out
  have hto := toTerm_any t2 HF2.out (w13.alloc (.cells #[.int .i64 t1.op, .int .i64 t1.num, .slice PX1 t1.perm.length qX1, .slice KX1 t1.kids.length rX1] 31)) _ (HI2.out (w13.alloc (.cells #[.int .i64 t1.op, .int .i64 t1.num, .slice PX1 t1.perm.length qX1, .slice KX1 t1.kids.length rX1] 31)) HC15.out)
  go_wp2_with fail
  refine hto.mono ?_
  rintro e w16 ⟨PX2, qX2, KX2, rX2, SX2, rfl, hL, hS, hb⟩
  have s17 : (w13.alloc (.cells #[.int .i64 t1.op, .int .i64 t1.num, .slice PX1 t1.perm.length qX1, .slice KX1 t1.kids.length rX1] 31)).heap.size ≤ w16.heap.size := hb.size
  have KBX1_17 := Lib.hid ((hb.block _ (Args4.box_lt KBX1.out)).trans KBX1.out)
  have NX1_17 := Lib.hid (NX1_15.out.alike (w' := w16) fun bb hbb => hb.block bb (NX1_15.out.lt bb hbb))
  have QX0_17 := Lib.hid (own_below QX0_15.out hb)
  have HC17 := Lib.hid (HC15.out.trans (hb.mono HC15.out.size))
  have HTX2 : Hid (∀ b ∈ SX2, (w13.alloc (.cells #[.int .i64 t1.op, .int .i64 t1.num, .slice PX1 t1.perm.length qX1, .slice KX1 t1.kids.length rX1] 31)).heap.size ≤ b ∧ b < w16.heap.size) := Lib.hid (fun b hb => ⟨hS b hb, hL.lt b hb⟩)
  have NX2 := Lib.hid hL
  clear hto hb hS b0 b1 b2 b3 KBX1 NX1_15 QX0_15 HC15 hL
  have hbx : Below w16.heap.size w16 (w16.alloc (.cells #[.int .i64 t2.op, .int .i64 t2.num, .slice PX2 t2.perm.length qX2, .slice KX2 t2.kids.length rX2] 31)) := (Below.refl _ _).alloc (Nat.le_refl _) _
  have s18 : w16.heap.size ≤ (w16.alloc (.cells #[.int .i64 t2.op, .int .i64 t2.num, .slice PX2 t2.perm.length qX2, .slice KX2 t2.kids.length rX2] 31)).heap.size := hbx.size
  have KBX1_18 := Lib.hid ((hbx.block _ (Args4.box_lt KBX1_17.out)).trans KBX1_17.out)
  have NX1_18 := Lib.hid (NX1_17.out.alike (w' := (w16.alloc (.cells #[.int .i64 t2.op, .int .i64 t2.num, .slice PX2 t2.perm.length qX2, .slice KX2 t2.kids.length rX2] 31))) fun bb hbb => hbx.block bb (NX1_17.out.lt bb hbb))
  have NX2_18 := Lib.hid (NX2.out.alike (w' := (w16.alloc (.cells #[.int .i64 t2.op, .int .i64 t2.num, .slice PX2 t2.perm.length qX2, .slice KX2 t2.kids.length rX2] 31))) fun bb hbb => hbx.block bb (NX2.out.lt bb hbb))
  have QX0_18 := Lib.hid (own_below QX0_17.out hbx)
  have HC18 := Lib.hid (HC17.out.trans (hbx.mono HC17.out.size))
  have KBX2 := Lib.hid (heap_alloc_new w16 (.cells #[.int .i64 t2.op, .int .i64 t2.num, .slice PX2 t2.perm.length qX2, .slice KX2 t2.kids.length rX2] 31))
  clear hbx KBX1_17 NX1_17 NX2 QX0_17 HC17
  have lt_X2 : w16.heap.size < (w16.alloc (.cells #[.int .i64 t2.op, .int .i64 t2.num, .slice PX2 t2.perm.length qX2, .slice KX2 t2.kids.length rX2] 31)).heap.size := by simp
  have hsp := equalIn_impl BX0 dX0 l0 t1 t2 _ _ (w16.alloc (.cells #[.int .i64 t2.op, .int .i64 t2.num, .slice PX2 t2.perm.length qX2, .slice KX2 t2.kids.length rX2] 31)) (pairsAt_of QX0_18.out) (by have := HN0.out; omega) (tmOut_in NX1_18.out) (tmOut_in NX2_18.out) HF1.out HF2.out
  rw [HFL.out] at hsp
  obtain ⟨x10, x11, x12, x13⟩ := Args4.row4 KBX1_18.out
  obtain ⟨x20, x21, x22, x23⟩ := Args4.row4 KBX2.out
  go_wp2_with fail
  refine hsp.mono ?_
  rintro e w19 ⟨rfl, hb⟩
  have s20 : (w16.alloc (.cells #[.int .i64 t2.op, .int .i64 t2.num, .slice PX2 t2.perm.length qX2, .slice KX2 t2.kids.length rX2] 31)).heap.size ≤ w19.heap.size := hb.size
  have KBX1_20 := Lib.hid ((hb.block _ (Args4.box_lt KBX1_18.out)).trans KBX1_18.out)
  have KBX2_20 := Lib.hid ((hb.block _ (Args4.box_lt KBX2.out)).trans KBX2.out)
  have NX1_20 := Lib.hid (NX1_18.out.alike (w' := w19) fun bb hbb => hb.block bb (NX1_18.out.lt bb hbb))
  have NX2_20 := Lib.hid (NX2_18.out.alike (w' := w19) fun bb hbb => hb.block bb (NX2_18.out.lt bb hbb))
  have QX0_20 := Lib.hid (own_below QX0_18.out hb)
  have HC20 := Lib.hid (HC18.out.trans (hb.mono HC18.out.size))
  clear hb KBX1_18 KBX2 NX1_18 NX2_18 QX0_18 HC18
  clear hsp x10 x11 x12 x13 x20 x21 x22 x23
  have hto := toFreshS_any A0 c0 l0 w19 (HI0.out w19 HC20.out) (by have := HN0.out; omega)
  go_wp2_with fail
  refine hto.mono ?_
  rintro e w21 ⟨vv, rfl, ho, hb⟩
  have s22 : w19.heap.size ≤ w21.heap.size := hb.size
  have KBX1_22 := Lib.hid ((hb.block _ (Args4.box_lt KBX1_20.out)).trans KBX1_20.out)
  have KBX2_22 := Lib.hid ((hb.block _ (Args4.box_lt KBX2_20.out)).trans KBX2_20.out)
  have NX1_22 := Lib.hid (NX1_20.out.alike (w' := w21) fun bb hbb => hb.block bb (NX1_20.out.lt bb hbb))
  have NX2_22 := Lib.hid (NX2_20.out.alike (w' := w21) fun bb hbb => hb.block bb (NX2_20.out.lt bb hbb))
  have QX0_22 := Lib.hid (own_below QX0_20.out hb)
  have HC22 := Lib.hid (HC20.out.trans (hb.mono HC20.out.size))
  have heq := eqFreshS_own _ _ _ _ l0 l0 w21 QX0_22.out ho (by have := HN0.out; omega)
  rw [decide_eq_true (rfl : l0 = l0)] at heq
  clear hto hb ho KBX1_20 KBX2_20 NX1_20 NX2_20 QX0_20 HC20
  go_wp2_with fail
  refine heq.mono ?_
  rintro e w23 ⟨rfl, hb⟩
  have s24 : w21.heap.size ≤ w23.heap.size := hb.size
  have KBX1_24 := Lib.hid ((hb.block _ (Args4.box_lt KBX1_22.out)).trans KBX1_22.out)
  have KBX2_24 := Lib.hid ((hb.block _ (Args4.box_lt KBX2_22.out)).trans KBX2_22.out)
  have NX1_24 := Lib.hid (NX1_22.out.alike (w' := w23) fun bb hbb => hb.block bb (NX1_22.out.lt bb hbb))
  have NX2_24 := Lib.hid (NX2_22.out.alike (w' := w23) fun bb hbb => hb.block bb (NX2_22.out.lt bb hbb))
  have QX0_24 := Lib.hid (own_below QX0_22.out hb)
  have HC24 := Lib.hid (HC22.out.trans (hb.mono HC22.out.size))
  clear heq hb KBX1_22 KBX2_22 NX1_22 NX2_22 QX0_22 HC22
  have hdw : Below w23.heap.size w23 w23.drew := ⟨rfl, rfl, rfl, Nat.le_refl _, fun _ _ => rfl⟩
  have s25 : w23.heap.size ≤ w23.drew.heap.size := hdw.size
  have KBX1_25 := Lib.hid ((hdw.block _ (Args4.box_lt KBX1_24.out)).trans KBX1_24.out)
  have KBX2_25 := Lib.hid ((hdw.block _ (Args4.box_lt KBX2_24.out)).trans KBX2_24.out)
  have NX1_25 := Lib.hid (NX1_24.out.alike (w' := w23.drew) fun bb hbb => hdw.block bb (NX1_24.out.lt bb hbb))
  have NX2_25 := Lib.hid (NX2_24.out.alike (w' := w23.drew) fun bb hbb => hdw.block bb (NX2_24.out.lt bb hbb))
  have QX0_25 := Lib.hid (own_below QX0_24.out hdw)
  have HC25 := Lib.hid (HC24.out.trans (hdw.mono HC24.out.size))
  clear hdw KBX1_24 KBX2_24 NX1_24 NX2_24 QX0_24 HC24
  have HS := HC25
  have HX := KBX1_25
  obtain ⟨b0, b1, b2, b3⟩ := HB1.out w23.drew HC25.out
  obtain ⟨x0, x1, x2, x3⟩ := Args4.row4 KBX1_25.out
  have hxx := tmOut_in NX1_25.out
  have hto := toTerm_any t1 HF1.out w23.drew _ (HI1.out w23.drew HS.out)
  go_wp2
  go_region_held3 (fun w' => w'.cell? ⟨w.heap.size, 0, none⟩ = some (.int .i64 t1.op) ∧ w'.cell? ⟨w.heap.size, 1, none⟩ = some (.int .i64 t1.num) ∧ w'.cell? ⟨w.heap.size, 2, none⟩ = some (.slice A1 t1.perm.length c1) ∧ w'.cell? ⟨w.heap.size, 3, none⟩ = some (.slice B1 t1.kids.length d1) ∧ w'.cell? ⟨w13.heap.size, 0, none⟩ = some (.int .i64 t1.op) ∧ w'.cell? ⟨w13.heap.size, 1, none⟩ = some (.int .i64 t1.num) ∧ w'.cell? ⟨w13.heap.size, 2, none⟩ = some (.slice PX1 t1.perm.length qX1) ∧ w'.cell? ⟨w13.heap.size, 3, none⟩ = some (.slice KX1 t1.kids.length rX1))
    (first | (with_reducible exact ⟨by assumption, by assumption, by assumption, by assumption, by assumption, by assumption, by assumption, by assumption⟩) | ((try dsimp only); exact ⟨by assumption, by assumption, by assumption, by assumption, by assumption, by assumption, by assumption, by assumption⟩) | go_keep)
    (first
      | (go_at_call 13; refine hto.mono ?_; rintro e w26 ⟨PZ, qZ, KZ, rZ, SZ, rfl, hLZ, _, hb1⟩; have hc1 := HS.out.trans (hb1.mono HS.out.size); have hzz := tmOut_in hLZ; have hyy := hxx.below hb1; obtain ⟨e0, e1, e2, e3⟩ := HB1.out w26 hc1; obtain ⟨e4, e5, e6, e7⟩ := Args4.row4 (((hb1).block _ (Args4.box_lt HX.out)).trans HX.out))
      | (go_at_call 15; refine (eqTerm_any t1 HF1.out _ _ _ hyy hzz).mono ?_; rintro e w27 ⟨rfl, hb2⟩; have hbz := hb1.trans (hb2.mono hb1.size); have hc2 := HS.out.trans (hbz.mono HS.out.size); obtain ⟨g0, g1, g2, g3⟩ := HB1.out w27 hc2; obtain ⟨g4, g5, g6, g7⟩ := Args4.row4 (((hbz).block _ (Args4.box_lt HX.out)).trans HX.out))
      | fail)
  have s28 : w23.drew.heap.size ≤ w27.heap.size := hbz.size
  have KBX1_28 := Lib.hid ((hbz.block _ (Args4.box_lt KBX1_25.out)).trans KBX1_25.out)
  have KBX2_28 := Lib.hid ((hbz.block _ (Args4.box_lt KBX2_25.out)).trans KBX2_25.out)
  have NX1_28 := Lib.hid (NX1_25.out.alike (w' := w27) fun bb hbb => hbz.block bb (NX1_25.out.lt bb hbb))
  have NX2_28 := Lib.hid (NX2_25.out.alike (w' := w27) fun bb hbb => hbz.block bb (NX2_25.out.lt bb hbb))
  have QX0_28 := Lib.hid (own_below QX0_25.out hbz)
  have HC28 := Lib.hid (HC25.out.trans (hbz.mono HC25.out.size))
  clear hbz hb1 hb2 hc1 hc2 hzz hyy hxx hLZ hto HS HX b0 b1 b2 b3 x0 x1 x2 x3 e0 e1 e2 e3 e4 e5 e6 e7 g0 g1 g2 g3 g4 g5 g6 g7 KBX1_25 KBX2_25 NX1_25 NX2_25 QX0_25 HC25
  have hdw : Below w27.heap.size w27 w27.drew := ⟨rfl, rfl, rfl, Nat.le_refl _, fun _ _ => rfl⟩
  have s29 : w27.heap.size ≤ w27.drew.heap.size := hdw.size
  have KBX1_29 := Lib.hid ((hdw.block _ (Args4.box_lt KBX1_28.out)).trans KBX1_28.out)
  have KBX2_29 := Lib.hid ((hdw.block _ (Args4.box_lt KBX2_28.out)).trans KBX2_28.out)
  have NX1_29 := Lib.hid (NX1_28.out.alike (w' := w27.drew) fun bb hbb => hdw.block bb (NX1_28.out.lt bb hbb))
  have NX2_29 := Lib.hid (NX2_28.out.alike (w' := w27.drew) fun bb hbb => hdw.block bb (NX2_28.out.lt bb hbb))
  have QX0_29 := Lib.hid (own_below QX0_28.out hdw)
  have HC29 := Lib.hid (HC28.out.trans (hdw.mono HC28.out.size))
  clear hdw KBX1_28 KBX2_28 NX1_28 NX2_28 QX0_28 HC28
  have HS := HC29
  have HX := KBX2_29
  obtain ⟨b0, b1, b2, b3⟩ := HB2.out w27.drew HC29.out
  obtain ⟨x0, x1, x2, x3⟩ := Args4.row4 KBX2_29.out
  have hxx := tmOut_in NX2_29.out
  have hto := toTerm_any t2 HF2.out w27.drew _ (HI2.out w27.drew HS.out)
  go_wp2
  go_region_held3 (fun w' => w'.cell? ⟨w.heap.size + 1, 0, none⟩ = some (.int .i64 t2.op) ∧ w'.cell? ⟨w.heap.size + 1, 1, none⟩ = some (.int .i64 t2.num) ∧ w'.cell? ⟨w.heap.size + 1, 2, none⟩ = some (.slice A2 t2.perm.length c2) ∧ w'.cell? ⟨w.heap.size + 1, 3, none⟩ = some (.slice B2 t2.kids.length d2) ∧ w'.cell? ⟨w16.heap.size, 0, none⟩ = some (.int .i64 t2.op) ∧ w'.cell? ⟨w16.heap.size, 1, none⟩ = some (.int .i64 t2.num) ∧ w'.cell? ⟨w16.heap.size, 2, none⟩ = some (.slice PX2 t2.perm.length qX2) ∧ w'.cell? ⟨w16.heap.size, 3, none⟩ = some (.slice KX2 t2.kids.length rX2))
    (first | (with_reducible exact ⟨by assumption, by assumption, by assumption, by assumption, by assumption, by assumption, by assumption, by assumption⟩) | ((try dsimp only); exact ⟨by assumption, by assumption, by assumption, by assumption, by assumption, by assumption, by assumption, by assumption⟩) | go_keep)
    (first
      | (go_at_call 13; refine hto.mono ?_; rintro e w30 ⟨PZ, qZ, KZ, rZ, SZ, rfl, hLZ, _, hb1⟩; have hc1 := HS.out.trans (hb1.mono HS.out.size); have hzz := tmOut_in hLZ; have hyy := hxx.below hb1; obtain ⟨e0, e1, e2, e3⟩ := HB2.out w30 hc1; obtain ⟨e4, e5, e6, e7⟩ := Args4.row4 (((hb1).block _ (Args4.box_lt HX.out)).trans HX.out))
      | (go_at_call 15; refine (eqTerm_any t2 HF2.out _ _ _ hyy hzz).mono ?_; rintro e w31 ⟨rfl, hb2⟩; have hbz := hb1.trans (hb2.mono hb1.size); have hc2 := HS.out.trans (hbz.mono HS.out.size); obtain ⟨g0, g1, g2, g3⟩ := HB2.out w31 hc2; obtain ⟨g4, g5, g6, g7⟩ := Args4.row4 (((hbz).block _ (Args4.box_lt HX.out)).trans HX.out))
      | fail)
  have s32 : w27.drew.heap.size ≤ w31.heap.size := hbz.size
  have KBX1_32 := Lib.hid ((hbz.block _ (Args4.box_lt KBX1_29.out)).trans KBX1_29.out)
  have KBX2_32 := Lib.hid ((hbz.block _ (Args4.box_lt KBX2_29.out)).trans KBX2_29.out)
  have NX1_32 := Lib.hid (NX1_29.out.alike (w' := w31) fun bb hbb => hbz.block bb (NX1_29.out.lt bb hbb))
  have NX2_32 := Lib.hid (NX2_29.out.alike (w' := w31) fun bb hbb => hbz.block bb (NX2_29.out.lt bb hbb))
  have QX0_32 := Lib.hid (own_below QX0_29.out hbz)
  have HC32 := Lib.hid (HC29.out.trans (hbz.mono HC29.out.size))
  clear hbz hb1 hb2 hc1 hc2 hzz hyy hxx hLZ hto HS HX b0 b1 b2 b3 x0 x1 x2 x3 e0 e1 e2 e3 e4 e5 e6 e7 g0 g1 g2 g3 g4 g5 g6 g7 KBX1_29 KBX2_29 NX1_29 NX2_29 QX0_29 HC29
  have hfin := HW0.out.trans (HC32.out.mono HW0.out.size)
  go_wp2
  go_ret
  exact ⟨rfl, hfin⟩

theorem walk (w : World) (A0 : Option Addr) (c0 : Nat) (l0 : List (Int × Int)) (hA0 : PairsAt w A0 l0) (hm0 : l0.length ≤ maxLen) (x1 : Value) (t1 : Tm) (hx1 : TmIn w x1 t1) (hs1 : Short t1) (x2 : Value) (t2 : Tm) (hx2 : TmIn w x2 t2) (hs2 : Short t2) :
    Calls Tryz.prog 7 #[.slice A0 l0.length c0, x1, x2] w fun e w' => e = .returned (.bool true) ∧ Below w.heap.size w w' := by
  by_cases hn0 : (l0.length : Int) ≤ 1048576
  · skip
    by_cases hn1 : (cntT t1 : Int) ≤ 1048576 - (l0.length : Int)
    · skip
      by_cases hn2 : (cntT t2 : Int) ≤ 1048576 - (l0.length : Int) - (cntT t1 : Int)
      · skip
        exact walk_yes w A0 c0 l0 hA0 hm0 x1 t1 hx1 hs1 x2 t2 hx2 hs2 hn0 hn1 hn2
      · exact walk_no2 w A0 c0 l0 hA0 hm0 x1 t1 hx1 hs1 x2 t2 hx2 hs2 hn0 hn1 hn2
    · exact walk_no1 w A0 c0 l0 hA0 hm0 x1 t1 hx1 hs1 x2 t2 hx2 hs2 hn0 hn1
  · exact walk_no0 w A0 c0 l0 hA0 hm0 x1 t1 hx1 hs1 x2 t2 hx2 hs2 hn0

set_option maxRecDepth 100000 in
theorem lifted (os : Os) (started : os.Started) (H : Type) (enc : TypeId × Value → H) :
    ReturnsInHanded {} Tryz.checked os 7 .any (Rows.fnExactEqualInSpec.pre6 enc Tryz.prog Tryz.f7 Rows.fnExactEqualInRow.domain false) (Rows.fnExactEqualInSpec.post enc Tryz.prog Tryz.f7 false true false false) := by
  refine returnsInHanded_of_change (C := Tryz.checked) own started (by kernel_rfl) Tryz.func7
    (ChangeSpec.witness6 (enc := enc) (C := Tryz.checked) false ⟨#[], #[.slice none 0 0, .agg #[.int .i64 0, .int .i64 0, .slice none 0 0, .slice none 0 0], .agg #[.int .i64 0, .int .i64 0, .slice none 0 0, .slice none 0 0]], []⟩ 8 (by kernel_rfl) (by kernel_rfl) (by kernel_rfl) (by kernel_rfl)) ?_
  intro W base args ds gs before hval0 hW hcnd _
  have hval : ∀ (j : Nat) t v, Tryz.f7.params[j]? = some t → args[j]? = some v → Value.okWide Tryz.prog W .any base t v := hval0
  have hW' := hW
  obtain ⟨p, q, hA0, hV, rfl, hfz, hnd⟩ := hW
  have hA : DataW.TrodAll enc Tryz.prog W 0 (fun _ => true) true Tryz.f7.params.toList args.toList ds p := hA0
  rw [Tryz.params7] at hA hval
  obtain ⟨v0, vs0, d0, ds0, p0, q0, hargs, rfl, rfl, h0, r0⟩ := trodAll_cons hA
  obtain ⟨v1, vs1, d1, ds1, p1, q1, rfl, rfl, rfl, h1, r1⟩ := trodAll_cons r0
  obtain ⟨v2, vs2, d2, ds2, p2, q2, rfl, rfl, rfl, h2, r2⟩ := trodAll_cons r1
  obtain ⟨rfl, rfl, rfl⟩ := trodAll_nil r2
  obtain rfl : args = #[v0, v1, v2] := by cases args; simp_all
  obtain ⟨rfl, rfl⟩ := trodVars_none hV
  have k0 := h0
  have lt0 : ∀ x ∈ p0, x.block < W.heap.size := by obtain ⟨m, hm⟩ := k0; exact DataW.trod_lt m _ _ _ hm
  have k1 := h1
  have lt1 : ∀ x ∈ p1, x.block < W.heap.size := by obtain ⟨m, hm⟩ := k1; exact DataW.trod_lt m _ _ _ hm
  have k2 := h2
  have lt2 : ∀ x ∈ p2, x.block < W.heap.size := by obtain ⟨m, hm⟩ := k2; exact DataW.trod_lt m _ _ _ hm
  obtain ⟨A0, n0, c0, rfl⟩ := okWide_slice Tryz.underlying43 (hval 0 43 v0 rfl rfl)
  obtain ⟨l0, rfl, w0, m0⟩ := open_freshs h0
  obtain ⟨t1, tx1, ts1⟩ := open_term (hval 1 25 v1 rfl rfl) h1
  obtain ⟨t2, tx2, ts2⟩ := open_term (hval 2 25 v2 rfl rfl) h2
  clear hA0 hval0
  refine (walk W A0 c0 l0 w0 m0 v1 t1 tx1 ts1 v2 t2 tx2 ts2).mono fun e W' ⟨he, bel⟩ => ?_
  subst he
  exact ⟨_, rfl, _, _, _, [], _, [], hW', trodAll_mk1 (shut_bool Tryz.underlying4 _), (trodAll_cons_mk (Below.trod laidOut (by kernel_rfl) (of_decide_eq_true (by kernel_rfl)) k0 bel lt0) (trodAll_cons_mk (Below.trod laidOut (by kernel_rfl) (of_decide_eq_true (by kernel_rfl)) k1 bel lt1) (trodAll_cons_mk (Below.trod laidOut (by kernel_rfl) (of_decide_eq_true (by kernel_rfl)) k2 bel lt2) trodAll_mk0))), rfl, bel.frame _, fun h => by cases h⟩

theorem over : Rows.fnExactEqualInRow.holds Tryz.pinned (OpenSpec.ofChange Rows.fnExactEqualInSpec) :=
  OpenClaim.holds_of_wide 7 Tryz.f7 rfl rfl rfl rfl rfl rfl rfl ⟨rfl, rfl, rfl, rfl, rfl⟩ rfl rfl rfl rfl rfl (by kernel_rfl) Tryz.func7 (by kernel_rfl)
    (of_decide_eq_true (by kernel_rfl)) (by unfold Func.isWrapper; first | (rw [if_pos (by decide +kernel)]; kernel_rfl) | (rw [if_neg (by decide +kernel)]; exact ⟨rfl, rfl⟩))
    (fun os started H enc _ => lifted os started H enc)

theorem proved : Rows.FnExactEqualInSaid := over
#print axioms proved
end Go.Proofs.YtbfkfklaplgebaaGreat.fnExactEqualIn
