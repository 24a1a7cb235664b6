/-
  The law FnExactSameSet returns true for every two values: the program decides as the model whether two orbit sets are the same set, and leaves its arguments as they were. No condition.
-/
import Derived.Test.YtdbogjhkcnajkaaKSameSet30
import Derived.Test.YtdbogjhkcnajkaaKSameSet32
import Derived.Test.YtdbogjhkcnajkaaKSameSet31
namespace Go.Proofs.Ytdbogjhkcnajkaa.fnExactSameSet
open Go.ChangeShapes Go.WideShapes Go.ChangeAt Go.RowKit
set_option linter.unusedVariables false

namespace Args4
theorem box_lt {w : World} {g : Nat} {o : Obj} (h : w.heap[g]? = some o) : g < w.heap.size := (Array.getElem?_eq_some_iff.1 h).1
theorem row4 {w : World} {g : Nat} {a b c d : Value} {T : TypeId} (h : w.heap[g]? = some (.cells #[a, b, c, d] T (0, 0))) : w.cell? ⟨g, 0, none⟩ = some a ∧ w.cell? ⟨g, 1, none⟩ = some b ∧ w.cell? ⟨g, 2, none⟩ = some c ∧ w.cell? ⟨g, 3, none⟩ = some d := by
  refine ⟨?_, ?_, ?_, ?_⟩ <;> rw [cell_of_row w g _ _ _ _ h] <;> rfl
end Args4
theorem pairsAt_of {w : World} {base n : Nat} {e : TypeId} {B : Option Addr} {d : Nat} {l : List (Int × Int)} (h : w.ownsRow base e 2 (.slice B n d) l.length (cellsOf l)) : PairsAt w B l := by
  obtain ⟨A, c, ee, hp⟩ := own_pairsAt h
  injection ee with e1 e2 e3
  subst e1
  exact hp

set_option maxRecDepth 100000 in
set_option maxHeartbeats 16000000 in
theorem walk_no0 (w : World) (x0 : Value) (z0 : Int) (l0 : List Int) (m0 : List (List Int)) (hx0 : OrbIn w x0 z0 l0 m0) (hs0 : ShortO l0 m0) (x1 : Value) (z1 : Int) (l1 : List Int) (m1 : List (List Int)) (hx1 : OrbIn w x1 z1 l1 m1) (hs1 : ShortO l1 m1) (hn0 : ¬ ((l0.length + (m0.length + sumR m0) : Nat) : Int) ≤ 1048576) :
    Calls Try.prog 13 #[x0, x1] w fun e w' => e = .returned (.bool true) ∧ Below w.heap.size w w' := by
  obtain ⟨A0, c0, B0, d0, rfl, hp0, hk0⟩ := hx0
  obtain ⟨A1, c1, B1, d1, rfl, hp1, hk1⟩ := hx1
  have hb0 : Below w.heap.size w ((w.alloc (.cells #[.int .i64 z0, .slice A0 l0.length c0, .slice B0 m0.length d0] 39)).alloc (.cells #[.int .i64 z1, .slice A1 l1.length c1, .slice B1 m1.length d1] 39)) := (((Below.refl _ w).alloc (by first | exact Nat.le_refl _ | (simp; done) | (simp; omega)) _).alloc (by first | exact Nat.le_refl _ | (simp; done) | (simp; omega)) _)
  have HI0 : Hid (∀ w' : World, Below ((w.alloc (.cells #[.int .i64 z0, .slice A0 l0.length c0, .slice B0 m0.length d0] 39)).alloc (.cells #[.int .i64 z1, .slice A1 l1.length c1, .slice B1 m1.length d1] 39)).heap.size ((w.alloc (.cells #[.int .i64 z0, .slice A0 l0.length c0, .slice B0 m0.length d0] 39)).alloc (.cells #[.int .i64 z1, .slice A1 l1.length c1, .slice B1 m1.length d1] 39)) w' → OrbIn w' (.agg #[.int .i64 z0, .slice A0 l0.length c0, .slice B0 m0.length d0]) z0 l0 m0) := Lib.hid (fun w' h => ⟨A0, c0, B0, d0, rfl, hp0.below (hb0.trans (h.mono hb0.size)), hk0.below (hb0.trans (h.mono hb0.size))⟩)
  have HI1 : Hid (∀ w' : World, Below ((w.alloc (.cells #[.int .i64 z0, .slice A0 l0.length c0, .slice B0 m0.length d0] 39)).alloc (.cells #[.int .i64 z1, .slice A1 l1.length c1, .slice B1 m1.length d1] 39)).heap.size ((w.alloc (.cells #[.int .i64 z0, .slice A0 l0.length c0, .slice B0 m0.length d0] 39)).alloc (.cells #[.int .i64 z1, .slice A1 l1.length c1, .slice B1 m1.length d1] 39)) w' → OrbIn w' (.agg #[.int .i64 z1, .slice A1 l1.length c1, .slice B1 m1.length d1]) z1 l1 m1) := Lib.hid (fun w' h => ⟨A1, c1, B1, d1, rfl, hp1.below (hb0.trans (h.mono hb0.size)), hk1.below (hb0.trans (h.mono hb0.size))⟩)
  have kk0 : ((w.alloc (.cells #[.int .i64 z0, .slice A0 l0.length c0, .slice B0 m0.length d0] 39)).alloc (.cells #[.int .i64 z1, .slice A1 l1.length c1, .slice B1 m1.length d1] 39)).heap[w.heap.size]? = some (.cells #[.int .i64 z0, .slice A0 l0.length c0, .slice B0 m0.length d0] 39 (0, 0)) := by
    have h := heap_alloc_new w (.cells #[.int .i64 z0, .slice A0 l0.length c0, .slice B0 m0.length d0] 39)
    exact ((Below.heap_alloc _ _ _ (by first | (simp; done) | (simp; omega))).trans h)
  obtain ⟨b00, b01, b02⟩ := OrbK.row3 kk0
  have lt0 : w.heap.size < ((w.alloc (.cells #[.int .i64 z0, .slice A0 l0.length c0, .slice B0 m0.length d0] 39)).alloc (.cells #[.int .i64 z1, .slice A1 l1.length c1, .slice B1 m1.length d1] 39)).heap.size := by first | (simp; done) | (simp; omega)
  have kk1 : ((w.alloc (.cells #[.int .i64 z0, .slice A0 l0.length c0, .slice B0 m0.length d0] 39)).alloc (.cells #[.int .i64 z1, .slice A1 l1.length c1, .slice B1 m1.length d1] 39)).heap[w.heap.size + 1]? = some (.cells #[.int .i64 z1, .slice A1 l1.length c1, .slice B1 m1.length d1] 39 (0, 0)) := by
    have h := heap_alloc_new (w.alloc (.cells #[.int .i64 z0, .slice A0 l0.length c0, .slice B0 m0.length d0] 39)) (.cells #[.int .i64 z1, .slice A1 l1.length c1, .slice B1 m1.length d1] 39)
    simp only [World.size_alloc] at h
    exact h
  obtain ⟨b10, b11, b12⟩ := OrbK.row3 kk1
  have lt1 : w.heap.size + 1 < ((w.alloc (.cells #[.int .i64 z0, .slice A0 l0.length c0, .slice B0 m0.length d0] 39)).alloc (.cells #[.int .i64 z1, .slice A1 l1.length c1, .slice B1 m1.length d1] 39)).heap.size := by first | (simp; done) | (simp; omega)
  have HB0 : Hid (∀ w' : World, Below ((w.alloc (.cells #[.int .i64 z0, .slice A0 l0.length c0, .slice B0 m0.length d0] 39)).alloc (.cells #[.int .i64 z1, .slice A1 l1.length c1, .slice B1 m1.length d1] 39)).heap.size ((w.alloc (.cells #[.int .i64 z0, .slice A0 l0.length c0, .slice B0 m0.length d0] 39)).alloc (.cells #[.int .i64 z1, .slice A1 l1.length c1, .slice B1 m1.length d1] 39)) w' → w'.cell? ⟨w.heap.size, 0, none⟩ = some (.int .i64 z0) ∧ w'.cell? ⟨w.heap.size, 1, none⟩ = some (.slice A0 l0.length c0) ∧ w'.cell? ⟨w.heap.size, 2, none⟩ = some (.slice B0 m0.length d0)) := Lib.hid (fun w' h => ⟨(h.cell (p := ⟨w.heap.size, 0, none⟩) lt0).trans b00, (h.cell (p := ⟨w.heap.size, 1, none⟩) lt0).trans b01, (h.cell (p := ⟨w.heap.size, 2, none⟩) lt0).trans b02⟩)
  have HB1 : Hid (∀ w' : World, Below ((w.alloc (.cells #[.int .i64 z0, .slice A0 l0.length c0, .slice B0 m0.length d0] 39)).alloc (.cells #[.int .i64 z1, .slice A1 l1.length c1, .slice B1 m1.length d1] 39)).heap.size ((w.alloc (.cells #[.int .i64 z0, .slice A0 l0.length c0, .slice B0 m0.length d0] 39)).alloc (.cells #[.int .i64 z1, .slice A1 l1.length c1, .slice B1 m1.length d1] 39)) w' → w'.cell? ⟨w.heap.size + 1, 0, none⟩ = some (.int .i64 z1) ∧ w'.cell? ⟨w.heap.size + 1, 1, none⟩ = some (.slice A1 l1.length c1) ∧ w'.cell? ⟨w.heap.size + 1, 2, none⟩ = some (.slice B1 m1.length d1)) := Lib.hid (fun w' h => ⟨(h.cell (p := ⟨w.heap.size + 1, 0, none⟩) lt1).trans b10, (h.cell (p := ⟨w.heap.size + 1, 1, none⟩) lt1).trans b11, (h.cell (p := ⟨w.heap.size + 1, 2, none⟩) lt1).trans b12⟩)
  clear hp0 hk0 kk0 lt0 hp1 hk1 kk1 lt1
  have HC0 : Hid (Below ((w.alloc (.cells #[.int .i64 z0, .slice A0 l0.length c0, .slice B0 m0.length d0] 39)).alloc (.cells #[.int .i64 z1, .slice A1 l1.length c1, .slice B1 m1.length d1] 39)).heap.size ((w.alloc (.cells #[.int .i64 z0, .slice A0 l0.length c0, .slice B0 m0.length d0] 39)).alloc (.cells #[.int .i64 z1, .slice A1 l1.length c1, .slice B1 m1.length d1] 39)) ((w.alloc (.cells #[.int .i64 z0, .slice A0 l0.length c0, .slice B0 m0.length d0] 39)).alloc (.cells #[.int .i64 z1, .slice A1 l1.length c1, .slice B1 m1.length d1] 39))) := Lib.hid (Below.refl _ _)
  have HW0 := Lib.hid hb0
  clear hb0
  go_enter Try.func13, Try.ntmps13
  have hsz := szOrbitSet_any z0 l0 m0 hs0 (1048576) ((w.alloc (.cells #[.int .i64 z0, .slice A0 l0.length c0, .slice B0 m0.length d0] 39)).alloc (.cells #[.int .i64 z1, .slice A1 l1.length c1, .slice B1 m1.length d1] 39)) _ (by omega) (by omega) (HI0.out ((w.alloc (.cells #[.int .i64 z0, .slice A0 l0.length c0, .slice B0 m0.length d0] 39)).alloc (.cells #[.int .i64 z1, .slice A1 l1.length c1, .slice B1 m1.length d1] 39)) HC0.out)
  unfold LeftPost at hsz
  rw [leftR_no (by omega)] at hsz
  go_wp2_with fail
  refine hsz.mono ?_
  rintro e u1 ⟨rfl, hb⟩
  clear hsz b00 b01 b02 b10 b11 b12
  have s2 : ((w.alloc (.cells #[.int .i64 z0, .slice A0 l0.length c0, .slice B0 m0.length d0] 39)).alloc (.cells #[.int .i64 z1, .slice A1 l1.length c1, .slice B1 m1.length d1] 39)).heap.size ≤ u1.heap.size := hb.size
  have HC2 := Lib.hid (HC0.out.trans (hb.mono HC0.out.size))
  clear hb HC0
  have hfin := HW0.out.trans (HC2.out.mono HW0.out.size)
  go_wp2
  go_ret
  exact ⟨rfl, hfin⟩

set_option maxRecDepth 100000 in
set_option maxHeartbeats 16000000 in
theorem walk_no1 (w : World) (x0 : Value) (z0 : Int) (l0 : List Int) (m0 : List (List Int)) (hx0 : OrbIn w x0 z0 l0 m0) (hs0 : ShortO l0 m0) (x1 : Value) (z1 : Int) (l1 : List Int) (m1 : List (List Int)) (hx1 : OrbIn w x1 z1 l1 m1) (hs1 : ShortO l1 m1) (hn0 : ((l0.length + (m0.length + sumR m0) : Nat) : Int) ≤ 1048576) (hn1 : ¬ ((l1.length + (m1.length + sumR m1) : Nat) : Int) ≤ 1048576 - ((l0.length + (m0.length + sumR m0) : Nat) : Int)) :
    Calls Try.prog 13 #[x0, x1] w fun e w' => e = .returned (.bool true) ∧ Below w.heap.size w w' := by
  obtain ⟨A0, c0, B0, d0, rfl, hp0, hk0⟩ := hx0
  obtain ⟨A1, c1, B1, d1, rfl, hp1, hk1⟩ := hx1
  have hb0 : Below w.heap.size w ((w.alloc (.cells #[.int .i64 z0, .slice A0 l0.length c0, .slice B0 m0.length d0] 39)).alloc (.cells #[.int .i64 z1, .slice A1 l1.length c1, .slice B1 m1.length d1] 39)) := (((Below.refl _ w).alloc (by first | exact Nat.le_refl _ | (simp; done) | (simp; omega)) _).alloc (by first | exact Nat.le_refl _ | (simp; done) | (simp; omega)) _)
  have HI0 : Hid (∀ w' : World, Below ((w.alloc (.cells #[.int .i64 z0, .slice A0 l0.length c0, .slice B0 m0.length d0] 39)).alloc (.cells #[.int .i64 z1, .slice A1 l1.length c1, .slice B1 m1.length d1] 39)).heap.size ((w.alloc (.cells #[.int .i64 z0, .slice A0 l0.length c0, .slice B0 m0.length d0] 39)).alloc (.cells #[.int .i64 z1, .slice A1 l1.length c1, .slice B1 m1.length d1] 39)) w' → OrbIn w' (.agg #[.int .i64 z0, .slice A0 l0.length c0, .slice B0 m0.length d0]) z0 l0 m0) := Lib.hid (fun w' h => ⟨A0, c0, B0, d0, rfl, hp0.below (hb0.trans (h.mono hb0.size)), hk0.below (hb0.trans (h.mono hb0.size))⟩)
  have HI1 : Hid (∀ w' : World, Below ((w.alloc (.cells #[.int .i64 z0, .slice A0 l0.length c0, .slice B0 m0.length d0] 39)).alloc (.cells #[.int .i64 z1, .slice A1 l1.length c1, .slice B1 m1.length d1] 39)).heap.size ((w.alloc (.cells #[.int .i64 z0, .slice A0 l0.length c0, .slice B0 m0.length d0] 39)).alloc (.cells #[.int .i64 z1, .slice A1 l1.length c1, .slice B1 m1.length d1] 39)) w' → OrbIn w' (.agg #[.int .i64 z1, .slice A1 l1.length c1, .slice B1 m1.length d1]) z1 l1 m1) := Lib.hid (fun w' h => ⟨A1, c1, B1, d1, rfl, hp1.below (hb0.trans (h.mono hb0.size)), hk1.below (hb0.trans (h.mono hb0.size))⟩)
  have kk0 : ((w.alloc (.cells #[.int .i64 z0, .slice A0 l0.length c0, .slice B0 m0.length d0] 39)).alloc (.cells #[.int .i64 z1, .slice A1 l1.length c1, .slice B1 m1.length d1] 39)).heap[w.heap.size]? = some (.cells #[.int .i64 z0, .slice A0 l0.length c0, .slice B0 m0.length d0] 39 (0, 0)) := by
    have h := heap_alloc_new w (.cells #[.int .i64 z0, .slice A0 l0.length c0, .slice B0 m0.length d0] 39)
    exact ((Below.heap_alloc _ _ _ (by first | (simp; done) | (simp; omega))).trans h)
  obtain ⟨b00, b01, b02⟩ := OrbK.row3 kk0
  have lt0 : w.heap.size < ((w.alloc (.cells #[.int .i64 z0, .slice A0 l0.length c0, .slice B0 m0.length d0] 39)).alloc (.cells #[.int .i64 z1, .slice A1 l1.length c1, .slice B1 m1.length d1] 39)).heap.size := by first | (simp; done) | (simp; omega)
  have kk1 : ((w.alloc (.cells #[.int .i64 z0, .slice A0 l0.length c0, .slice B0 m0.length d0] 39)).alloc (.cells #[.int .i64 z1, .slice A1 l1.length c1, .slice B1 m1.length d1] 39)).heap[w.heap.size + 1]? = some (.cells #[.int .i64 z1, .slice A1 l1.length c1, .slice B1 m1.length d1] 39 (0, 0)) := by
    have h := heap_alloc_new (w.alloc (.cells #[.int .i64 z0, .slice A0 l0.length c0, .slice B0 m0.length d0] 39)) (.cells #[.int .i64 z1, .slice A1 l1.length c1, .slice B1 m1.length d1] 39)
    simp only [World.size_alloc] at h
    exact h
  obtain ⟨b10, b11, b12⟩ := OrbK.row3 kk1
  have lt1 : w.heap.size + 1 < ((w.alloc (.cells #[.int .i64 z0, .slice A0 l0.length c0, .slice B0 m0.length d0] 39)).alloc (.cells #[.int .i64 z1, .slice A1 l1.length c1, .slice B1 m1.length d1] 39)).heap.size := by first | (simp; done) | (simp; omega)
  have HB0 : Hid (∀ w' : World, Below ((w.alloc (.cells #[.int .i64 z0, .slice A0 l0.length c0, .slice B0 m0.length d0] 39)).alloc (.cells #[.int .i64 z1, .slice A1 l1.length c1, .slice B1 m1.length d1] 39)).heap.size ((w.alloc (.cells #[.int .i64 z0, .slice A0 l0.length c0, .slice B0 m0.length d0] 39)).alloc (.cells #[.int .i64 z1, .slice A1 l1.length c1, .slice B1 m1.length d1] 39)) w' → w'.cell? ⟨w.heap.size, 0, none⟩ = some (.int .i64 z0) ∧ w'.cell? ⟨w.heap.size, 1, none⟩ = some (.slice A0 l0.length c0) ∧ w'.cell? ⟨w.heap.size, 2, none⟩ = some (.slice B0 m0.length d0)) := Lib.hid (fun w' h => ⟨(h.cell (p := ⟨w.heap.size, 0, none⟩) lt0).trans b00, (h.cell (p := ⟨w.heap.size, 1, none⟩) lt0).trans b01, (h.cell (p := ⟨w.heap.size, 2, none⟩) lt0).trans b02⟩)
  have HB1 : Hid (∀ w' : World, Below ((w.alloc (.cells #[.int .i64 z0, .slice A0 l0.length c0, .slice B0 m0.length d0] 39)).alloc (.cells #[.int .i64 z1, .slice A1 l1.length c1, .slice B1 m1.length d1] 39)).heap.size ((w.alloc (.cells #[.int .i64 z0, .slice A0 l0.length c0, .slice B0 m0.length d0] 39)).alloc (.cells #[.int .i64 z1, .slice A1 l1.length c1, .slice B1 m1.length d1] 39)) w' → w'.cell? ⟨w.heap.size + 1, 0, none⟩ = some (.int .i64 z1) ∧ w'.cell? ⟨w.heap.size + 1, 1, none⟩ = some (.slice A1 l1.length c1) ∧ w'.cell? ⟨w.heap.size + 1, 2, none⟩ = some (.slice B1 m1.length d1)) := Lib.hid (fun w' h => ⟨(h.cell (p := ⟨w.heap.size + 1, 0, none⟩) lt1).trans b10, (h.cell (p := ⟨w.heap.size + 1, 1, none⟩) lt1).trans b11, (h.cell (p := ⟨w.heap.size + 1, 2, none⟩) lt1).trans b12⟩)
  clear hp0 hk0 kk0 lt0 hp1 hk1 kk1 lt1
  have HC0 : Hid (Below ((w.alloc (.cells #[.int .i64 z0, .slice A0 l0.length c0, .slice B0 m0.length d0] 39)).alloc (.cells #[.int .i64 z1, .slice A1 l1.length c1, .slice B1 m1.length d1] 39)).heap.size ((w.alloc (.cells #[.int .i64 z0, .slice A0 l0.length c0, .slice B0 m0.length d0] 39)).alloc (.cells #[.int .i64 z1, .slice A1 l1.length c1, .slice B1 m1.length d1] 39)) ((w.alloc (.cells #[.int .i64 z0, .slice A0 l0.length c0, .slice B0 m0.length d0] 39)).alloc (.cells #[.int .i64 z1, .slice A1 l1.length c1, .slice B1 m1.length d1] 39))) := Lib.hid (Below.refl _ _)
  have HW0 := Lib.hid hb0
  clear hb0
  go_enter Try.func13, Try.ntmps13
  have hsz := szOrbitSet_any z0 l0 m0 hs0 (1048576) ((w.alloc (.cells #[.int .i64 z0, .slice A0 l0.length c0, .slice B0 m0.length d0] 39)).alloc (.cells #[.int .i64 z1, .slice A1 l1.length c1, .slice B1 m1.length d1] 39)) _ (by omega) (by omega) (HI0.out ((w.alloc (.cells #[.int .i64 z0, .slice A0 l0.length c0, .slice B0 m0.length d0] 39)).alloc (.cells #[.int .i64 z1, .slice A1 l1.length c1, .slice B1 m1.length d1] 39)) HC0.out)
  unfold LeftPost at hsz
  rw [leftR_yes hn0] at hsz
  have hleft0 : ¬ 1048576 - ((l0.length + (m0.length + sumR m0) : Nat) : Int) < 0 := by omega
  go_wp2_with fail
  refine hsz.mono ?_
  rintro e u1 ⟨rfl, hb⟩
  clear hsz b00 b01 b02 b10 b11 b12
  have s2 : ((w.alloc (.cells #[.int .i64 z0, .slice A0 l0.length c0, .slice B0 m0.length d0] 39)).alloc (.cells #[.int .i64 z1, .slice A1 l1.length c1, .slice B1 m1.length d1] 39)).heap.size ≤ u1.heap.size := hb.size
  have HC2 := Lib.hid (HC0.out.trans (hb.mono HC0.out.size))
  clear hb HC0
  obtain ⟨b10, b11, b12⟩ := HB1.out u1 HC2.out
  have hsz := szOrbitSet_any z1 l1 m1 hs1 (1048576 - ((l0.length + (m0.length + sumR m0) : Nat) : Int)) u1 _ (by omega) (by omega) (HI1.out u1 HC2.out)
  unfold LeftPost at hsz
  rw [leftR_no (by omega)] at hsz
  go_wp2_with fail
  refine hsz.mono ?_
  rintro e u3 ⟨rfl, hb⟩
  clear hsz b10 b11 b12
  have s4 : u1.heap.size ≤ u3.heap.size := hb.size
  have HC4 := Lib.hid (HC2.out.trans (hb.mono HC2.out.size))
  clear hb HC2
  have hfin := HW0.out.trans (HC4.out.mono HW0.out.size)
  go_wp2
  go_ret
  exact ⟨rfl, hfin⟩

set_option maxRecDepth 100000 in
set_option maxHeartbeats 16000000 in
theorem walk_yes (w : World) (x0 : Value) (z0 : Int) (l0 : List Int) (m0 : List (List Int)) (hx0 : OrbIn w x0 z0 l0 m0) (hs0 : ShortO l0 m0) (x1 : Value) (z1 : Int) (l1 : List Int) (m1 : List (List Int)) (hx1 : OrbIn w x1 z1 l1 m1) (hs1 : ShortO l1 m1) (hn0 : ((l0.length + (m0.length + sumR m0) : Nat) : Int) ≤ 1048576) (hn1 : ((l1.length + (m1.length + sumR m1) : Nat) : Int) ≤ 1048576 - ((l0.length + (m0.length + sumR m0) : Nat) : Int)) :
    Calls Try.prog 13 #[x0, x1] w fun e w' => e = .returned (.bool true) ∧ Below w.heap.size w w' := by
  have HF0 : Hid (FitO l0 m0) := Lib.hid (fitO_of (by omega))
  have hmk0 : l0.length + sumR m0 ≤ 1048576 := by omega
  have HF1 : Hid (FitO l1 m1) := Lib.hid (fitO_of (by omega))
  have hmk1 : l1.length + sumR m1 ≤ 1048576 := by omega
  generalize hFF : sameSB z0 l0 m0 z1 l1 m1 = fl
  have HFL := Lib.hid hFF
  have hfl : (fl != fl) = false := by simp
  clear hFF
  obtain ⟨A0, c0, B0, d0, rfl, hp0, hk0⟩ := hx0
  obtain ⟨A1, c1, B1, d1, rfl, hp1, hk1⟩ := hx1
  have hb0 : Below w.heap.size w ((w.alloc (.cells #[.int .i64 z0, .slice A0 l0.length c0, .slice B0 m0.length d0] 39)).alloc (.cells #[.int .i64 z1, .slice A1 l1.length c1, .slice B1 m1.length d1] 39)) := (((Below.refl _ w).alloc (by first | exact Nat.le_refl _ | (simp; done) | (simp; omega)) _).alloc (by first | exact Nat.le_refl _ | (simp; done) | (simp; omega)) _)
  have HI0 : Hid (∀ w' : World, Below ((w.alloc (.cells #[.int .i64 z0, .slice A0 l0.length c0, .slice B0 m0.length d0] 39)).alloc (.cells #[.int .i64 z1, .slice A1 l1.length c1, .slice B1 m1.length d1] 39)).heap.size ((w.alloc (.cells #[.int .i64 z0, .slice A0 l0.length c0, .slice B0 m0.length d0] 39)).alloc (.cells #[.int .i64 z1, .slice A1 l1.length c1, .slice B1 m1.length d1] 39)) w' → OrbIn w' (.agg #[.int .i64 z0, .slice A0 l0.length c0, .slice B0 m0.length d0]) z0 l0 m0) := Lib.hid (fun w' h => ⟨A0, c0, B0, d0, rfl, hp0.below (hb0.trans (h.mono hb0.size)), hk0.below (hb0.trans (h.mono hb0.size))⟩)
  have HI1 : Hid (∀ w' : World, Below ((w.alloc (.cells #[.int .i64 z0, .slice A0 l0.length c0, .slice B0 m0.length d0] 39)).alloc (.cells #[.int .i64 z1, .slice A1 l1.length c1, .slice B1 m1.length d1] 39)).heap.size ((w.alloc (.cells #[.int .i64 z0, .slice A0 l0.length c0, .slice B0 m0.length d0] 39)).alloc (.cells #[.int .i64 z1, .slice A1 l1.length c1, .slice B1 m1.length d1] 39)) w' → OrbIn w' (.agg #[.int .i64 z1, .slice A1 l1.length c1, .slice B1 m1.length d1]) z1 l1 m1) := Lib.hid (fun w' h => ⟨A1, c1, B1, d1, rfl, hp1.below (hb0.trans (h.mono hb0.size)), hk1.below (hb0.trans (h.mono hb0.size))⟩)
  have kk0 : ((w.alloc (.cells #[.int .i64 z0, .slice A0 l0.length c0, .slice B0 m0.length d0] 39)).alloc (.cells #[.int .i64 z1, .slice A1 l1.length c1, .slice B1 m1.length d1] 39)).heap[w.heap.size]? = some (.cells #[.int .i64 z0, .slice A0 l0.length c0, .slice B0 m0.length d0] 39 (0, 0)) := by
    have h := heap_alloc_new w (.cells #[.int .i64 z0, .slice A0 l0.length c0, .slice B0 m0.length d0] 39)
    exact ((Below.heap_alloc _ _ _ (by first | (simp; done) | (simp; omega))).trans h)
  obtain ⟨b00, b01, b02⟩ := OrbK.row3 kk0
  have lt0 : w.heap.size < ((w.alloc (.cells #[.int .i64 z0, .slice A0 l0.length c0, .slice B0 m0.length d0] 39)).alloc (.cells #[.int .i64 z1, .slice A1 l1.length c1, .slice B1 m1.length d1] 39)).heap.size := by first | (simp; done) | (simp; omega)
  have kk1 : ((w.alloc (.cells #[.int .i64 z0, .slice A0 l0.length c0, .slice B0 m0.length d0] 39)).alloc (.cells #[.int .i64 z1, .slice A1 l1.length c1, .slice B1 m1.length d1] 39)).heap[w.heap.size + 1]? = some (.cells #[.int .i64 z1, .slice A1 l1.length c1, .slice B1 m1.length d1] 39 (0, 0)) := by
    have h := heap_alloc_new (w.alloc (.cells #[.int .i64 z0, .slice A0 l0.length c0, .slice B0 m0.length d0] 39)) (.cells #[.int .i64 z1, .slice A1 l1.length c1, .slice B1 m1.length d1] 39)
    simp only [World.size_alloc] at h
    exact h
  obtain ⟨b10, b11, b12⟩ := OrbK.row3 kk1
  have lt1 : w.heap.size + 1 < ((w.alloc (.cells #[.int .i64 z0, .slice A0 l0.length c0, .slice B0 m0.length d0] 39)).alloc (.cells #[.int .i64 z1, .slice A1 l1.length c1, .slice B1 m1.length d1] 39)).heap.size := by first | (simp; done) | (simp; omega)
  have HB0 : Hid (∀ w' : World, Below ((w.alloc (.cells #[.int .i64 z0, .slice A0 l0.length c0, .slice B0 m0.length d0] 39)).alloc (.cells #[.int .i64 z1, .slice A1 l1.length c1, .slice B1 m1.length d1] 39)).heap.size ((w.alloc (.cells #[.int .i64 z0, .slice A0 l0.length c0, .slice B0 m0.length d0] 39)).alloc (.cells #[.int .i64 z1, .slice A1 l1.length c1, .slice B1 m1.length d1] 39)) w' → w'.cell? ⟨w.heap.size, 0, none⟩ = some (.int .i64 z0) ∧ w'.cell? ⟨w.heap.size, 1, none⟩ = some (.slice A0 l0.length c0) ∧ w'.cell? ⟨w.heap.size, 2, none⟩ = some (.slice B0 m0.length d0)) := Lib.hid (fun w' h => ⟨(h.cell (p := ⟨w.heap.size, 0, none⟩) lt0).trans b00, (h.cell (p := ⟨w.heap.size, 1, none⟩) lt0).trans b01, (h.cell (p := ⟨w.heap.size, 2, none⟩) lt0).trans b02⟩)
  have HB1 : Hid (∀ w' : World, Below ((w.alloc (.cells #[.int .i64 z0, .slice A0 l0.length c0, .slice B0 m0.length d0] 39)).alloc (.cells #[.int .i64 z1, .slice A1 l1.length c1, .slice B1 m1.length d1] 39)).heap.size ((w.alloc (.cells #[.int .i64 z0, .slice A0 l0.length c0, .slice B0 m0.length d0] 39)).alloc (.cells #[.int .i64 z1, .slice A1 l1.length c1, .slice B1 m1.length d1] 39)) w' → w'.cell? ⟨w.heap.size + 1, 0, none⟩ = some (.int .i64 z1) ∧ w'.cell? ⟨w.heap.size + 1, 1, none⟩ = some (.slice A1 l1.length c1) ∧ w'.cell? ⟨w.heap.size + 1, 2, none⟩ = some (.slice B1 m1.length d1)) := Lib.hid (fun w' h => ⟨(h.cell (p := ⟨w.heap.size + 1, 0, none⟩) lt1).trans b10, (h.cell (p := ⟨w.heap.size + 1, 1, none⟩) lt1).trans b11, (h.cell (p := ⟨w.heap.size + 1, 2, none⟩) lt1).trans b12⟩)
  clear hp0 hk0 kk0 lt0 hp1 hk1 kk1 lt1
  have HC0 : Hid (Below ((w.alloc (.cells #[.int .i64 z0, .slice A0 l0.length c0, .slice B0 m0.length d0] 39)).alloc (.cells #[.int .i64 z1, .slice A1 l1.length c1, .slice B1 m1.length d1] 39)).heap.size ((w.alloc (.cells #[.int .i64 z0, .slice A0 l0.length c0, .slice B0 m0.length d0] 39)).alloc (.cells #[.int .i64 z1, .slice A1 l1.length c1, .slice B1 m1.length d1] 39)) ((w.alloc (.cells #[.int .i64 z0, .slice A0 l0.length c0, .slice B0 m0.length d0] 39)).alloc (.cells #[.int .i64 z1, .slice A1 l1.length c1, .slice B1 m1.length d1] 39))) := Lib.hid (Below.refl _ _)
  have HW0 := Lib.hid hb0
  clear hb0
  go_enter Try.func13, Try.ntmps13
  have hsz := szOrbitSet_any z0 l0 m0 hs0 (1048576) ((w.alloc (.cells #[.int .i64 z0, .slice A0 l0.length c0, .slice B0 m0.length d0] 39)).alloc (.cells #[.int .i64 z1, .slice A1 l1.length c1, .slice B1 m1.length d1] 39)) _ (by omega) (by omega) (HI0.out ((w.alloc (.cells #[.int .i64 z0, .slice A0 l0.length c0, .slice B0 m0.length d0] 39)).alloc (.cells #[.int .i64 z1, .slice A1 l1.length c1, .slice B1 m1.length d1] 39)) HC0.out)
  unfold LeftPost at hsz
  rw [leftR_yes hn0] at hsz
  have hleft0 : ¬ 1048576 - ((l0.length + (m0.length + sumR m0) : Nat) : Int) < 0 := by omega
  go_wp2_with fail
  refine hsz.mono ?_
  rintro e u1 ⟨rfl, hb⟩
  clear hsz b00 b01 b02 b10 b11 b12
  have s2 : ((w.alloc (.cells #[.int .i64 z0, .slice A0 l0.length c0, .slice B0 m0.length d0] 39)).alloc (.cells #[.int .i64 z1, .slice A1 l1.length c1, .slice B1 m1.length d1] 39)).heap.size ≤ u1.heap.size := hb.size
  have HC2 := Lib.hid (HC0.out.trans (hb.mono HC0.out.size))
  clear hb HC0
  obtain ⟨b10, b11, b12⟩ := HB1.out u1 HC2.out
  have hsz := szOrbitSet_any z1 l1 m1 hs1 (1048576 - ((l0.length + (m0.length + sumR m0) : Nat) : Int)) u1 _ (by omega) (by omega) (HI1.out u1 HC2.out)
  unfold LeftPost at hsz
  rw [leftR_yes hn1] at hsz
  have hleft1 : ¬ 1048576 - ((l0.length + (m0.length + sumR m0) : Nat) : Int) - ((l1.length + (m1.length + sumR m1) : Nat) : Int) < 0 := by omega
  go_wp2_with fail
  refine hsz.mono ?_
  rintro e u3 ⟨rfl, hb⟩
  clear hsz b10 b11 b12
  have s4 : u1.heap.size ≤ u3.heap.size := hb.size
  have HC4 := Lib.hid (HC2.out.trans (hb.mono HC2.out.size))
  clear hb HC2
  have HZ : Hid (((w.alloc (.cells #[.int .i64 z0, .slice A0 l0.length c0, .slice B0 m0.length d0] 39)).alloc (.cells #[.int .i64 z1, .slice A1 l1.length c1, .slice B1 m1.length d1] 39)).heap.size ≤ u3.heap.size) := Lib.hid HC4.out.size
  have hdw : Below u3.heap.size u3 u3.drew := ⟨rfl, rfl, rfl, Nat.le_refl _, fun _ _ => rfl⟩
  have s5 : u3.heap.size ≤ u3.drew.heap.size := hdw.size
  have HC5 := Lib.hid (HC4.out.trans (hdw.mono HC4.out.size))
  clear hdw HC4
  have HS := HC5
  obtain ⟨b00, b01, b02⟩ := HB0.out u3.drew HC5.out
  obtain ⟨b10, b11, b12⟩ := HB1.out u3.drew HC5.out
  have hto0 := toOrbitSet_any z0 l0 m0 HF0.out u3.drew _ (HI0.out u3.drew HS.out)
  go_wp2
  go_region_held3 (fun w' => w'.cell? ⟨w.heap.size, 0, none⟩ = some (.int .i64 z0) ∧ w'.cell? ⟨w.heap.size, 1, none⟩ = some (.slice A0 l0.length c0) ∧ w'.cell? ⟨w.heap.size, 2, none⟩ = some (.slice B0 m0.length d0) ∧ w'.cell? ⟨w.heap.size + 1, 0, none⟩ = some (.int .i64 z1) ∧ w'.cell? ⟨w.heap.size + 1, 1, none⟩ = some (.slice A1 l1.length c1) ∧ w'.cell? ⟨w.heap.size + 1, 2, none⟩ = some (.slice B1 m1.length d1))
    (first | (with_reducible exact ⟨by assumption, by assumption, by assumption, by assumption, by assumption, by assumption⟩) | ((try dsimp only); exact ⟨by assumption, by assumption, by assumption, by assumption, by assumption, by assumption⟩) | go_keep)
    (first
      | (go_at_call_of 32 A0; refine hto0.mono ?_; rintro e w6 ⟨P0, q0, K0, r0, S0, rfl, hL0, _, hb0⟩; have hc0 := HS.out.trans (hb0.mono HS.out.size); have hin0 := orbOut_ix hL0; obtain ⟨e000, e001, e002⟩ := HB0.out w6 hc0; obtain ⟨e010, e011, e012⟩ := HB1.out w6 hc0; have hto1 := toOrbitSet_any z1 l1 m1 HF1.out w6 _ (HI1.out w6 hc0))
      | (go_at_call_of 32 A1; refine hto1.mono ?_; rintro e w7 ⟨P1, q1, K1, r1, S1, rfl, hL1, _, hb1⟩; have hc1 := hc0.trans (hb1.mono hc0.size); have hin1 := orbOut_ix hL1; have hin0 := hin0.below hb1; obtain ⟨e100, e101, e102⟩ := HB0.out w7 hc1; obtain ⟨e110, e111, e112⟩ := HB1.out w7 hc1; have hsp := sameSet_spec z0 l0 m0 HF0.out _ z1 l1 m1 HF1.out _ w7 (hin0) (hin1); rw [HFL.out] at hsp)
      | (go_at_call 52; refine hsp.mono ?_; rintro e w8 ⟨rfl, hb2⟩; have hc2 := hc1.trans (hb2.mono hc1.size); obtain ⟨e200, e201, e202⟩ := HB0.out w8 hc2; obtain ⟨e210, e211, e212⟩ := HB1.out w8 hc2)
      | fail)
  have hbz : Below u3.drew.heap.size u3.drew w8 := ((hb0.trans (hb1.mono (hb0).size)).trans (hb2.mono ((hb0.trans (hb1.mono (hb0).size))).size))
  have slo : u3.drew.heap.size ≤ w7.heap.size := ((hb0.trans (hb1.mono (hb0).size))).size
  have s9 : u3.drew.heap.size ≤ w8.heap.size := hbz.size
  have HC9 := Lib.hid (HC5.out.trans (hbz.mono HC5.out.size))
  clear hbz HS hb0 hb1 hb2 hc0 hc1 hc2 hto0 hto1 hsp hin0 hin1 hL0 hL1 b00 b01 b02 b10 b11 b12 e000 e001 e002 e010 e011 e012 e100 e101 e102 e110 e111 e112 e200 e201 e202 e210 e211 e212 HC5
  obtain ⟨b0, b1, b2⟩ := HB0.out w8 HC9.out
  have hto := toOrbitSet_any z0 l0 m0 HF0.out w8 _ (HI0.out w8 HC9.out)
  go_wp2_with fail
  refine hto.mono ?_
  rintro e w10 ⟨PX0, qX0, KX0, rX0, SX0, rfl, hL, hS, hb⟩
  have s11 : w8.heap.size ≤ w10.heap.size := hb.size
  have HC11 := Lib.hid (HC9.out.trans (hb.mono HC9.out.size))
  have HTX0 : Hid (∀ b ∈ SX0, w8.heap.size ≤ b ∧ b < w10.heap.size) := Lib.hid (fun b hb => ⟨hS b hb, hL.lt b hb⟩)
  have NX0 := Lib.hid hL
  clear hto hb hS b0 b1 b2 HC9 hL
  have hbx : Below w10.heap.size w10 (w10.alloc (.cells #[.int .i64 z0, .slice PX0 l0.length qX0, .slice KX0 m0.length rX0] 29)) := (Below.refl _ _).alloc (Nat.le_refl _) _
  have s12 : w10.heap.size ≤ (w10.alloc (.cells #[.int .i64 z0, .slice PX0 l0.length qX0, .slice KX0 m0.length rX0] 29)).heap.size := hbx.size
  have NX0_12 := Lib.hid (NX0.out.alike (w' := (w10.alloc (.cells #[.int .i64 z0, .slice PX0 l0.length qX0, .slice KX0 m0.length rX0] 29))) fun bb hbb => hbx.block bb (NX0.out.lt bb hbb))
  have HC12 := Lib.hid (HC11.out.trans (hbx.mono HC11.out.size))
  have KBX0 := Lib.hid (heap_alloc_new w10 (.cells #[.int .i64 z0, .slice PX0 l0.length qX0, .slice KX0 m0.length rX0] 29))
  clear hbx NX0 HC11
  have lt_X0 : w10.heap.size < (w10.alloc (.cells #[.int .i64 z0, .slice PX0 l0.length qX0, .slice KX0 m0.length rX0] 29)).heap.size := by simp
  obtain ⟨b0, b1, b2⟩ := HB1.out (w10.alloc (.cells #[.int .i64 z0, .slice PX0 l0.length qX0, .slice KX0 m0.length rX0] 29)) HC12.out
  have hto := toOrbitSet_any z1 l1 m1 HF1.out (w10.alloc (.cells #[.int .i64 z0, .slice PX0 l0.length qX0, .slice KX0 m0.length rX0] 29)) _ (HI1.out (w10.alloc (.cells #[.int .i64 z0, .slice PX0 l0.length qX0, .slice KX0 m0.length rX0] 29)) HC12.out)
  go_wp2_with fail
  refine hto.mono ?_
  rintro e w13 ⟨PX1, qX1, KX1, rX1, SX1, rfl, hL, hS, hb⟩
  have s14 : (w10.alloc (.cells #[.int .i64 z0, .slice PX0 l0.length qX0, .slice KX0 m0.length rX0] 29)).heap.size ≤ w13.heap.size := hb.size
  have KBX0_14 := Lib.hid ((hb.block _ (Args4.box_lt KBX0.out)).trans KBX0.out)
  have NX0_14 := Lib.hid (NX0_12.out.alike (w' := w13) fun bb hbb => hb.block bb (NX0_12.out.lt bb hbb))
  have HC14 := Lib.hid (HC12.out.trans (hb.mono HC12.out.size))
  have HTX1 : Hid (∀ b ∈ SX1, (w10.alloc (.cells #[.int .i64 z0, .slice PX0 l0.length qX0, .slice KX0 m0.length rX0] 29)).heap.size ≤ b ∧ b < w13.heap.size) := Lib.hid (fun b hb => ⟨hS b hb, hL.lt b hb⟩)
  have NX1 := Lib.hid hL
  clear hto hb hS b0 b1 b2 KBX0 NX0_12 HC12 hL
  have hbx : Below w13.heap.size w13 (w13.alloc (.cells #[.int .i64 z1, .slice PX1 l1.length qX1, .slice KX1 m1.length rX1] 29)) := (Below.refl _ _).alloc (Nat.le_refl _) _
  have s15 : w13.heap.size ≤ (w13.alloc (.cells #[.int .i64 z1, .slice PX1 l1.length qX1, .slice KX1 m1.length rX1] 29)).heap.size := hbx.size
  have KBX0_15 := Lib.hid ((hbx.block _ (Args4.box_lt KBX0_14.out)).trans KBX0_14.out)
  have NX0_15 := Lib.hid (NX0_14.out.alike (w' := (w13.alloc (.cells #[.int .i64 z1, .slice PX1 l1.length qX1, .slice KX1 m1.length rX1] 29))) fun bb hbb => hbx.block bb (NX0_14.out.lt bb hbb))
  have NX1_15 := Lib.hid (NX1.out.alike (w' := (w13.alloc (.cells #[.int .i64 z1, .slice PX1 l1.length qX1, .slice KX1 m1.length rX1] 29))) fun bb hbb => hbx.block bb (NX1.out.lt bb hbb))
  have HC15 := Lib.hid (HC14.out.trans (hbx.mono HC14.out.size))
  have KBX1 := Lib.hid (heap_alloc_new w13 (.cells #[.int .i64 z1, .slice PX1 l1.length qX1, .slice KX1 m1.length rX1] 29))
  clear hbx KBX0_14 NX0_14 NX1 HC14
  have lt_X1 : w13.heap.size < (w13.alloc (.cells #[.int .i64 z1, .slice PX1 l1.length qX1, .slice KX1 m1.length rX1] 29)).heap.size := by simp
  have hsp := sameSet_impl z0 l0 m0 HF0.out _ z1 l1 m1 HF1.out _ (w13.alloc (.cells #[.int .i64 z1, .slice PX1 l1.length qX1, .slice KX1 m1.length rX1] 29)) (orbOut_ix NX0_15.out) (orbOut_ix NX1_15.out)
  rw [HFL.out] at hsp
  obtain ⟨x00, x01, x02⟩ := OrbK.row3 KBX0_15.out
  obtain ⟨x10, x11, x12⟩ := OrbK.row3 KBX1.out
  go_wp2_with fail
  refine hsp.mono ?_
  rintro e w16 ⟨rfl, hb⟩
  have s17 : (w13.alloc (.cells #[.int .i64 z1, .slice PX1 l1.length qX1, .slice KX1 m1.length rX1] 29)).heap.size ≤ w16.heap.size := hb.size
  have KBX0_17 := Lib.hid ((hb.block _ (Args4.box_lt KBX0_15.out)).trans KBX0_15.out)
  have KBX1_17 := Lib.hid ((hb.block _ (Args4.box_lt KBX1.out)).trans KBX1.out)
  have NX0_17 := Lib.hid (NX0_15.out.alike (w' := w16) fun bb hbb => hb.block bb (NX0_15.out.lt bb hbb))
  have NX1_17 := Lib.hid (NX1_15.out.alike (w' := w16) fun bb hbb => hb.block bb (NX1_15.out.lt bb hbb))
  have HC17 := Lib.hid (HC15.out.trans (hb.mono HC15.out.size))
  clear hb KBX0_15 KBX1 NX0_15 NX1_15 HC15
  clear hsp x00 x01 x02 x10 x11 x12
  have hdw : Below w16.heap.size w16 w16.drew := ⟨rfl, rfl, rfl, Nat.le_refl _, fun _ _ => rfl⟩
  have s18 : w16.heap.size ≤ w16.drew.heap.size := hdw.size
  have KBX0_18 := Lib.hid ((hdw.block _ (Args4.box_lt KBX0_17.out)).trans KBX0_17.out)
  have KBX1_18 := Lib.hid ((hdw.block _ (Args4.box_lt KBX1_17.out)).trans KBX1_17.out)
  have NX0_18 := Lib.hid (NX0_17.out.alike (w' := w16.drew) fun bb hbb => hdw.block bb (NX0_17.out.lt bb hbb))
  have NX1_18 := Lib.hid (NX1_17.out.alike (w' := w16.drew) fun bb hbb => hdw.block bb (NX1_17.out.lt bb hbb))
  have HC18 := Lib.hid (HC17.out.trans (hdw.mono HC17.out.size))
  clear hdw KBX0_17 KBX1_17 NX0_17 NX1_17 HC17
  have HS := HC18
  have HX := KBX0_18
  obtain ⟨b0, b1, b2⟩ := HB0.out w16.drew HC18.out
  obtain ⟨x0, x1, x2⟩ := OrbK.row3 KBX0_18.out
  have hxx := orbOut_ix NX0_18.out
  have hto := toOrbitSet_any z0 l0 m0 HF0.out w16.drew _ (HI0.out w16.drew HS.out)
  go_wp2
  go_region_held3 (fun w' => w'.cell? ⟨w.heap.size, 0, none⟩ = some (.int .i64 z0) ∧ w'.cell? ⟨w.heap.size, 1, none⟩ = some (.slice A0 l0.length c0) ∧ w'.cell? ⟨w.heap.size, 2, none⟩ = some (.slice B0 m0.length d0) ∧ w'.cell? ⟨w10.heap.size, 0, none⟩ = some (.int .i64 z0) ∧ w'.cell? ⟨w10.heap.size, 1, none⟩ = some (.slice PX0 l0.length qX0) ∧ w'.cell? ⟨w10.heap.size, 2, none⟩ = some (.slice KX0 m0.length rX0))
    (first | (with_reducible exact ⟨by assumption, by assumption, by assumption, by assumption, by assumption, by assumption⟩) | ((try dsimp only); exact ⟨by assumption, by assumption, by assumption, by assumption, by assumption, by assumption⟩) | go_keep)
    (first
      | (go_at_call 32; refine hto.mono ?_; rintro e w19 ⟨PZ, qZ, KZ, rZ, SZ, rfl, hLZ, _, hb1⟩; have hc1 := HS.out.trans (hb1.mono HS.out.size); have hzz := orbOut_ix hLZ; have hyy := hxx.below hb1; obtain ⟨e0, e1, e2⟩ := HB0.out w19 hc1; obtain ⟨e3, e4, e5⟩ := OrbK.row3 (((hb1).block _ (Args4.box_lt HX.out)).trans HX.out))
      | (go_at_call 25; refine (eqOrbitSet_any z0 l0 m0 HF0.out _ _ _ hyy hzz).mono ?_; rintro e w20 ⟨rfl, hb2⟩; have hbz := hb1.trans (hb2.mono hb1.size); have hc2 := HS.out.trans (hbz.mono HS.out.size); obtain ⟨g0, g1, g2⟩ := HB0.out w20 hc2; obtain ⟨g3, g4, g5⟩ := OrbK.row3 (((hbz).block _ (Args4.box_lt HX.out)).trans HX.out))
      | fail)
  have s21 : w16.drew.heap.size ≤ w20.heap.size := hbz.size
  have KBX0_21 := Lib.hid ((hbz.block _ (Args4.box_lt KBX0_18.out)).trans KBX0_18.out)
  have KBX1_21 := Lib.hid ((hbz.block _ (Args4.box_lt KBX1_18.out)).trans KBX1_18.out)
  have NX0_21 := Lib.hid (NX0_18.out.alike (w' := w20) fun bb hbb => hbz.block bb (NX0_18.out.lt bb hbb))
  have NX1_21 := Lib.hid (NX1_18.out.alike (w' := w20) fun bb hbb => hbz.block bb (NX1_18.out.lt bb hbb))
  have HC21 := Lib.hid (HC18.out.trans (hbz.mono HC18.out.size))
  clear hbz hb1 hb2 hc1 hc2 hzz hyy hxx hLZ hto HS HX b0 b1 b2 x0 x1 x2 e0 e1 e2 e3 e4 e5 g0 g1 g2 g3 g4 g5 KBX0_18 KBX1_18 NX0_18 NX1_18 HC18
  have hdw : Below w20.heap.size w20 w20.drew := ⟨rfl, rfl, rfl, Nat.le_refl _, fun _ _ => rfl⟩
  have s22 : w20.heap.size ≤ w20.drew.heap.size := hdw.size
  have KBX0_22 := Lib.hid ((hdw.block _ (Args4.box_lt KBX0_21.out)).trans KBX0_21.out)
  have KBX1_22 := Lib.hid ((hdw.block _ (Args4.box_lt KBX1_21.out)).trans KBX1_21.out)
  have NX0_22 := Lib.hid (NX0_21.out.alike (w' := w20.drew) fun bb hbb => hdw.block bb (NX0_21.out.lt bb hbb))
  have NX1_22 := Lib.hid (NX1_21.out.alike (w' := w20.drew) fun bb hbb => hdw.block bb (NX1_21.out.lt bb hbb))
  have HC22 := Lib.hid (HC21.out.trans (hdw.mono HC21.out.size))
  clear hdw KBX0_21 KBX1_21 NX0_21 NX1_21 HC21
  have HS := HC22
  have HX := KBX1_22
  obtain ⟨b0, b1, b2⟩ := HB1.out w20.drew HC22.out
  obtain ⟨x0, x1, x2⟩ := OrbK.row3 KBX1_22.out
  have hxx := orbOut_ix NX1_22.out
  have hto := toOrbitSet_any z1 l1 m1 HF1.out w20.drew _ (HI1.out w20.drew HS.out)
  go_wp2
  go_region_held3 (fun w' => w'.cell? ⟨w.heap.size + 1, 0, none⟩ = some (.int .i64 z1) ∧ w'.cell? ⟨w.heap.size + 1, 1, none⟩ = some (.slice A1 l1.length c1) ∧ w'.cell? ⟨w.heap.size + 1, 2, none⟩ = some (.slice B1 m1.length d1) ∧ w'.cell? ⟨w13.heap.size, 0, none⟩ = some (.int .i64 z1) ∧ w'.cell? ⟨w13.heap.size, 1, none⟩ = some (.slice PX1 l1.length qX1) ∧ w'.cell? ⟨w13.heap.size, 2, none⟩ = some (.slice KX1 m1.length rX1))
    (first | (with_reducible exact ⟨by assumption, by assumption, by assumption, by assumption, by assumption, by assumption⟩) | ((try dsimp only); exact ⟨by assumption, by assumption, by assumption, by assumption, by assumption, by assumption⟩) | go_keep)
    (first
      | (go_at_call 32; refine hto.mono ?_; rintro e w23 ⟨PZ, qZ, KZ, rZ, SZ, rfl, hLZ, _, hb1⟩; have hc1 := HS.out.trans (hb1.mono HS.out.size); have hzz := orbOut_ix hLZ; have hyy := hxx.below hb1; obtain ⟨e0, e1, e2⟩ := HB1.out w23 hc1; obtain ⟨e3, e4, e5⟩ := OrbK.row3 (((hb1).block _ (Args4.box_lt HX.out)).trans HX.out))
      | (go_at_call 25; refine (eqOrbitSet_any z1 l1 m1 HF1.out _ _ _ hyy hzz).mono ?_; rintro e w24 ⟨rfl, hb2⟩; have hbz := hb1.trans (hb2.mono hb1.size); have hc2 := HS.out.trans (hbz.mono HS.out.size); obtain ⟨g0, g1, g2⟩ := HB1.out w24 hc2; obtain ⟨g3, g4, g5⟩ := OrbK.row3 (((hbz).block _ (Args4.box_lt HX.out)).trans HX.out))
      | fail)
  have s25 : w20.drew.heap.size ≤ w24.heap.size := hbz.size
  have KBX0_25 := Lib.hid ((hbz.block _ (Args4.box_lt KBX0_22.out)).trans KBX0_22.out)
  have KBX1_25 := Lib.hid ((hbz.block _ (Args4.box_lt KBX1_22.out)).trans KBX1_22.out)
  have NX0_25 := Lib.hid (NX0_22.out.alike (w' := w24) fun bb hbb => hbz.block bb (NX0_22.out.lt bb hbb))
  have NX1_25 := Lib.hid (NX1_22.out.alike (w' := w24) fun bb hbb => hbz.block bb (NX1_22.out.lt bb hbb))
  have HC25 := Lib.hid (HC22.out.trans (hbz.mono HC22.out.size))
  clear hbz hb1 hb2 hc1 hc2 hzz hyy hxx hLZ hto HS HX b0 b1 b2 x0 x1 x2 e0 e1 e2 e3 e4 e5 g0 g1 g2 g3 g4 g5 KBX0_22 KBX1_22 NX0_22 NX1_22 HC22
  have hfin := HW0.out.trans (HC25.out.mono HW0.out.size)
  go_wp2
  go_ret
  exact ⟨rfl, hfin⟩

theorem walk (w : World) (x0 : Value) (z0 : Int) (l0 : List Int) (m0 : List (List Int)) (hx0 : OrbIn w x0 z0 l0 m0) (hs0 : ShortO l0 m0) (x1 : Value) (z1 : Int) (l1 : List Int) (m1 : List (List Int)) (hx1 : OrbIn w x1 z1 l1 m1) (hs1 : ShortO l1 m1) :
    Calls Try.prog 13 #[x0, x1] w fun e w' => e = .returned (.bool true) ∧ Below w.heap.size w w' := by
  by_cases hn0 : ((l0.length + (m0.length + sumR m0) : Nat) : Int) ≤ 1048576
  · skip
    by_cases hn1 : ((l1.length + (m1.length + sumR m1) : Nat) : Int) ≤ 1048576 - ((l0.length + (m0.length + sumR m0) : Nat) : Int)
    · skip
      exact walk_yes w x0 z0 l0 m0 hx0 hs0 x1 z1 l1 m1 hx1 hs1 hn0 hn1
    · exact walk_no1 w x0 z0 l0 m0 hx0 hs0 x1 z1 l1 m1 hx1 hs1 hn0 hn1
  · exact walk_no0 w x0 z0 l0 m0 hx0 hs0 x1 z1 l1 m1 hx1 hs1 hn0

set_option maxRecDepth 100000 in
theorem lifted (os : Os) (started : os.Started) (H : Type) (enc : TypeId × Value → H) :
    ReturnsInHanded {} Try.checked os 13 .any (Rows.fnExactSameSetSpec.pre6 enc Try.prog Try.f13 Rows.fnExactSameSetRow.domain false) (Rows.fnExactSameSetSpec.post enc Try.prog Try.f13 false true false false) := by
  refine returnsInHanded_of_change (C := Try.checked) own started (by kernel_rfl) Try.func13
    (ChangeSpec.witness6 (enc := enc) (C := Try.checked) false ⟨#[], #[.agg #[.int .i64 0, .slice none 0 0, .slice none 0 0], .agg #[.int .i64 0, .slice none 0 0, .slice none 0 0]], []⟩ 8 (by kernel_rfl) (by kernel_rfl) (by kernel_rfl) (by kernel_rfl)) ?_
  intro W base args ds gs before hval0 hW hcnd _
  have hval : ∀ (j : Nat) t v, Try.f13.params[j]? = some t → args[j]? = some v → Value.okWide Try.prog W .any base t v := hval0
  have hW' := hW
  obtain ⟨p, q, hA0, hV, rfl, hfz, hnd⟩ := hW
  have hA : DataW.TrodAll enc Try.prog W 0 (fun _ => true) true Try.f13.params.toList args.toList ds p := hA0
  rw [Try.params13] at hA hval
  obtain ⟨v0, vs0, d0, ds0, p0, q0, hargs, rfl, rfl, h0, r0⟩ := trodAll_cons hA
  obtain ⟨v1, vs1, d1, ds1, p1, q1, rfl, rfl, rfl, h1, r1⟩ := trodAll_cons r0
  obtain ⟨rfl, rfl, rfl⟩ := trodAll_nil r1
  obtain rfl : args = #[v0, v1] := by cases args; simp_all
  obtain ⟨rfl, rfl⟩ := trodVars_none hV
  have k0 := h0
  have lt0 : ∀ x ∈ p0, x.block < W.heap.size := by obtain ⟨m, hm⟩ := k0; exact DataW.trod_lt m _ _ _ hm
  have k1 := h1
  have lt1 : ∀ x ∈ p1, x.block < W.heap.size := by obtain ⟨m, hm⟩ := k1; exact DataW.trod_lt m _ _ _ hm
  obtain ⟨z0, l0, m0, tx0, ts0⟩ := open_orbit (hval 0 39 v0 rfl rfl) h0
  obtain ⟨z1, l1, m1, tx1, ts1⟩ := open_orbit (hval 1 39 v1 rfl rfl) h1
  clear hA0 hval0
  refine (walk W v0 z0 l0 m0 tx0 ts0 v1 z1 l1 m1 tx1 ts1).mono fun e W' ⟨he, bel⟩ => ?_
  subst he
  exact ⟨_, rfl, _, _, _, [], _, [], hW', trodAll_mk1 (shut_bool Try.underlying4 _), (trodAll_cons_mk (Below.trod laidOut (by kernel_rfl) (of_decide_eq_true (by kernel_rfl)) k0 bel lt0) (trodAll_cons_mk (Below.trod laidOut (by kernel_rfl) (of_decide_eq_true (by kernel_rfl)) k1 bel lt1) trodAll_mk0)), rfl, bel.frame _, fun h => by cases h⟩

theorem over : Rows.fnExactSameSetRow.holds Try.pinned (OpenSpec.ofChange Rows.fnExactSameSetSpec) :=
  OpenClaim.holds_of_wide 13 Try.f13 rfl rfl rfl rfl rfl rfl rfl ⟨rfl, rfl, rfl, rfl, rfl⟩ rfl rfl rfl rfl rfl (by kernel_rfl) Try.func13 (by kernel_rfl)
    (of_decide_eq_true (by kernel_rfl)) (by unfold Func.isWrapper; first | (rw [if_pos (by decide +kernel)]; kernel_rfl) | (rw [if_neg (by decide +kernel)]; exact ⟨rfl, rfl⟩))
    (fun os started H enc _ => lifted os started H enc)

theorem proved : Rows.FnExactSameSetSaid := over
#print axioms proved
end Go.Proofs.Ytdbogjhkcnajkaa.fnExactSameSet
