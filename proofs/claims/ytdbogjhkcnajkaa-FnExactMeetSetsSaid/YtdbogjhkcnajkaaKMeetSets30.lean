/-
  The law FnExactMeetSets returns true for every two values: the program makes one orbit set of two, and tells whether it can, as the model does, in memory of its own, and leaves its arguments as they were. No condition.
-/
import Derived.Test.YtdbogjhkcnajkaaKMeetSets26
import Derived.Test.YtdbogjhkcnajkaaKMeetSets10
import Derived.Test.YtdbogjhkcnajkaaKMeetSets28
import Derived.Test.YtdbogjhkcnajkaaKMeetSets29
import Derived.Test.YtdbogjhkcnajkaaKMeetSets27
namespace Go.Proofs.Ytdbogjhkcnajkaa.fnExactMeetSets
open Go.ChangeShapes Go.WideShapes Go.ChangeAt Go.RowKit
set_option linter.unusedVariables false

namespace Args4
theorem box_lt {w : World} {g : Nat} {o : Obj} (h : w.heap[g]? = some o) : g < w.heap.size := (Array.getElem?_eq_some_iff.1 h).1
theorem row4 {w : World} {g : Nat} {a b c d : Value} {T : TypeId} (h : w.heap[g]? = some (.cells #[a, b, c, d] T (0, 0))) : w.cell? ⟨g, 0, none⟩ = some a ∧ w.cell? ⟨g, 1, none⟩ = some b ∧ w.cell? ⟨g, 2, none⟩ = some c ∧ w.cell? ⟨g, 3, none⟩ = some d := by
  refine ⟨?_, ?_, ?_, ?_⟩ <;> rw [cell_of_row w g _ _ _ _ h] <;> rfl
end Args4
theorem pairsAt_of {w : World} {base n : Nat} {e : TypeId} {B : Option Addr} {d : Nat} {l : List (Int × Int)} (h : w.ownsRow base e 2 (.slice B n d) l.length (cellsOf l)) : PairsAt w B l := by
  obtain ⟨A, c, ee, hp⟩ := own_pairsAt h
  injection ee with e1 e2 e3
  subst e1
  exact hp

set_option maxRecDepth 100000 in
set_option maxHeartbeats 16000000 in
theorem walk_no0 (w : World) (x0 : Value) (z0 : Int) (l0 : List Int) (m0 : List (List Int)) (hx0 : OrbIn w x0 z0 l0 m0) (hs0 : ShortO l0 m0) (x1 : Value) (z1 : Int) (l1 : List Int) (m1 : List (List Int)) (hx1 : OrbIn w x1 z1 l1 m1) (hs1 : ShortO l1 m1) (hn0 : ¬ ((l0.length + (m0.length + sumR m0) : Nat) : Int) ≤ 1048576) :
    Calls Try.prog 7 #[x0, x1] w fun e w' => e = .returned (.bool true) ∧ Below w.heap.size w w' := by
  obtain ⟨A0, c0, B0, d0, rfl, hp0, hk0⟩ := hx0
  obtain ⟨A1, c1, B1, d1, rfl, hp1, hk1⟩ := hx1
  have hb0 : Below w.heap.size w ((w.alloc (.cells #[.int .i64 z0, .slice A0 l0.length c0, .slice B0 m0.length d0] 39)).alloc (.cells #[.int .i64 z1, .slice A1 l1.length c1, .slice B1 m1.length d1] 39)) := (((Below.refl _ w).alloc (by first | exact Nat.le_refl _ | (simp; done) | (simp; omega)) _).alloc (by first | exact Nat.le_refl _ | (simp; done) | (simp; omega)) _)
  have HI0 : Hid (∀ w' : World, Below ((w.alloc (.cells #[.int .i64 z0, .slice A0 l0.length c0, .slice B0 m0.length d0] 39)).alloc (.cells #[.int .i64 z1, .slice A1 l1.length c1, .slice B1 m1.length d1] 39)).heap.size ((w.alloc (.cells #[.int .i64 z0, .slice A0 l0.length c0, .slice B0 m0.length d0] 39)).alloc (.cells #[.int .i64 z1, .slice A1 l1.length c1, .slice B1 m1.length d1] 39)) w' → OrbIn w' (.agg #[.int .i64 z0, .slice A0 l0.length c0, .slice B0 m0.length d0]) z0 l0 m0) := Lib.hid (fun w' h => ⟨A0, c0, B0, d0, rfl, hp0.below (hb0.trans (h.mono hb0.size)), hk0.below (hb0.trans (h.mono hb0.size))⟩)
  have HI1 : Hid (∀ w' : World, Below ((w.alloc (.cells #[.int .i64 z0, .slice A0 l0.length c0, .slice B0 m0.length d0] 39)).alloc (.cells #[.int .i64 z1, .slice A1 l1.length c1, .slice B1 m1.length d1] 39)).heap.size ((w.alloc (.cells #[.int .i64 z0, .slice A0 l0.length c0, .slice B0 m0.length d0] 39)).alloc (.cells #[.int .i64 z1, .slice A1 l1.length c1, .slice B1 m1.length d1] 39)) w' → OrbIn w' (.agg #[.int .i64 z1, .slice A1 l1.length c1, .slice B1 m1.length d1]) z1 l1 m1) := Lib.hid (fun w' h => ⟨A1, c1, B1, d1, rfl, hp1.below (hb0.trans (h.mono hb0.size)), hk1.below (hb0.trans (h.mono hb0.size))⟩)
  have kk0 : ((w.alloc (.cells #[.int .i64 z0, .slice A0 l0.length c0, .slice B0 m0.length d0] 39)).alloc (.cells #[.int .i64 z1, .slice A1 l1.length c1, .slice B1 m1.length d1] 39)).heap[w.heap.size]? = some (.cells #[.int .i64 z0, .slice A0 l0.length c0, .slice B0 m0.length d0] 39 (0, 0)) := by
    have h := heap_alloc_new w (.cells #[.int .i64 z0, .slice A0 l0.length c0, .slice B0 m0.length d0] 39)
    exact ((Below.heap_alloc _ _ _ (by first | (simp; done) | (simp; omega))).trans h)
  obtain ⟨b00, b01, b02⟩ := OrbK.row3 kk0
  have lt0 : w.heap.size < ((w.alloc (.cells #[.int .i64 z0, .slice A0 l0.length c0, .slice B0 m0.length d0] 39)).alloc (.cells #[.int .i64 z1, .slice A1 l1.length c1, .slice B1 m1.length d1] 39)).heap.size := by first | (simp; done) | (simp; omega)
  have kk1 : ((w.alloc (.cells #[.int .i64 z0, .slice A0 l0.length c0, .slice B0 m0.length d0] 39)).alloc (.cells #[.int .i64 z1, .slice A1 l1.length c1, .slice B1 m1.length d1] 39)).heap[w.heap.size + 1]? = some (.cells #[.int .i64 z1, .slice A1 l1.length c1, .slice B1 m1.length d1] 39 (0, 0)) := by
    have h := heap_alloc_new (w.alloc (.cells #[.int .i64 z0, .slice A0 l0.length c0, .slice B0 m0.length d0] 39)) (.cells #[.int .i64 z1, .slice A1 l1.length c1, .slice B1 m1.length d1] 39)
    simp only [World.size_alloc] at h
    exact h
  obtain ⟨b10, b11, b12⟩ := OrbK.row3 kk1
  have lt1 : w.heap.size + 1 < ((w.alloc (.cells #[.int .i64 z0, .slice A0 l0.length c0, .slice B0 m0.length d0] 39)).alloc (.cells #[.int .i64 z1, .slice A1 l1.length c1, .slice B1 m1.length d1] 39)).heap.size := by first | (simp; done) | (simp; omega)
  have HB0 : Hid (∀ w' : World, Below ((w.alloc (.cells #[.int .i64 z0, .slice A0 l0.length c0, .slice B0 m0.length d0] 39)).alloc (.cells #[.int .i64 z1, .slice A1 l1.length c1, .slice B1 m1.length d1] 39)).heap.size ((w.alloc (.cells #[.int .i64 z0, .slice A0 l0.length c0, .slice B0 m0.length d0] 39)).alloc (.cells #[.int .i64 z1, .slice A1 l1.length c1, .slice B1 m1.length d1] 39)) w' → w'.cell? ⟨w.heap.size, 0, none⟩ = some (.int .i64 z0) ∧ w'.cell? ⟨w.heap.size, 1, none⟩ = some (.slice A0 l0.length c0) ∧ w'.cell? ⟨w.heap.size, 2, none⟩ = some (.slice B0 m0.length d0)) := Lib.hid (fun w' h => ⟨(h.cell (p := ⟨w.heap.size, 0, none⟩) lt0).trans b00, (h.cell (p := ⟨w.heap.size, 1, none⟩) lt0).trans b01, (h.cell (p := ⟨w.heap.size, 2, none⟩) lt0).trans b02⟩)
  have HB1 : Hid (∀ w' : World, Below ((w.alloc (.cells #[.int .i64 z0, .slice A0 l0.length c0, .slice B0 m0.length d0] 39)).alloc (.cells #[.int .i64 z1, .slice A1 l1.length c1, .slice B1 m1.length d1] 39)).heap.size ((w.alloc (.cells #[.int .i64 z0, .slice A0 l0.length c0, .slice B0 m0.length d0] 39)).alloc (.cells #[.int .i64 z1, .slice A1 l1.length c1, .slice B1 m1.length d1] 39)) w' → w'.cell? ⟨w.heap.size + 1, 0, none⟩ = some (.int .i64 z1) ∧ w'.cell? ⟨w.heap.size + 1, 1, none⟩ = some (.slice A1 l1.length c1) ∧ w'.cell? ⟨w.heap.size + 1, 2, none⟩ = some (.slice B1 m1.length d1)) := Lib.hid (fun w' h => ⟨(h.cell (p := ⟨w.heap.size + 1, 0, none⟩) lt1).trans b10, (h.cell (p := ⟨w.heap.size + 1, 1, none⟩) lt1).trans b11, (h.cell (p := ⟨w.heap.size + 1, 2, none⟩) lt1).trans b12⟩)
  clear hp0 hk0 kk0 lt0 hp1 hk1 kk1 lt1
  have HC0 : Hid (Below ((w.alloc (.cells #[.int .i64 z0, .slice A0 l0.length c0, .slice B0 m0.length d0] 39)).alloc (.cells #[.int .i64 z1, .slice A1 l1.length c1, .slice B1 m1.length d1] 39)).heap.size ((w.alloc (.cells #[.int .i64 z0, .slice A0 l0.length c0, .slice B0 m0.length d0] 39)).alloc (.cells #[.int .i64 z1, .slice A1 l1.length c1, .slice B1 m1.length d1] 39)) ((w.alloc (.cells #[.int .i64 z0, .slice A0 l0.length c0, .slice B0 m0.length d0] 39)).alloc (.cells #[.int .i64 z1, .slice A1 l1.length c1, .slice B1 m1.length d1] 39))) := Lib.hid (Below.refl _ _)
  have HW0 := Lib.hid hb0
  clear hb0
  go_enter Try.func7, Try.ntmps7
  have hsz := szOrbitSet_any z0 l0 m0 hs0 (1048576) ((w.alloc (.cells #[.int .i64 z0, .slice A0 l0.length c0, .slice B0 m0.length d0] 39)).alloc (.cells #[.int .i64 z1, .slice A1 l1.length c1, .slice B1 m1.length d1] 39)) _ (by omega) (by omega) (HI0.out ((w.alloc (.cells #[.int .i64 z0, .slice A0 l0.length c0, .slice B0 m0.length d0] 39)).alloc (.cells #[.int .i64 z1, .slice A1 l1.length c1, .slice B1 m1.length d1] 39)) HC0.out)
  unfold LeftPost at hsz
  rw [leftR_no (by omega)] at hsz
  go_wp2_with fail
  refine hsz.mono ?_
  rintro e u1 ⟨rfl, hb⟩
  clear hsz b00 b01 b02 b10 b11 b12
  have s2 : ((w.alloc (.cells #[.int .i64 z0, .slice A0 l0.length c0, .slice B0 m0.length d0] 39)).alloc (.cells #[.int .i64 z1, .slice A1 l1.length c1, .slice B1 m1.length d1] 39)).heap.size ≤ u1.heap.size := hb.size
  have HC2 := Lib.hid (HC0.out.trans (hb.mono HC0.out.size))
  clear hb HC0
  have hfin := HW0.out.trans (HC2.out.mono HW0.out.size)
  go_wp2
  go_ret
  exact ⟨rfl, hfin⟩

set_option maxRecDepth 100000 in
set_option maxHeartbeats 16000000 in
theorem walk_no1 (w : World) (x0 : Value) (z0 : Int) (l0 : List Int) (m0 : List (List Int)) (hx0 : OrbIn w x0 z0 l0 m0) (hs0 : ShortO l0 m0) (x1 : Value) (z1 : Int) (l1 : List Int) (m1 : List (List Int)) (hx1 : OrbIn w x1 z1 l1 m1) (hs1 : ShortO l1 m1) (hn0 : ((l0.length + (m0.length + sumR m0) : Nat) : Int) ≤ 1048576) (hn1 : ¬ ((l1.length + (m1.length + sumR m1) : Nat) : Int) ≤ 1048576 - ((l0.length + (m0.length + sumR m0) : Nat) : Int)) :
    Calls Try.prog 7 #[x0, x1] w fun e w' => e = .returned (.bool true) ∧ Below w.heap.size w w' := by
  obtain ⟨A0, c0, B0, d0, rfl, hp0, hk0⟩ := hx0
  obtain ⟨A1, c1, B1, d1, rfl, hp1, hk1⟩ := hx1
  have hb0 : Below w.heap.size w ((w.alloc (.cells #[.int .i64 z0, .slice A0 l0.length c0, .slice B0 m0.length d0] 39)).alloc (.cells #[.int .i64 z1, .slice A1 l1.length c1, .slice B1 m1.length d1] 39)) := (((Below.refl _ w).alloc (by first | exact Nat.le_refl _ | (simp; done) | (simp; omega)) _).alloc (by first | exact Nat.le_refl _ | (simp; done) | (simp; omega)) _)
  have HI0 : Hid (∀ w' : World, Below ((w.alloc (.cells #[.int .i64 z0, .slice A0 l0.length c0, .slice B0 m0.length d0] 39)).alloc (.cells #[.int .i64 z1, .slice A1 l1.length c1, .slice B1 m1.length d1] 39)).heap.size ((w.alloc (.cells #[.int .i64 z0, .slice A0 l0.length c0, .slice B0 m0.length d0] 39)).alloc (.cells #[.int .i64 z1, .slice A1 l1.length c1, .slice B1 m1.length d1] 39)) w' → OrbIn w' (.agg #[.int .i64 z0, .slice A0 l0.length c0, .slice B0 m0.length d0]) z0 l0 m0) := Lib.hid (fun w' h => ⟨A0, c0, B0, d0, rfl, hp0.below (hb0.trans (h.mono hb0.size)), hk0.below (hb0.trans (h.mono hb0.size))⟩)
  have HI1 : Hid (∀ w' : World, Below ((w.alloc (.cells #[.int .i64 z0, .slice A0 l0.length c0, .slice B0 m0.length d0] 39)).alloc (.cells #[.int .i64 z1, .slice A1 l1.length c1, .slice B1 m1.length d1] 39)).heap.size ((w.alloc (.cells #[.int .i64 z0, .slice A0 l0.length c0, .slice B0 m0.length d0] 39)).alloc (.cells #[.int .i64 z1, .slice A1 l1.length c1, .slice B1 m1.length d1] 39)) w' → OrbIn w' (.agg #[.int .i64 z1, .slice A1 l1.length c1, .slice B1 m1.length d1]) z1 l1 m1) := Lib.hid (fun w' h => ⟨A1, c1, B1, d1, rfl, hp1.below (hb0.trans (h.mono hb0.size)), hk1.below (hb0.trans (h.mono hb0.size))⟩)
  have kk0 : ((w.alloc (.cells #[.int .i64 z0, .slice A0 l0.length c0, .slice B0 m0.length d0] 39)).alloc (.cells #[.int .i64 z1, .slice A1 l1.length c1, .slice B1 m1.length d1] 39)).heap[w.heap.size]? = some (.cells #[.int .i64 z0, .slice A0 l0.length c0, .slice B0 m0.length d0] 39 (0, 0)) := by
    have h := heap_alloc_new w (.cells #[.int .i64 z0, .slice A0 l0.length c0, .slice B0 m0.length d0] 39)
    exact ((Below.heap_alloc _ _ _ (by first | (simp; done) | (simp; omega))).trans h)
  obtain ⟨b00, b01, b02⟩ := OrbK.row3 kk0
  have lt0 : w.heap.size < ((w.alloc (.cells #[.int .i64 z0, .slice A0 l0.length c0, .slice B0 m0.length d0] 39)).alloc (.cells #[.int .i64 z1, .slice A1 l1.length c1, .slice B1 m1.length d1] 39)).heap.size := by first | (simp; done) | (simp; omega)
  have kk1 : ((w.alloc (.cells #[.int .i64 z0, .slice A0 l0.length c0, .slice B0 m0.length d0] 39)).alloc (.cells #[.int .i64 z1, .slice A1 l1.length c1, .slice B1 m1.length d1] 39)).heap[w.heap.size + 1]? = some (.cells #[.int .i64 z1, .slice A1 l1.length c1, .slice B1 m1.length d1] 39 (0, 0)) := by
    have h := heap_alloc_new (w.alloc (.cells #[.int .i64 z0, .slice A0 l0.length c0, .slice B0 m0.length d0] 39)) (.cells #[.int .i64 z1, .slice A1 l1.length c1, .slice B1 m1.length d1] 39)
    simp only [World.size_alloc] at h
    exact h
  obtain ⟨b10, b11, b12⟩ := OrbK.row3 kk1
  have lt1 : w.heap.size + 1 < ((w.alloc (.cells #[.int .i64 z0, .slice A0 l0.length c0, .slice B0 m0.length d0] 39)).alloc (.cells #[.int .i64 z1, .slice A1 l1.length c1, .slice B1 m1.length d1] 39)).heap.size := by first | (simp; done) | (simp; omega)
  have HB0 : Hid (∀ w' : World, Below ((w.alloc (.cells #[.int .i64 z0, .slice A0 l0.length c0, .slice B0 m0.length d0] 39)).alloc (.cells #[.int .i64 z1, .slice A1 l1.length c1, .slice B1 m1.length d1] 39)).heap.size ((w.alloc (.cells #[.int .i64 z0, .slice A0 l0.length c0, .slice B0 m0.length d0] 39)).alloc (.cells #[.int .i64 z1, .slice A1 l1.length c1, .slice B1 m1.length d1] 39)) w' → w'.cell? ⟨w.heap.size, 0, none⟩ = some (.int .i64 z0) ∧ w'.cell? ⟨w.heap.size, 1, none⟩ = some (.slice A0 l0.length c0) ∧ w'.cell? ⟨w.heap.size, 2, none⟩ = some (.slice B0 m0.length d0)) := Lib.hid (fun w' h => ⟨(h.cell (p := ⟨w.heap.size, 0, none⟩) lt0).trans b00, (h.cell (p := ⟨w.heap.size, 1, none⟩) lt0).trans b01, (h.cell (p := ⟨w.heap.size, 2, none⟩) lt0).trans b02⟩)
  have HB1 : Hid (∀ w' : World, Below ((w.alloc (.cells #[.int .i64 z0, .slice A0 l0.length c0, .slice B0 m0.length d0] 39)).alloc (.cells #[.int .i64 z1, .slice A1 l1.length c1, .slice B1 m1.length d1] 39)).heap.size ((w.alloc (.cells #[.int .i64 z0, .slice A0 l0.length c0, .slice B0 m0.length d0] 39)).alloc (.cells #[.int .i64 z1, .slice A1 l1.length c1, .slice B1 m1.length d1] 39)) w' → w'.cell? ⟨w.heap.size + 1, 0, none⟩ = some (.int .i64 z1) ∧ w'.cell? ⟨w.heap.size + 1, 1, none⟩ = some (.slice A1 l1.length c1) ∧ w'.cell? ⟨w.heap.size + 1, 2, none⟩ = some (.slice B1 m1.length d1)) := Lib.hid (fun w' h => ⟨(h.cell (p := ⟨w.heap.size + 1, 0, none⟩) lt1).trans b10, (h.cell (p := ⟨w.heap.size + 1, 1, none⟩) lt1).trans b11, (h.cell (p := ⟨w.heap.size + 1, 2, none⟩) lt1).trans b12⟩)
  clear hp0 hk0 kk0 lt0 hp1 hk1 kk1 lt1
  have HC0 : Hid (Below ((w.alloc (.cells #[.int .i64 z0, .slice A0 l0.length c0, .slice B0 m0.length d0] 39)).alloc (.cells #[.int .i64 z1, .slice A1 l1.length c1, .slice B1 m1.length d1] 39)).heap.size ((w.alloc (.cells #[.int .i64 z0, .slice A0 l0.length c0, .slice B0 m0.length d0] 39)).alloc (.cells #[.int .i64 z1, .slice A1 l1.length c1, .slice B1 m1.length d1] 39)) ((w.alloc (.cells #[.int .i64 z0, .slice A0 l0.length c0, .slice B0 m0.length d0] 39)).alloc (.cells #[.int .i64 z1, .slice A1 l1.length c1, .slice B1 m1.length d1] 39))) := Lib.hid (Below.refl _ _)
  have HW0 := Lib.hid hb0
  clear hb0
  go_enter Try.func7, Try.ntmps7
  have hsz := szOrbitSet_any z0 l0 m0 hs0 (1048576) ((w.alloc (.cells #[.int .i64 z0, .slice A0 l0.length c0, .slice B0 m0.length d0] 39)).alloc (.cells #[.int .i64 z1, .slice A1 l1.length c1, .slice B1 m1.length d1] 39)) _ (by omega) (by omega) (HI0.out ((w.alloc (.cells #[.int .i64 z0, .slice A0 l0.length c0, .slice B0 m0.length d0] 39)).alloc (.cells #[.int .i64 z1, .slice A1 l1.length c1, .slice B1 m1.length d1] 39)) HC0.out)
  unfold LeftPost at hsz
  rw [leftR_yes hn0] at hsz
  have hleft0 : ¬ 1048576 - ((l0.length + (m0.length + sumR m0) : Nat) : Int) < 0 := by omega
  go_wp2_with fail
  refine hsz.mono ?_
  rintro e u1 ⟨rfl, hb⟩
  clear hsz b00 b01 b02 b10 b11 b12
  have s2 : ((w.alloc (.cells #[.int .i64 z0, .slice A0 l0.length c0, .slice B0 m0.length d0] 39)).alloc (.cells #[.int .i64 z1, .slice A1 l1.length c1, .slice B1 m1.length d1] 39)).heap.size ≤ u1.heap.size := hb.size
  have HC2 := Lib.hid (HC0.out.trans (hb.mono HC0.out.size))
  clear hb HC0
  obtain ⟨b10, b11, b12⟩ := HB1.out u1 HC2.out
  have hsz := szOrbitSet_any z1 l1 m1 hs1 (1048576 - ((l0.length + (m0.length + sumR m0) : Nat) : Int)) u1 _ (by omega) (by omega) (HI1.out u1 HC2.out)
  unfold LeftPost at hsz
  rw [leftR_no (by omega)] at hsz
  go_wp2_with fail
  refine hsz.mono ?_
  rintro e u3 ⟨rfl, hb⟩
  clear hsz b10 b11 b12
  have s4 : u1.heap.size ≤ u3.heap.size := hb.size
  have HC4 := Lib.hid (HC2.out.trans (hb.mono HC2.out.size))
  clear hb HC2
  have hfin := HW0.out.trans (HC4.out.mono HW0.out.size)
  go_wp2
  go_ret
  exact ⟨rfl, hfin⟩

set_option maxRecDepth 100000 in
set_option maxHeartbeats 16000000 in
theorem walk_yes (w : World) (x0 : Value) (z0 : Int) (l0 : List Int) (m0 : List (List Int)) (hx0 : OrbIn w x0 z0 l0 m0) (hs0 : ShortO l0 m0) (x1 : Value) (z1 : Int) (l1 : List Int) (m1 : List (List Int)) (hx1 : OrbIn w x1 z1 l1 m1) (hs1 : ShortO l1 m1) (hn0 : ((l0.length + (m0.length + sumR m0) : Nat) : Int) ≤ 1048576) (hn1 : ((l1.length + (m1.length + sumR m1) : Nat) : Int) ≤ 1048576 - ((l0.length + (m0.length + sumR m0) : Nat) : Int)) :
    Calls Try.prog 7 #[x0, x1] w fun e w' => e = .returned (.bool true) ∧ Below w.heap.size w w' := by
  have HF0 : Hid (FitO l0 m0) := Lib.hid (fitO_of (by omega))
  have hmk0 : l0.length + sumR m0 ≤ 1048576 := by omega
  have HF1 : Hid (FitO l1 m1) := Lib.hid (fitO_of (by omega))
  have hmk1 : l1.length + sumR m1 ≤ 1048576 := by omega
  have HFR := Lib.hid (show FitO (olR (bothOk z0 l0 m0 z1 l1 m1) (bothC l0 l1)) (omR (bothOk z0 l0 m0 z1 l1 m1) (bothM false z0 l0 m0 l1 m1)) from bothFit false z0 l0 m0 z1 l1 m1)
  have hmR : (olR (bothOk z0 l0 m0 z1 l1 m1) (bothC l0 l1)).length + sumR (omR (bothOk z0 l0 m0 z1 l1 m1) (bothM false z0 l0 m0 l1 m1)) ≤ 8388608 := bothSum false z0 l0 m0 z1 l1 m1
  generalize qzR : ozR (bothOk z0 l0 m0 z1 l1 m1) z0 = zR
  have HzR := Lib.hid qzR
  clear qzR
  generalize qlR : olR (bothOk z0 l0 m0 z1 l1 m1) (bothC l0 l1) = lR at HFR hmR
  have HlR := Lib.hid qlR
  clear qlR
  generalize qmR : omR (bothOk z0 l0 m0 z1 l1 m1) (bothM false z0 l0 m0 l1 m1) = mR at HFR hmR
  have HmR := Lib.hid qmR
  clear qmR
  generalize hFF : bothOk z0 l0 m0 z1 l1 m1 = fl
  have HFL := Lib.hid hFF
  have hfl : (fl != fl) = false := by simp
  clear hFF
  obtain ⟨A0, c0, B0, d0, rfl, hp0, hk0⟩ := hx0
  obtain ⟨A1, c1, B1, d1, rfl, hp1, hk1⟩ := hx1
  have hb0 : Below w.heap.size w ((w.alloc (.cells #[.int .i64 z0, .slice A0 l0.length c0, .slice B0 m0.length d0] 39)).alloc (.cells #[.int .i64 z1, .slice A1 l1.length c1, .slice B1 m1.length d1] 39)) := (((Below.refl _ w).alloc (by first | exact Nat.le_refl _ | (simp; done) | (simp; omega)) _).alloc (by first | exact Nat.le_refl _ | (simp; done) | (simp; omega)) _)
  have HI0 : Hid (∀ w' : World, Below ((w.alloc (.cells #[.int .i64 z0, .slice A0 l0.length c0, .slice B0 m0.length d0] 39)).alloc (.cells #[.int .i64 z1, .slice A1 l1.length c1, .slice B1 m1.length d1] 39)).heap.size ((w.alloc (.cells #[.int .i64 z0, .slice A0 l0.length c0, .slice B0 m0.length d0] 39)).alloc (.cells #[.int .i64 z1, .slice A1 l1.length c1, .slice B1 m1.length d1] 39)) w' → OrbIn w' (.agg #[.int .i64 z0, .slice A0 l0.length c0, .slice B0 m0.length d0]) z0 l0 m0) := Lib.hid (fun w' h => ⟨A0, c0, B0, d0, rfl, hp0.below (hb0.trans (h.mono hb0.size)), hk0.below (hb0.trans (h.mono hb0.size))⟩)
  have HI1 : Hid (∀ w' : World, Below ((w.alloc (.cells #[.int .i64 z0, .slice A0 l0.length c0, .slice B0 m0.length d0] 39)).alloc (.cells #[.int .i64 z1, .slice A1 l1.length c1, .slice B1 m1.length d1] 39)).heap.size ((w.alloc (.cells #[.int .i64 z0, .slice A0 l0.length c0, .slice B0 m0.length d0] 39)).alloc (.cells #[.int .i64 z1, .slice A1 l1.length c1, .slice B1 m1.length d1] 39)) w' → OrbIn w' (.agg #[.int .i64 z1, .slice A1 l1.length c1, .slice B1 m1.length d1]) z1 l1 m1) := Lib.hid (fun w' h => ⟨A1, c1, B1, d1, rfl, hp1.below (hb0.trans (h.mono hb0.size)), hk1.below (hb0.trans (h.mono hb0.size))⟩)
  have kk0 : ((w.alloc (.cells #[.int .i64 z0, .slice A0 l0.length c0, .slice B0 m0.length d0] 39)).alloc (.cells #[.int .i64 z1, .slice A1 l1.length c1, .slice B1 m1.length d1] 39)).heap[w.heap.size]? = some (.cells #[.int .i64 z0, .slice A0 l0.length c0, .slice B0 m0.length d0] 39 (0, 0)) := by
    have h := heap_alloc_new w (.cells #[.int .i64 z0, .slice A0 l0.length c0, .slice B0 m0.length d0] 39)
    exact ((Below.heap_alloc _ _ _ (by first | (simp; done) | (simp; omega))).trans h)
  obtain ⟨b00, b01, b02⟩ := OrbK.row3 kk0
  have lt0 : w.heap.size < ((w.alloc (.cells #[.int .i64 z0, .slice A0 l0.length c0, .slice B0 m0.length d0] 39)).alloc (.cells #[.int .i64 z1, .slice A1 l1.length c1, .slice B1 m1.length d1] 39)).heap.size := by first | (simp; done) | (simp; omega)
  have kk1 : ((w.alloc (.cells #[.int .i64 z0, .slice A0 l0.length c0, .slice B0 m0.length d0] 39)).alloc (.cells #[.int .i64 z1, .slice A1 l1.length c1, .slice B1 m1.length d1] 39)).heap[w.heap.size + 1]? = some (.cells #[.int .i64 z1, .slice A1 l1.length c1, .slice B1 m1.length d1] 39 (0, 0)) := by
    have h := heap_alloc_new (w.alloc (.cells #[.int .i64 z0, .slice A0 l0.length c0, .slice B0 m0.length d0] 39)) (.cells #[.int .i64 z1, .slice A1 l1.length c1, .slice B1 m1.length d1] 39)
    simp only [World.size_alloc] at h
    exact h
  obtain ⟨b10, b11, b12⟩ := OrbK.row3 kk1
  have lt1 : w.heap.size + 1 < ((w.alloc (.cells #[.int .i64 z0, .slice A0 l0.length c0, .slice B0 m0.length d0] 39)).alloc (.cells #[.int .i64 z1, .slice A1 l1.length c1, .slice B1 m1.length d1] 39)).heap.size := by first | (simp; done) | (simp; omega)
  have HB0 : Hid (∀ w' : World, Below ((w.alloc (.cells #[.int .i64 z0, .slice A0 l0.length c0, .slice B0 m0.length d0] 39)).alloc (.cells #[.int .i64 z1, .slice A1 l1.length c1, .slice B1 m1.length d1] 39)).heap.size ((w.alloc (.cells #[.int .i64 z0, .slice A0 l0.length c0, .slice B0 m0.length d0] 39)).alloc (.cells #[.int .i64 z1, .slice A1 l1.length c1, .slice B1 m1.length d1] 39)) w' → w'.cell? ⟨w.heap.size, 0, none⟩ = some (.int .i64 z0) ∧ w'.cell? ⟨w.heap.size, 1, none⟩ = some (.slice A0 l0.length c0) ∧ w'.cell? ⟨w.heap.size, 2, none⟩ = some (.slice B0 m0.length d0)) := Lib.hid (fun w' h => ⟨(h.cell (p := ⟨w.heap.size, 0, none⟩) lt0).trans b00, (h.cell (p := ⟨w.heap.size, 1, none⟩) lt0).trans b01, (h.cell (p := ⟨w.heap.size, 2, none⟩) lt0).trans b02⟩)
  have HB1 : Hid (∀ w' : World, Below ((w.alloc (.cells #[.int .i64 z0, .slice A0 l0.length c0, .slice B0 m0.length d0] 39)).alloc (.cells #[.int .i64 z1, .slice A1 l1.length c1, .slice B1 m1.length d1] 39)).heap.size ((w.alloc (.cells #[.int .i64 z0, .slice A0 l0.length c0, .slice B0 m0.length d0] 39)).alloc (.cells #[.int .i64 z1, .slice A1 l1.length c1, .slice B1 m1.length d1] 39)) w' → w'.cell? ⟨w.heap.size + 1, 0, none⟩ = some (.int .i64 z1) ∧ w'.cell? ⟨w.heap.size + 1, 1, none⟩ = some (.slice A1 l1.length c1) ∧ w'.cell? ⟨w.heap.size + 1, 2, none⟩ = some (.slice B1 m1.length d1)) := Lib.hid (fun w' h => ⟨(h.cell (p := ⟨w.heap.size + 1, 0, none⟩) lt1).trans b10, (h.cell (p := ⟨w.heap.size + 1, 1, none⟩) lt1).trans b11, (h.cell (p := ⟨w.heap.size + 1, 2, none⟩) lt1).trans b12⟩)
  clear hp0 hk0 kk0 lt0 hp1 hk1 kk1 lt1
  have HC0 : Hid (Below ((w.alloc (.cells #[.int .i64 z0, .slice A0 l0.length c0, .slice B0 m0.length d0] 39)).alloc (.cells #[.int .i64 z1, .slice A1 l1.length c1, .slice B1 m1.length d1] 39)).heap.size ((w.alloc (.cells #[.int .i64 z0, .slice A0 l0.length c0, .slice B0 m0.length d0] 39)).alloc (.cells #[.int .i64 z1, .slice A1 l1.length c1, .slice B1 m1.length d1] 39)) ((w.alloc (.cells #[.int .i64 z0, .slice A0 l0.length c0, .slice B0 m0.length d0] 39)).alloc (.cells #[.int .i64 z1, .slice A1 l1.length c1, .slice B1 m1.length d1] 39))) := Lib.hid (Below.refl _ _)
  have HW0 := Lib.hid hb0
  clear hb0
  go_enter Try.func7, Try.ntmps7
  have hsz := szOrbitSet_any z0 l0 m0 hs0 (1048576) ((w.alloc (.cells #[.int .i64 z0, .slice A0 l0.length c0, .slice B0 m0.length d0] 39)).alloc (.cells #[.int .i64 z1, .slice A1 l1.length c1, .slice B1 m1.length d1] 39)) _ (by omega) (by omega) (HI0.out ((w.alloc (.cells #[.int .i64 z0, .slice A0 l0.length c0, .slice B0 m0.length d0] 39)).alloc (.cells #[.int .i64 z1, .slice A1 l1.length c1, .slice B1 m1.length d1] 39)) HC0.out)
  unfold LeftPost at hsz
  rw [leftR_yes hn0] at hsz
  have hleft0 : ¬ 1048576 - ((l0.length + (m0.length + sumR m0) : Nat) : Int) < 0 := by omega
  go_wp2_with fail
  refine hsz.mono ?_
  rintro e u1 ⟨rfl, hb⟩
  clear hsz b00 b01 b02 b10 b11 b12
  have s2 : ((w.alloc (.cells #[.int .i64 z0, .slice A0 l0.length c0, .slice B0 m0.length d0] 39)).alloc (.cells #[.int .i64 z1, .slice A1 l1.length c1, .slice B1 m1.length d1] 39)).heap.size ≤ u1.heap.size := hb.size
  have HC2 := Lib.hid (HC0.out.trans (hb.mono HC0.out.size))
  clear hb HC0
  obtain ⟨b10, b11, b12⟩ := HB1.out u1 HC2.out
  have hsz := szOrbitSet_any z1 l1 m1 hs1 (1048576 - ((l0.length + (m0.length + sumR m0) : Nat) : Int)) u1 _ (by omega) (by omega) (HI1.out u1 HC2.out)
  unfold LeftPost at hsz
  rw [leftR_yes hn1] at hsz
  have hleft1 : ¬ 1048576 - ((l0.length + (m0.length + sumR m0) : Nat) : Int) - ((l1.length + (m1.length + sumR m1) : Nat) : Int) < 0 := by omega
  go_wp2_with fail
  refine hsz.mono ?_
  rintro e u3 ⟨rfl, hb⟩
  clear hsz b10 b11 b12
  have s4 : u1.heap.size ≤ u3.heap.size := hb.size
  have HC4 := Lib.hid (HC2.out.trans (hb.mono HC2.out.size))
  clear hb HC2
  have HZ : Hid (((w.alloc (.cells #[.int .i64 z0, .slice A0 l0.length c0, .slice B0 m0.length d0] 39)).alloc (.cells #[.int .i64 z1, .slice A1 l1.length c1, .slice B1 m1.length d1] 39)).heap.size ≤ u3.heap.size) := Lib.hid HC4.out.size
  have HQ := HC4
  have lt0 : w.heap.size < u3.heap.size := by have h := HQ.out.size; simp only [World.size_alloc] at h; omega
  have lt1 : w.heap.size + 1 < u3.heap.size := by have h := HQ.out.size; simp only [World.size_alloc] at h; omega
  have HCC : Hid (∀ w' : World, Below u3.heap.size u3 w' → w'.cell? ⟨w.heap.size, 0, none⟩ = some (.int .i64 z0) ∧ w'.cell? ⟨w.heap.size, 1, none⟩ = some (.slice A0 l0.length c0) ∧ w'.cell? ⟨w.heap.size, 2, none⟩ = some (.slice B0 m0.length d0) ∧ w'.cell? ⟨w.heap.size + 1, 0, none⟩ = some (.int .i64 z1) ∧ w'.cell? ⟨w.heap.size + 1, 1, none⟩ = some (.slice A1 l1.length c1) ∧ w'.cell? ⟨w.heap.size + 1, 2, none⟩ = some (.slice B1 m1.length d1)) := Lib.hid (fun w' h => ⟨(HB0.out w' (HQ.out.trans (h.mono HQ.out.size))).1, (HB0.out w' (HQ.out.trans (h.mono HQ.out.size))).2.1, (HB0.out w' (HQ.out.trans (h.mono HQ.out.size))).2.2, (HB1.out w' (HQ.out.trans (h.mono HQ.out.size))).1, (HB1.out w' (HQ.out.trans (h.mono HQ.out.size))).2.1, (HB1.out w' (HQ.out.trans (h.mono HQ.out.size))).2.2⟩)
  go_upto_region 8 with fail
  go_cut [6, 7] (fun s t wx => OrbQ.Rel u3 zR lR mR s wx ∧ t = .bool fl)
  case first =>
    have hdw : Below u3.heap.size u3 u3.drew := ⟨rfl, rfl, rfl, Nat.le_refl _, fun _ _ => rfl⟩
    have hal : Below u3.heap.size u3 (u3.alloc (.cells #[.int .i64 0, .slice none 0 0, .slice none 0 0] 29)).drew := by
      have h : Below u3.heap.size u3 (u3.alloc (.cells #[.int .i64 0, .slice none 0 0, .slice none 0 0] 29)) := (Below.refl _ _).alloc (Nat.le_refl _) _
      exact ⟨h.os, h.tape, h.output, h.size, h.block⟩
    obtain ⟨cu0, cu1, cu2, cu3, cu4, cu5⟩ := HCC.out u3.drew (hdw)
    obtain ⟨cx0, cx1, cx2, cx3, cx4, cx5⟩ := HCC.out (u3.alloc (.cells #[.int .i64 0, .slice none 0 0, .slice none 0 0] 29)).drew (hal)
    have ne0_0 : w.heap.size ≠ u3.heap.size := Nat.ne_of_lt lt0
    have ne1_0 : w.heap.size + 1 ≠ u3.heap.size := Nat.ne_of_lt lt1
    have h0a := toOrbitSet_any z0 l0 m0 HF0.out (u3.drew) _ (HI0.out (u3.drew) (HQ.out.trans ((hdw).mono HQ.out.size)))
    have h0b := toOrbitSet_any z0 l0 m0 HF0.out ((u3.alloc (.cells #[.int .i64 0, .slice none 0 0, .slice none 0 0] 29)).drew) _ (HI0.out ((u3.alloc (.cells #[.int .i64 0, .slice none 0 0, .slice none 0 0] 29)).drew) (HQ.out.trans ((hal).mono HQ.out.size)))
    go_region_held3 (fun w' => w'.cell? ⟨w.heap.size, 0, none⟩ = some (.int .i64 z0) ∧ w'.cell? ⟨w.heap.size, 1, none⟩ = some (.slice A0 l0.length c0) ∧ w'.cell? ⟨w.heap.size, 2, none⟩ = some (.slice B0 m0.length d0) ∧ w'.cell? ⟨w.heap.size + 1, 0, none⟩ = some (.int .i64 z1) ∧ w'.cell? ⟨w.heap.size + 1, 1, none⟩ = some (.slice A1 l1.length c1) ∧ w'.cell? ⟨w.heap.size + 1, 2, none⟩ = some (.slice B1 m1.length d1))
      (first | ((try dsimp only); (with_reducible exact ⟨by assumption, by assumption, by assumption, by assumption, by assumption, by assumption⟩)) | (with_reducible exact ⟨OrbQ.set3_keep (by assumption) (by assumption), OrbQ.set3_keep (by assumption) (by assumption), OrbQ.set3_keep (by assumption) (by assumption), OrbQ.set3_keep (by assumption) (by assumption), OrbQ.set3_keep (by assumption) (by assumption), OrbQ.set3_keep (by assumption) (by assumption)⟩) | go_keep)
      (first
        | (go_at_call_of 32 A0; (first | (with_reducible refine h0a.mono ?_) | (with_reducible refine h0b.mono ?_)); rintro e wq0 ⟨P0, q0, K0, r0, S0, rfl, hL0, _, hb0⟩; have fr0 : Below u3.heap.size u3 wq0 := (by first | (with_reducible exact hdw.trans (hb0.mono hdw.size)) | (with_reducible exact hal.trans (hb0.mono hal.size))); (try (have zb0 : wq0.heap[u3.heap.size]? = some (.cells #[.int .i64 0, .slice none 0 0, .slice none 0 0] 29) := (hb0.block u3.heap.size (by simp)).trans (heap_alloc_new u3 (.cells #[.int .i64 0, .slice none 0 0, .slice none 0 0] 29)))); have hin0 := orbOut_ix hL0; obtain ⟨ca0, ca1, ca2, ca3, ca4, ca5⟩ := HCC.out wq0 (fr0); have ne0_1 : w.heap.size ≠ wq0.heap.size := Nat.ne_of_lt (Nat.lt_of_lt_of_le lt0 fr0.size); have ne1_1 : w.heap.size + 1 ≠ wq0.heap.size := Nat.ne_of_lt (Nat.lt_of_lt_of_le lt1 fr0.size); have al0 : Below wq0.heap.size wq0 (wq0.alloc (.cells #[.int .i64 0, .slice none 0 0, .slice none 0 0] 29)) := (Below.refl _ _).alloc (Nat.le_refl _) _; have h1a := toOrbitSet_any z1 l1 m1 HF1.out (wq0) _ (HI1.out (wq0) (HQ.out.trans ((fr0).mono HQ.out.size))); have h1b := toOrbitSet_any z1 l1 m1 HF1.out ((wq0.alloc (.cells #[.int .i64 0, .slice none 0 0, .slice none 0 0] 29))) _ (HI1.out ((wq0.alloc (.cells #[.int .i64 0, .slice none 0 0, .slice none 0 0] 29))) (HQ.out.trans (((fr0.trans (al0.mono fr0.size))).mono HQ.out.size))))
        | (go_at_call_of 32 A1; (first | (with_reducible refine h1a.mono ?_) | (with_reducible refine h1b.mono ?_)); rintro e wq1 ⟨P1, q1, K1, r1, S1, rfl, hL1, _, hb1⟩; have bx1 : Below wq0.heap.size wq0 wq1 := (by first | (with_reducible exact hb1) | (with_reducible exact al0.trans (hb1.mono al0.size))); have fr1 := fr0.trans (bx1.mono fr0.size); (try (have zb1 := (bx1.block _ (OrbK.box_lt zb0)).trans zb0)); (try (have zb1 : wq1.heap[wq0.heap.size]? = some (.cells #[.int .i64 0, .slice none 0 0, .slice none 0 0] 29) := (hb1.block _ (by simp)).trans (heap_alloc_new wq0 (.cells #[.int .i64 0, .slice none 0 0, .slice none 0 0] 29)))); have hin1 := orbOut_ix hL1; have hin0 := hin0.below bx1; obtain ⟨cb0, cb1, cb2, cb3, cb4, cb5⟩ := HCC.out wq1 (fr1); have ne0_2 : w.heap.size ≠ wq1.heap.size := Nat.ne_of_lt (Nat.lt_of_lt_of_le lt0 fr1.size); have ne1_2 : w.heap.size + 1 ≠ wq1.heap.size := Nat.ne_of_lt (Nat.lt_of_lt_of_le lt1 fr1.size); have al1 : Below wq1.heap.size wq1 (wq1.alloc (.cells #[.int .i64 0, .slice none 0 0, .slice none 0 0] 29)) := (Below.refl _ _).alloc (Nat.le_refl _) _; have h2a := meetSets_spec z0 l0 m0 HF0.out _ z1 l1 m1 HF1.out _ (wq1) (hin0) (hin1); have h2b := meetSets_spec z0 l0 m0 HF0.out _ z1 l1 m1 HF1.out _ ((wq1.alloc (.cells #[.int .i64 0, .slice none 0 0, .slice none 0 0] 29))) (hin0.below al1) (hin1.below al1); rw [HzR.out] at h2a h2b; rw [HlR.out] at h2a h2b; rw [HmR.out] at h2a h2b; rw [HFL.out] at h2a h2b)
        | (go_at_call 36; (first | (with_reducible refine h2a.mono ?_) | (with_reducible refine h2b.mono ?_)); rintro e wq2 ⟨Aw, cw, Bw, dw, Sw, rfl, hLw, hSw, hb2⟩; have bx2 : Below wq1.heap.size wq1 wq2 := (by first | (with_reducible exact hb2) | (with_reducible exact al1.trans (hb2.mono al1.size))); have fr2 := fr1.trans (bx2.mono fr1.size); (try (have zb2 := (bx2.block _ (OrbK.box_lt zb1)).trans zb1)); (try (have zb2 : wq2.heap[wq1.heap.size]? = some (.cells #[.int .i64 0, .slice none 0 0, .slice none 0 0] 29) := (hb2.block _ (by simp)).trans (heap_alloc_new wq1 (.cells #[.int .i64 0, .slice none 0 0, .slice none 0 0] 29)))); obtain ⟨cc0, cc1, cc2, cc3, cc4, cc5⟩ := HCC.out wq2 (fr2); have ne0_3 : w.heap.size ≠ wq2.heap.size := Nat.ne_of_lt (Nat.lt_of_lt_of_le lt0 fr2.size); have ne1_3 : w.heap.size + 1 ≠ wq2.heap.size := Nat.ne_of_lt (Nat.lt_of_lt_of_le lt1 fr2.size); (try (obtain ⟨qb0, qb1, qb2⟩ := OrbK.row3 zb2; have yb0 := frozen_of_row _ _ 0 _ _ zb2; have yb1 := frozen_of_row _ _ 1 _ _ zb2; have yb2 := frozen_of_row _ _ 2 _ _ zb2)))
        | fail)
    all_goals
      have szb0 : u3.heap.size ≤ wq0.heap.size := fr0.size
      have szb1 : u3.heap.size ≤ wq1.heap.size := fr1.size
      go_wp2_with fail
      go_meet
      first | (with_reducible exact ⟨OrbQ.rel_set zb2 hLw (fun b hb => Nat.le_trans (by omega) (hSw b hb)) (fun b hb => Nat.ne_of_gt (Nat.lt_of_lt_of_le (OrbK.box_lt zb1) (hSw b hb))) (by omega) fr2, rfl⟩) | (with_reducible exact ⟨OrbQ.rel_set zb2 hLw (fun b hb => Nat.le_trans (by simp; omega) (hSw b hb)) (fun b hb => Nat.ne_of_gt (Nat.lt_of_lt_of_le (by simp) (hSw b hb))) (by omega) fr2, rfl⟩) | (with_reducible exact ⟨OrbQ.rel_new hLw (fun b hb => Nat.le_trans (by omega) (hSw b hb)) fr2, rfl⟩)
  case rest =>
    obtain ⟨⟨gW, AW, cW, BW, dW, SW, rfl, hbox, hLb, hgS, hSb, hgb, hgz⟩, rfl⟩ := hcut
    have s5 : u3.heap.size ≤ wc.heap.size := hgz.size
    have HC5 := Lib.hid (HC4.out.trans (hgz.mono HC4.out.size))
    have lt_W : gW < wc.heap.size := OrbK.box_lt hbox
    have HTW : Hid (∀ b ∈ SW, u3.heap.size ≤ b ∧ b < wc.heap.size) := Lib.hid (fun b hb => ⟨hSb b hb, hLb.lt b hb⟩)
    have NW := Lib.hid hLb
    have KBW := Lib.hid hbox
    clear hbox hgS hSb hgb hgz HQ HCC lt0 lt1 HC4 hLb
    obtain ⟨w6, rfl⟩ : ∃ x : World, x = wc := ⟨_, rfl⟩
    obtain ⟨b0, b1, b2⟩ := HB0.out w6 HC5.out
    have hto := toOrbitSet_any z0 l0 m0 HF0.out w6 _ (HI0.out w6 HC5.out)
    go_wp2_with fail
    refine hto.mono ?_
    rintro e w7 ⟨PX0, qX0, KX0, rX0, SX0, rfl, hL, hS, hb⟩
    have s8 : w6.heap.size ≤ w7.heap.size := hb.size
    have KBW_8 := Lib.hid ((hb.block _ (Args4.box_lt KBW.out)).trans KBW.out)
    have NW_8 := Lib.hid (NW.out.alike (w' := w7) fun bb hbb => hb.block bb (NW.out.lt bb hbb))
    have HC8 := Lib.hid (HC5.out.trans (hb.mono HC5.out.size))
    have HTX0 : Hid (∀ b ∈ SX0, w6.heap.size ≤ b ∧ b < w7.heap.size) := Lib.hid (fun b hb => ⟨hS b hb, hL.lt b hb⟩)
    have NX0 := Lib.hid hL
    clear hto hb hS b0 b1 b2 KBW NW HC5 hL
    have hbx : Below w7.heap.size w7 (w7.alloc (.cells #[.int .i64 z0, .slice PX0 l0.length qX0, .slice KX0 m0.length rX0] 29)) := (Below.refl _ _).alloc (Nat.le_refl _) _
    have s9 : w7.heap.size ≤ (w7.alloc (.cells #[.int .i64 z0, .slice PX0 l0.length qX0, .slice KX0 m0.length rX0] 29)).heap.size := hbx.size
    have KBW_9 := Lib.hid ((hbx.block _ (Args4.box_lt KBW_8.out)).trans KBW_8.out)
    have NW_9 := Lib.hid (NW_8.out.alike (w' := (w7.alloc (.cells #[.int .i64 z0, .slice PX0 l0.length qX0, .slice KX0 m0.length rX0] 29))) fun bb hbb => hbx.block bb (NW_8.out.lt bb hbb))
    have NX0_9 := Lib.hid (NX0.out.alike (w' := (w7.alloc (.cells #[.int .i64 z0, .slice PX0 l0.length qX0, .slice KX0 m0.length rX0] 29))) fun bb hbb => hbx.block bb (NX0.out.lt bb hbb))
    have HC9 := Lib.hid (HC8.out.trans (hbx.mono HC8.out.size))
    have KBX0 := Lib.hid (heap_alloc_new w7 (.cells #[.int .i64 z0, .slice PX0 l0.length qX0, .slice KX0 m0.length rX0] 29))
    clear hbx KBW_8 NW_8 NX0 HC8
    have lt_X0 : w7.heap.size < (w7.alloc (.cells #[.int .i64 z0, .slice PX0 l0.length qX0, .slice KX0 m0.length rX0] 29)).heap.size := by simp
    obtain ⟨b0, b1, b2⟩ := HB1.out (w7.alloc (.cells #[.int .i64 z0, .slice PX0 l0.length qX0, .slice KX0 m0.length rX0] 29)) HC9.out
    have hto := toOrbitSet_any z1 l1 m1 HF1.out (w7.alloc (.cells #[.int .i64 z0, .slice PX0 l0.length qX0, .slice KX0 m0.length rX0] 29)) _ (HI1.out (w7.alloc (.cells #[.int .i64 z0, .slice PX0 l0.length qX0, .slice KX0 m0.length rX0] 29)) HC9.out)
    go_wp2_with fail
    refine hto.mono ?_
    rintro e w10 ⟨PX1, qX1, KX1, rX1, SX1, rfl, hL, hS, hb⟩
    have s11 : (w7.alloc (.cells #[.int .i64 z0, .slice PX0 l0.length qX0, .slice KX0 m0.length rX0] 29)).heap.size ≤ w10.heap.size := hb.size
    have KBW_11 := Lib.hid ((hb.block _ (Args4.box_lt KBW_9.out)).trans KBW_9.out)
    have KBX0_11 := Lib.hid ((hb.block _ (Args4.box_lt KBX0.out)).trans KBX0.out)
    have NW_11 := Lib.hid (NW_9.out.alike (w' := w10) fun bb hbb => hb.block bb (NW_9.out.lt bb hbb))
    have NX0_11 := Lib.hid (NX0_9.out.alike (w' := w10) fun bb hbb => hb.block bb (NX0_9.out.lt bb hbb))
    have HC11 := Lib.hid (HC9.out.trans (hb.mono HC9.out.size))
    have HTX1 : Hid (∀ b ∈ SX1, (w7.alloc (.cells #[.int .i64 z0, .slice PX0 l0.length qX0, .slice KX0 m0.length rX0] 29)).heap.size ≤ b ∧ b < w10.heap.size) := Lib.hid (fun b hb => ⟨hS b hb, hL.lt b hb⟩)
    have NX1 := Lib.hid hL
    clear hto hb hS b0 b1 b2 KBW_9 KBX0 NW_9 NX0_9 HC9 hL
    have hbx : Below w10.heap.size w10 (w10.alloc (.cells #[.int .i64 z1, .slice PX1 l1.length qX1, .slice KX1 m1.length rX1] 29)) := (Below.refl _ _).alloc (Nat.le_refl _) _
    have s12 : w10.heap.size ≤ (w10.alloc (.cells #[.int .i64 z1, .slice PX1 l1.length qX1, .slice KX1 m1.length rX1] 29)).heap.size := hbx.size
    have KBW_12 := Lib.hid ((hbx.block _ (Args4.box_lt KBW_11.out)).trans KBW_11.out)
    have KBX0_12 := Lib.hid ((hbx.block _ (Args4.box_lt KBX0_11.out)).trans KBX0_11.out)
    have NW_12 := Lib.hid (NW_11.out.alike (w' := (w10.alloc (.cells #[.int .i64 z1, .slice PX1 l1.length qX1, .slice KX1 m1.length rX1] 29))) fun bb hbb => hbx.block bb (NW_11.out.lt bb hbb))
    have NX0_12 := Lib.hid (NX0_11.out.alike (w' := (w10.alloc (.cells #[.int .i64 z1, .slice PX1 l1.length qX1, .slice KX1 m1.length rX1] 29))) fun bb hbb => hbx.block bb (NX0_11.out.lt bb hbb))
    have NX1_12 := Lib.hid (NX1.out.alike (w' := (w10.alloc (.cells #[.int .i64 z1, .slice PX1 l1.length qX1, .slice KX1 m1.length rX1] 29))) fun bb hbb => hbx.block bb (NX1.out.lt bb hbb))
    have HC12 := Lib.hid (HC11.out.trans (hbx.mono HC11.out.size))
    have KBX1 := Lib.hid (heap_alloc_new w10 (.cells #[.int .i64 z1, .slice PX1 l1.length qX1, .slice KX1 m1.length rX1] 29))
    clear hbx KBW_11 KBX0_11 NW_11 NX0_11 NX1 HC11
    have lt_X1 : w10.heap.size < (w10.alloc (.cells #[.int .i64 z1, .slice PX1 l1.length qX1, .slice KX1 m1.length rX1] 29)).heap.size := by simp
    have hsp := meetSets_impl z0 l0 m0 HF0.out _ z1 l1 m1 HF1.out _ (w10.alloc (.cells #[.int .i64 z1, .slice PX1 l1.length qX1, .slice KX1 m1.length rX1] 29)) (orbOut_ix NX0_12.out) (orbOut_ix NX1_12.out)
    rw [HzR.out] at hsp
    rw [HlR.out] at hsp
    rw [HmR.out] at hsp
    rw [HFL.out] at hsp
    obtain ⟨x00, x01, x02⟩ := OrbK.row3 KBX0_12.out
    obtain ⟨x10, x11, x12⟩ := OrbK.row3 KBX1.out
    go_wp2_with fail
    refine hsp.mono ?_
    rintro e w13 ⟨AG, cG, BG, dG, SG, rfl, hL, hS, hb⟩
    have s14 : (w10.alloc (.cells #[.int .i64 z1, .slice PX1 l1.length qX1, .slice KX1 m1.length rX1] 29)).heap.size ≤ w13.heap.size := hb.size
    have KBW_14 := Lib.hid ((hb.block _ (Args4.box_lt KBW_12.out)).trans KBW_12.out)
    have KBX0_14 := Lib.hid ((hb.block _ (Args4.box_lt KBX0_12.out)).trans KBX0_12.out)
    have KBX1_14 := Lib.hid ((hb.block _ (Args4.box_lt KBX1.out)).trans KBX1.out)
    have NW_14 := Lib.hid (NW_12.out.alike (w' := w13) fun bb hbb => hb.block bb (NW_12.out.lt bb hbb))
    have NX0_14 := Lib.hid (NX0_12.out.alike (w' := w13) fun bb hbb => hb.block bb (NX0_12.out.lt bb hbb))
    have NX1_14 := Lib.hid (NX1_12.out.alike (w' := w13) fun bb hbb => hb.block bb (NX1_12.out.lt bb hbb))
    have HC14 := Lib.hid (HC12.out.trans (hb.mono HC12.out.size))
    have HTG : Hid (∀ b ∈ SG, (w10.alloc (.cells #[.int .i64 z1, .slice PX1 l1.length qX1, .slice KX1 m1.length rX1] 29)).heap.size ≤ b ∧ b < w13.heap.size) := Lib.hid (fun b hb => ⟨hS b hb, hL.lt b hb⟩)
    have NG := Lib.hid hL
    clear hb hS KBW_12 KBX0_12 KBX1 NW_12 NX0_12 NX1_12 HC12 hL
    have hbx : Below w13.heap.size w13 (w13.alloc (.cells #[.int .i64 zR, .slice AG lR.length cG, .slice BG mR.length dG] 29)) := (Below.refl _ _).alloc (Nat.le_refl _) _
    have s15 : w13.heap.size ≤ (w13.alloc (.cells #[.int .i64 zR, .slice AG lR.length cG, .slice BG mR.length dG] 29)).heap.size := hbx.size
    have KBW_15 := Lib.hid ((hbx.block _ (Args4.box_lt KBW_14.out)).trans KBW_14.out)
    have KBX0_15 := Lib.hid ((hbx.block _ (Args4.box_lt KBX0_14.out)).trans KBX0_14.out)
    have KBX1_15 := Lib.hid ((hbx.block _ (Args4.box_lt KBX1_14.out)).trans KBX1_14.out)
    have NW_15 := Lib.hid (NW_14.out.alike (w' := (w13.alloc (.cells #[.int .i64 zR, .slice AG lR.length cG, .slice BG mR.length dG] 29))) fun bb hbb => hbx.block bb (NW_14.out.lt bb hbb))
    have NX0_15 := Lib.hid (NX0_14.out.alike (w' := (w13.alloc (.cells #[.int .i64 zR, .slice AG lR.length cG, .slice BG mR.length dG] 29))) fun bb hbb => hbx.block bb (NX0_14.out.lt bb hbb))
    have NX1_15 := Lib.hid (NX1_14.out.alike (w' := (w13.alloc (.cells #[.int .i64 zR, .slice AG lR.length cG, .slice BG mR.length dG] 29))) fun bb hbb => hbx.block bb (NX1_14.out.lt bb hbb))
    have NG_15 := Lib.hid (NG.out.alike (w' := (w13.alloc (.cells #[.int .i64 zR, .slice AG lR.length cG, .slice BG mR.length dG] 29))) fun bb hbb => hbx.block bb (NG.out.lt bb hbb))
    have HC15 := Lib.hid (HC14.out.trans (hbx.mono HC14.out.size))
    have KBG := Lib.hid (heap_alloc_new w13 (.cells #[.int .i64 zR, .slice AG lR.length cG, .slice BG mR.length dG] 29))
    clear hbx KBW_14 KBX0_14 KBX1_14 NW_14 NX0_14 NX1_14 NG HC14
    have lt_G : w13.heap.size < (w13.alloc (.cells #[.int .i64 zR, .slice AG lR.length cG, .slice BG mR.length dG] 29)).heap.size := by simp
    clear hsp x00 x01 x02 x10 x11 x12
    have heq := eqOrbitSet_any zR lR mR HFR.out (w13.alloc (.cells #[.int .i64 zR, .slice AG lR.length cG, .slice BG mR.length dG] 29)) _ _ (orbOut_ix NG_15.out) (orbOut_ix NW_15.out)
    obtain ⟨ya0, ya1, ya2⟩ := OrbK.row3 KBG.out
    obtain ⟨yb0, yb1, yb2⟩ := OrbK.row3 KBW_15.out
    go_wp2_with fail
    refine heq.mono ?_
    rintro e w16 ⟨rfl, hb⟩
    have s17 : (w13.alloc (.cells #[.int .i64 zR, .slice AG lR.length cG, .slice BG mR.length dG] 29)).heap.size ≤ w16.heap.size := hb.size
    have KBW_17 := Lib.hid ((hb.block _ (Args4.box_lt KBW_15.out)).trans KBW_15.out)
    have KBX0_17 := Lib.hid ((hb.block _ (Args4.box_lt KBX0_15.out)).trans KBX0_15.out)
    have KBX1_17 := Lib.hid ((hb.block _ (Args4.box_lt KBX1_15.out)).trans KBX1_15.out)
    have KBG_17 := Lib.hid ((hb.block _ (Args4.box_lt KBG.out)).trans KBG.out)
    have NW_17 := Lib.hid (NW_15.out.alike (w' := w16) fun bb hbb => hb.block bb (NW_15.out.lt bb hbb))
    have NX0_17 := Lib.hid (NX0_15.out.alike (w' := w16) fun bb hbb => hb.block bb (NX0_15.out.lt bb hbb))
    have NX1_17 := Lib.hid (NX1_15.out.alike (w' := w16) fun bb hbb => hb.block bb (NX1_15.out.lt bb hbb))
    have NG_17 := Lib.hid (NG_15.out.alike (w' := w16) fun bb hbb => hb.block bb (NG_15.out.lt bb hbb))
    have HC17 := Lib.hid (HC15.out.trans (hb.mono HC15.out.size))
    clear heq hb ya0 ya1 ya2 yb0 yb1 yb2 KBW_15 KBX0_15 KBX1_15 KBG NW_15 NX0_15 NX1_15 NG_15 HC15
    have hdw : Below w16.heap.size w16 w16.drew := ⟨rfl, rfl, rfl, Nat.le_refl _, fun _ _ => rfl⟩
    have s18 : w16.heap.size ≤ w16.drew.heap.size := hdw.size
    have KBW_18 := Lib.hid ((hdw.block _ (Args4.box_lt KBW_17.out)).trans KBW_17.out)
    have KBX0_18 := Lib.hid ((hdw.block _ (Args4.box_lt KBX0_17.out)).trans KBX0_17.out)
    have KBX1_18 := Lib.hid ((hdw.block _ (Args4.box_lt KBX1_17.out)).trans KBX1_17.out)
    have KBG_18 := Lib.hid ((hdw.block _ (Args4.box_lt KBG_17.out)).trans KBG_17.out)
    have NW_18 := Lib.hid (NW_17.out.alike (w' := w16.drew) fun bb hbb => hdw.block bb (NW_17.out.lt bb hbb))
    have NX0_18 := Lib.hid (NX0_17.out.alike (w' := w16.drew) fun bb hbb => hdw.block bb (NX0_17.out.lt bb hbb))
    have NX1_18 := Lib.hid (NX1_17.out.alike (w' := w16.drew) fun bb hbb => hdw.block bb (NX1_17.out.lt bb hbb))
    have NG_18 := Lib.hid (NG_17.out.alike (w' := w16.drew) fun bb hbb => hdw.block bb (NG_17.out.lt bb hbb))
    have HC18 := Lib.hid (HC17.out.trans (hdw.mono HC17.out.size))
    clear hdw KBW_17 KBX0_17 KBX1_17 KBG_17 NW_17 NX0_17 NX1_17 NG_17 HC17
    have HS := HC18
    have HX := KBX0_18
    obtain ⟨b0, b1, b2⟩ := HB0.out w16.drew HC18.out
    obtain ⟨x0, x1, x2⟩ := OrbK.row3 KBX0_18.out
    have hxx := orbOut_ix NX0_18.out
    have hto := toOrbitSet_any z0 l0 m0 HF0.out w16.drew _ (HI0.out w16.drew HS.out)
    go_wp2
    go_region_held3 (fun w' => w'.cell? ⟨w.heap.size, 0, none⟩ = some (.int .i64 z0) ∧ w'.cell? ⟨w.heap.size, 1, none⟩ = some (.slice A0 l0.length c0) ∧ w'.cell? ⟨w.heap.size, 2, none⟩ = some (.slice B0 m0.length d0) ∧ w'.cell? ⟨w7.heap.size, 0, none⟩ = some (.int .i64 z0) ∧ w'.cell? ⟨w7.heap.size, 1, none⟩ = some (.slice PX0 l0.length qX0) ∧ w'.cell? ⟨w7.heap.size, 2, none⟩ = some (.slice KX0 m0.length rX0))
      (first | (with_reducible exact ⟨by assumption, by assumption, by assumption, by assumption, by assumption, by assumption⟩) | ((try dsimp only); exact ⟨by assumption, by assumption, by assumption, by assumption, by assumption, by assumption⟩) | go_keep)
      (first
        | (go_at_call 32; refine hto.mono ?_; rintro e w19 ⟨PZ, qZ, KZ, rZ, SZ, rfl, hLZ, _, hb1⟩; have hc1 := HS.out.trans (hb1.mono HS.out.size); have hzz := orbOut_ix hLZ; have hyy := hxx.below hb1; obtain ⟨e0, e1, e2⟩ := HB0.out w19 hc1; obtain ⟨e3, e4, e5⟩ := OrbK.row3 (((hb1).block _ (Args4.box_lt HX.out)).trans HX.out))
        | (go_at_call 25; refine (eqOrbitSet_any z0 l0 m0 HF0.out _ _ _ hyy hzz).mono ?_; rintro e w20 ⟨rfl, hb2⟩; have hbz := hb1.trans (hb2.mono hb1.size); have hc2 := HS.out.trans (hbz.mono HS.out.size); obtain ⟨g0, g1, g2⟩ := HB0.out w20 hc2; obtain ⟨g3, g4, g5⟩ := OrbK.row3 (((hbz).block _ (Args4.box_lt HX.out)).trans HX.out))
        | fail)
    have s21 : w16.drew.heap.size ≤ w20.heap.size := hbz.size
    have KBW_21 := Lib.hid ((hbz.block _ (Args4.box_lt KBW_18.out)).trans KBW_18.out)
    have KBX0_21 := Lib.hid ((hbz.block _ (Args4.box_lt KBX0_18.out)).trans KBX0_18.out)
    have KBX1_21 := Lib.hid ((hbz.block _ (Args4.box_lt KBX1_18.out)).trans KBX1_18.out)
    have KBG_21 := Lib.hid ((hbz.block _ (Args4.box_lt KBG_18.out)).trans KBG_18.out)
    have NW_21 := Lib.hid (NW_18.out.alike (w' := w20) fun bb hbb => hbz.block bb (NW_18.out.lt bb hbb))
    have NX0_21 := Lib.hid (NX0_18.out.alike (w' := w20) fun bb hbb => hbz.block bb (NX0_18.out.lt bb hbb))
    have NX1_21 := Lib.hid (NX1_18.out.alike (w' := w20) fun bb hbb => hbz.block bb (NX1_18.out.lt bb hbb))
    have NG_21 := Lib.hid (NG_18.out.alike (w' := w20) fun bb hbb => hbz.block bb (NG_18.out.lt bb hbb))
    have HC21 := Lib.hid (HC18.out.trans (hbz.mono HC18.out.size))
    clear hbz hb1 hb2 hc1 hc2 hzz hyy hxx hLZ hto HS HX b0 b1 b2 x0 x1 x2 e0 e1 e2 e3 e4 e5 g0 g1 g2 g3 g4 g5 KBW_18 KBX0_18 KBX1_18 KBG_18 NW_18 NX0_18 NX1_18 NG_18 HC18
    have hdw : Below w20.heap.size w20 w20.drew := ⟨rfl, rfl, rfl, Nat.le_refl _, fun _ _ => rfl⟩
    have s22 : w20.heap.size ≤ w20.drew.heap.size := hdw.size
    have KBW_22 := Lib.hid ((hdw.block _ (Args4.box_lt KBW_21.out)).trans KBW_21.out)
    have KBX0_22 := Lib.hid ((hdw.block _ (Args4.box_lt KBX0_21.out)).trans KBX0_21.out)
    have KBX1_22 := Lib.hid ((hdw.block _ (Args4.box_lt KBX1_21.out)).trans KBX1_21.out)
    have KBG_22 := Lib.hid ((hdw.block _ (Args4.box_lt KBG_21.out)).trans KBG_21.out)
    have NW_22 := Lib.hid (NW_21.out.alike (w' := w20.drew) fun bb hbb => hdw.block bb (NW_21.out.lt bb hbb))
    have NX0_22 := Lib.hid (NX0_21.out.alike (w' := w20.drew) fun bb hbb => hdw.block bb (NX0_21.out.lt bb hbb))
    have NX1_22 := Lib.hid (NX1_21.out.alike (w' := w20.drew) fun bb hbb => hdw.block bb (NX1_21.out.lt bb hbb))
    have NG_22 := Lib.hid (NG_21.out.alike (w' := w20.drew) fun bb hbb => hdw.block bb (NG_21.out.lt bb hbb))
    have HC22 := Lib.hid (HC21.out.trans (hdw.mono HC21.out.size))
    clear hdw KBW_21 KBX0_21 KBX1_21 KBG_21 NW_21 NX0_21 NX1_21 NG_21 HC21
    have HS := HC22
    have HX := KBX1_22
    obtain ⟨b0, b1, b2⟩ := HB1.out w20.drew HC22.out
    obtain ⟨x0, x1, x2⟩ := OrbK.row3 KBX1_22.out
    have hxx := orbOut_ix NX1_22.out
    have hto := toOrbitSet_any z1 l1 m1 HF1.out w20.drew _ (HI1.out w20.drew HS.out)
    go_wp2
    go_region_held3 (fun w' => w'.cell? ⟨w.heap.size + 1, 0, none⟩ = some (.int .i64 z1) ∧ w'.cell? ⟨w.heap.size + 1, 1, none⟩ = some (.slice A1 l1.length c1) ∧ w'.cell? ⟨w.heap.size + 1, 2, none⟩ = some (.slice B1 m1.length d1) ∧ w'.cell? ⟨w10.heap.size, 0, none⟩ = some (.int .i64 z1) ∧ w'.cell? ⟨w10.heap.size, 1, none⟩ = some (.slice PX1 l1.length qX1) ∧ w'.cell? ⟨w10.heap.size, 2, none⟩ = some (.slice KX1 m1.length rX1))
      (first | (with_reducible exact ⟨by assumption, by assumption, by assumption, by assumption, by assumption, by assumption⟩) | ((try dsimp only); exact ⟨by assumption, by assumption, by assumption, by assumption, by assumption, by assumption⟩) | go_keep)
      (first
        | (go_at_call 32; refine hto.mono ?_; rintro e w23 ⟨PZ, qZ, KZ, rZ, SZ, rfl, hLZ, _, hb1⟩; have hc1 := HS.out.trans (hb1.mono HS.out.size); have hzz := orbOut_ix hLZ; have hyy := hxx.below hb1; obtain ⟨e0, e1, e2⟩ := HB1.out w23 hc1; obtain ⟨e3, e4, e5⟩ := OrbK.row3 (((hb1).block _ (Args4.box_lt HX.out)).trans HX.out))
        | (go_at_call 25; refine (eqOrbitSet_any z1 l1 m1 HF1.out _ _ _ hyy hzz).mono ?_; rintro e w24 ⟨rfl, hb2⟩; have hbz := hb1.trans (hb2.mono hb1.size); have hc2 := HS.out.trans (hbz.mono HS.out.size); obtain ⟨g0, g1, g2⟩ := HB1.out w24 hc2; obtain ⟨g3, g4, g5⟩ := OrbK.row3 (((hbz).block _ (Args4.box_lt HX.out)).trans HX.out))
        | fail)
    have s25 : w20.drew.heap.size ≤ w24.heap.size := hbz.size
    have KBW_25 := Lib.hid ((hbz.block _ (Args4.box_lt KBW_22.out)).trans KBW_22.out)
    have KBX0_25 := Lib.hid ((hbz.block _ (Args4.box_lt KBX0_22.out)).trans KBX0_22.out)
    have KBX1_25 := Lib.hid ((hbz.block _ (Args4.box_lt KBX1_22.out)).trans KBX1_22.out)
    have KBG_25 := Lib.hid ((hbz.block _ (Args4.box_lt KBG_22.out)).trans KBG_22.out)
    have NW_25 := Lib.hid (NW_22.out.alike (w' := w24) fun bb hbb => hbz.block bb (NW_22.out.lt bb hbb))
    have NX0_25 := Lib.hid (NX0_22.out.alike (w' := w24) fun bb hbb => hbz.block bb (NX0_22.out.lt bb hbb))
    have NX1_25 := Lib.hid (NX1_22.out.alike (w' := w24) fun bb hbb => hbz.block bb (NX1_22.out.lt bb hbb))
    have NG_25 := Lib.hid (NG_22.out.alike (w' := w24) fun bb hbb => hbz.block bb (NG_22.out.lt bb hbb))
    have HC25 := Lib.hid (HC22.out.trans (hbz.mono HC22.out.size))
    clear hbz hb1 hb2 hc1 hc2 hzz hyy hxx hLZ hto HS HX b0 b1 b2 x0 x1 x2 e0 e1 e2 e3 e4 e5 g0 g1 g2 g3 g4 g5 KBW_22 KBX0_22 KBX1_22 KBG_22 NW_22 NX0_22 NX1_22 NG_22 HC22
    obtain ⟨x0, x1, x2⟩ := OrbK.row3 KBX0_25.out
    have hmk := markOrbitSet_any z0 l0 m0 HF0.out SX0 PX0 KX0 qX0 rX0 (1) w24 (by omega) (by omega) NX0_25.out
    go_wp2_with fail
    (with_reducible refine hmk.mono ?_)
    rintro e w26 ⟨rfl, hon⟩
    have s27 : w24.heap.size ≤ w26.heap.size := hon.size
    have KBW_27 := Lib.hid ((hon.block _ (Args4.box_lt KBW_25.out) (fun hm => by have := HTX0.out _ hm; omega)).trans KBW_25.out)
    have KBX1_27 := Lib.hid ((hon.block _ (Args4.box_lt KBX1_25.out) (fun hm => by have := HTX0.out _ hm; omega)).trans KBX1_25.out)
    have KBG_27 := Lib.hid ((hon.block _ (Args4.box_lt KBG_25.out) (fun hm => by have := HTX0.out _ hm; omega)).trans KBG_25.out)
    have NW_27 := Lib.hid (NW_25.out.alike (w' := w26) fun bb hbb => hon.block bb (NW_25.out.lt bb hbb) (fun hm => by have h1 := HTX0.out _ hm; have h2 := HTW.out _ hbb; omega))
    have NX1_27 := Lib.hid (NX1_25.out.alike (w' := w26) fun bb hbb => hon.block bb (NX1_25.out.lt bb hbb) (fun hm => by have h1 := HTX0.out _ hm; have h2 := HTX1.out _ hbb; omega))
    have NG_27 := Lib.hid (NG_25.out.alike (w' := w26) fun bb hbb => hon.block bb (NG_25.out.lt bb hbb) (fun hm => by have h1 := HTX0.out _ hm; have h2 := HTG.out _ hbb; omega))
    have HC27 := Lib.hid (Only.below HC25.out hon HC25.out.size (fun b hb => by have := HTX0.out _ hb; have := HZ.out; omega))
    clear hmk hon x0 x1 x2 NX0_25 KBX0_25 KBW_25 KBX1_25 KBG_25 NW_25 NX1_25 NG_25 HC25
    obtain ⟨x0, x1, x2⟩ := OrbK.row3 KBX1_27.out
    have hmk := markOrbitSet_any z1 l1 m1 HF1.out SX1 PX1 KX1 qX1 rX1 (1 + (l0.length : Int) + (sumR m0 : Int)) w26 (by omega) (by omega) NX1_27.out
    go_wp2_with fail
    (with_reducible refine hmk.mono ?_)
    rintro e w28 ⟨rfl, hon⟩
    have s29 : w26.heap.size ≤ w28.heap.size := hon.size
    have KBW_29 := Lib.hid ((hon.block _ (Args4.box_lt KBW_27.out) (fun hm => by have := HTX1.out _ hm; omega)).trans KBW_27.out)
    have KBG_29 := Lib.hid ((hon.block _ (Args4.box_lt KBG_27.out) (fun hm => by have := HTX1.out _ hm; omega)).trans KBG_27.out)
    have NW_29 := Lib.hid (NW_27.out.alike (w' := w28) fun bb hbb => hon.block bb (NW_27.out.lt bb hbb) (fun hm => by have h1 := HTX1.out _ hm; have h2 := HTW.out _ hbb; omega))
    have NG_29 := Lib.hid (NG_27.out.alike (w' := w28) fun bb hbb => hon.block bb (NG_27.out.lt bb hbb) (fun hm => by have h1 := HTX1.out _ hm; have h2 := HTG.out _ hbb; omega))
    have HC29 := Lib.hid (Only.below HC27.out hon HC27.out.size (fun b hb => by have := HTX1.out _ hb; have := HZ.out; omega))
    clear hmk hon x0 x1 x2 NX1_27 KBX1_27 KBW_27 KBG_27 NW_27 NG_27 HC27
    have tk : ¬ 1 + (l0.length : Int) + (sumR m0 : Int) + (l1.length : Int) + (sumR m1 : Int) < 0 := by omega
    have heq := eqOrbitSet_any zR lR mR HFR.out w28 _ _ (orbOut_ix NG_29.out) (orbOut_ix NW_29.out)
    obtain ⟨ya0, ya1, ya2⟩ := OrbK.row3 KBG_29.out
    obtain ⟨yb0, yb1, yb2⟩ := OrbK.row3 KBW_29.out
    go_wp2_with fail
    refine heq.mono ?_
    rintro e w30 ⟨rfl, hb⟩
    have s31 : w28.heap.size ≤ w30.heap.size := hb.size
    have KBW_31 := Lib.hid ((hb.block _ (Args4.box_lt KBW_29.out)).trans KBW_29.out)
    have KBG_31 := Lib.hid ((hb.block _ (Args4.box_lt KBG_29.out)).trans KBG_29.out)
    have NW_31 := Lib.hid (NW_29.out.alike (w' := w30) fun bb hbb => hb.block bb (NW_29.out.lt bb hbb))
    have NG_31 := Lib.hid (NG_29.out.alike (w' := w30) fun bb hbb => hb.block bb (NG_29.out.lt bb hbb))
    have HC31 := Lib.hid (HC29.out.trans (hb.mono HC29.out.size))
    clear heq hb ya0 ya1 ya2 yb0 yb1 yb2 KBW_29 KBG_29 NW_29 NG_29 HC29
    obtain ⟨y0, y1, y2⟩ := OrbK.row3 KBG_31.out
    have hmi := markOrbitSet_full zR lR mR HFR.out SG AG BG cG dG 1 w30 (by omega) (by omega) NG_31.out
    go_wp2_with fail
    (with_reducible refine hmi.mono ?_)
    rintro e w32 ⟨rfl, ⟨S', hLm, hSm⟩, hon⟩
    have s33 : w30.heap.size ≤ w32.heap.size := hon.size
    have KBW_33 := Lib.hid ((hon.block _ (Args4.box_lt KBW_31.out) (fun hm => by have := HTG.out _ hm; omega)).trans KBW_31.out)
    have KBG_33 := Lib.hid ((hon.block _ (Args4.box_lt KBG_31.out) (fun hm => by have := HTG.out _ hm; omega)).trans KBG_31.out)
    have NW_33 := Lib.hid (NW_31.out.alike (w' := w32) fun bb hbb => hon.block bb (NW_31.out.lt bb hbb) (fun hm => by have h1 := HTG.out _ hm; have h2 := HTW.out _ hbb; omega))
    have HC33 := Lib.hid (Only.below HC31.out hon HC31.out.size (fun b hb => by have := HTG.out _ hb; have := HZ.out; omega))
    have NM := Lib.hid hLm
    have HTM : Hid (∀ b ∈ S', _ ∧ _) := Lib.hid (fun b hb => HTG.out b (hSm b hb))
    clear hmi hon hLm hSm y0 y1 y2 NG_31 KBW_31 KBG_31 NW_31 HC31
    have tm : ¬ 1 + (lR.length : Int) + (sumR mR : Int) < 0 := by omega
    have tq : (1 + (lR.length : Int) + (sumR mR : Int) != 1 + (lR.length : Int) + (sumR mR : Int)) = false := by simp
    obtain ⟨y0, y1, y2⟩ := OrbK.row3 KBG_33.out
    have hhi := heldOrbitSet_any zR lR mR HFR.out S' AG BG cG dG 1 w32 (by omega) (by omega) NM.out
    go_wp2_with fail
    (with_reducible refine hhi.mono ?_)
    rintro e w34 ⟨rfl, hb⟩
    have s35 : w32.heap.size ≤ w34.heap.size := hb.size
    have KBW_35 := Lib.hid ((hb.block _ (Args4.box_lt KBW_33.out)).trans KBW_33.out)
    have KBG_35 := Lib.hid ((hb.block _ (Args4.box_lt KBG_33.out)).trans KBG_33.out)
    have NW_35 := Lib.hid (NW_33.out.alike (w' := w34) fun bb hbb => hb.block bb (NW_33.out.lt bb hbb))
    have NM_35 := Lib.hid (NM.out.alike (w' := w34) fun bb hbb => hb.block bb (NM.out.lt bb hbb))
    have HC35 := Lib.hid (HC33.out.trans (hb.mono HC33.out.size))
    clear hhi hb y0 y1 y2 KBW_33 KBG_33 NW_33 NM HC33
    have HQ := HC35
    have lt0 : w.heap.size < w34.heap.size := by have h := HQ.out.size; simp only [World.size_alloc] at h; omega
    have lt1 : w.heap.size + 1 < w34.heap.size := by have h := HQ.out.size; simp only [World.size_alloc] at h; omega
    have HCC : Hid (∀ w' : World, Below w34.heap.size w34 w' → w'.cell? ⟨w.heap.size, 0, none⟩ = some (.int .i64 z0) ∧ w'.cell? ⟨w.heap.size, 1, none⟩ = some (.slice A0 l0.length c0) ∧ w'.cell? ⟨w.heap.size, 2, none⟩ = some (.slice B0 m0.length d0) ∧ w'.cell? ⟨w.heap.size + 1, 0, none⟩ = some (.int .i64 z1) ∧ w'.cell? ⟨w.heap.size + 1, 1, none⟩ = some (.slice A1 l1.length c1) ∧ w'.cell? ⟨w.heap.size + 1, 2, none⟩ = some (.slice B1 m1.length d1)) := Lib.hid (fun w' h => ⟨(HB0.out w' (HQ.out.trans (h.mono HQ.out.size))).1, (HB0.out w' (HQ.out.trans (h.mono HQ.out.size))).2.1, (HB0.out w' (HQ.out.trans (h.mono HQ.out.size))).2.2, (HB1.out w' (HQ.out.trans (h.mono HQ.out.size))).1, (HB1.out w' (HQ.out.trans (h.mono HQ.out.size))).2.1, (HB1.out w' (HQ.out.trans (h.mono HQ.out.size))).2.2⟩)
    go_upto_region 31 with fail
    go_cut [15, 16] (fun s t wx => OrbQ.Rel w34 zR lR mR s wx ∧ t = .bool fl)
    case first =>
      have hdw : Below w34.heap.size w34 w34.drew := ⟨rfl, rfl, rfl, Nat.le_refl _, fun _ _ => rfl⟩
      have hal : Below w34.heap.size w34 (w34.alloc (.cells #[.int .i64 0, .slice none 0 0, .slice none 0 0] 29)).drew := by
        have h : Below w34.heap.size w34 (w34.alloc (.cells #[.int .i64 0, .slice none 0 0, .slice none 0 0] 29)) := (Below.refl _ _).alloc (Nat.le_refl _) _
        exact ⟨h.os, h.tape, h.output, h.size, h.block⟩
      obtain ⟨cu0, cu1, cu2, cu3, cu4, cu5⟩ := HCC.out w34.drew (hdw)
      obtain ⟨cx0, cx1, cx2, cx3, cx4, cx5⟩ := HCC.out (w34.alloc (.cells #[.int .i64 0, .slice none 0 0, .slice none 0 0] 29)).drew (hal)
      have ne0_0 : w.heap.size ≠ w34.heap.size := Nat.ne_of_lt lt0
      have ne1_0 : w.heap.size + 1 ≠ w34.heap.size := Nat.ne_of_lt lt1
      have h0a := toOrbitSet_any z0 l0 m0 HF0.out (w34.drew) _ (HI0.out (w34.drew) (HQ.out.trans ((hdw).mono HQ.out.size)))
      have h0b := toOrbitSet_any z0 l0 m0 HF0.out ((w34.alloc (.cells #[.int .i64 0, .slice none 0 0, .slice none 0 0] 29)).drew) _ (HI0.out ((w34.alloc (.cells #[.int .i64 0, .slice none 0 0, .slice none 0 0] 29)).drew) (HQ.out.trans ((hal).mono HQ.out.size)))
      go_region_held3 (fun w' => w'.cell? ⟨w.heap.size, 0, none⟩ = some (.int .i64 z0) ∧ w'.cell? ⟨w.heap.size, 1, none⟩ = some (.slice A0 l0.length c0) ∧ w'.cell? ⟨w.heap.size, 2, none⟩ = some (.slice B0 m0.length d0) ∧ w'.cell? ⟨w.heap.size + 1, 0, none⟩ = some (.int .i64 z1) ∧ w'.cell? ⟨w.heap.size + 1, 1, none⟩ = some (.slice A1 l1.length c1) ∧ w'.cell? ⟨w.heap.size + 1, 2, none⟩ = some (.slice B1 m1.length d1))
        (first | ((try dsimp only); (with_reducible exact ⟨by assumption, by assumption, by assumption, by assumption, by assumption, by assumption⟩)) | (with_reducible exact ⟨OrbQ.set3_keep (by assumption) (by assumption), OrbQ.set3_keep (by assumption) (by assumption), OrbQ.set3_keep (by assumption) (by assumption), OrbQ.set3_keep (by assumption) (by assumption), OrbQ.set3_keep (by assumption) (by assumption), OrbQ.set3_keep (by assumption) (by assumption)⟩) | go_keep)
        (first
          | (go_at_call_of 32 A0; (first | (with_reducible refine h0a.mono ?_) | (with_reducible refine h0b.mono ?_)); rintro e wq0 ⟨P0, q0, K0, r0, S0, rfl, hL0, _, hb0⟩; have fr0 : Below w34.heap.size w34 wq0 := (by first | (with_reducible exact hdw.trans (hb0.mono hdw.size)) | (with_reducible exact hal.trans (hb0.mono hal.size))); (try (have zb0 : wq0.heap[w34.heap.size]? = some (.cells #[.int .i64 0, .slice none 0 0, .slice none 0 0] 29) := (hb0.block w34.heap.size (by simp)).trans (heap_alloc_new w34 (.cells #[.int .i64 0, .slice none 0 0, .slice none 0 0] 29)))); have hin0 := orbOut_ix hL0; obtain ⟨ca0, ca1, ca2, ca3, ca4, ca5⟩ := HCC.out wq0 (fr0); have ne0_1 : w.heap.size ≠ wq0.heap.size := Nat.ne_of_lt (Nat.lt_of_lt_of_le lt0 fr0.size); have ne1_1 : w.heap.size + 1 ≠ wq0.heap.size := Nat.ne_of_lt (Nat.lt_of_lt_of_le lt1 fr0.size); have al0 : Below wq0.heap.size wq0 (wq0.alloc (.cells #[.int .i64 0, .slice none 0 0, .slice none 0 0] 29)) := (Below.refl _ _).alloc (Nat.le_refl _) _; have h1a := toOrbitSet_any z1 l1 m1 HF1.out (wq0) _ (HI1.out (wq0) (HQ.out.trans ((fr0).mono HQ.out.size))); have h1b := toOrbitSet_any z1 l1 m1 HF1.out ((wq0.alloc (.cells #[.int .i64 0, .slice none 0 0, .slice none 0 0] 29))) _ (HI1.out ((wq0.alloc (.cells #[.int .i64 0, .slice none 0 0, .slice none 0 0] 29))) (HQ.out.trans (((fr0.trans (al0.mono fr0.size))).mono HQ.out.size))))
          | (go_at_call_of 32 A1; (first | (with_reducible refine h1a.mono ?_) | (with_reducible refine h1b.mono ?_)); rintro e wq1 ⟨P1, q1, K1, r1, S1, rfl, hL1, _, hb1⟩; have bx1 : Below wq0.heap.size wq0 wq1 := (by first | (with_reducible exact hb1) | (with_reducible exact al0.trans (hb1.mono al0.size))); have fr1 := fr0.trans (bx1.mono fr0.size); (try (have zb1 := (bx1.block _ (OrbK.box_lt zb0)).trans zb0)); (try (have zb1 : wq1.heap[wq0.heap.size]? = some (.cells #[.int .i64 0, .slice none 0 0, .slice none 0 0] 29) := (hb1.block _ (by simp)).trans (heap_alloc_new wq0 (.cells #[.int .i64 0, .slice none 0 0, .slice none 0 0] 29)))); have hin1 := orbOut_ix hL1; have hin0 := hin0.below bx1; obtain ⟨cb0, cb1, cb2, cb3, cb4, cb5⟩ := HCC.out wq1 (fr1); have ne0_2 : w.heap.size ≠ wq1.heap.size := Nat.ne_of_lt (Nat.lt_of_lt_of_le lt0 fr1.size); have ne1_2 : w.heap.size + 1 ≠ wq1.heap.size := Nat.ne_of_lt (Nat.lt_of_lt_of_le lt1 fr1.size); have al1 : Below wq1.heap.size wq1 (wq1.alloc (.cells #[.int .i64 0, .slice none 0 0, .slice none 0 0] 29)) := (Below.refl _ _).alloc (Nat.le_refl _) _; have h2a := meetSets_impl z0 l0 m0 HF0.out _ z1 l1 m1 HF1.out _ (wq1) (hin0) (hin1); have h2b := meetSets_impl z0 l0 m0 HF0.out _ z1 l1 m1 HF1.out _ ((wq1.alloc (.cells #[.int .i64 0, .slice none 0 0, .slice none 0 0] 29))) (hin0.below al1) (hin1.below al1); rw [HzR.out] at h2a h2b; rw [HlR.out] at h2a h2b; rw [HmR.out] at h2a h2b; rw [HFL.out] at h2a h2b)
          | (go_at_call 37; (first | (with_reducible refine h2a.mono ?_) | (with_reducible refine h2b.mono ?_)); rintro e wq2 ⟨Aw, cw, Bw, dw, Sw, rfl, hLw, hSw, hb2⟩; have bx2 : Below wq1.heap.size wq1 wq2 := (by first | (with_reducible exact hb2) | (with_reducible exact al1.trans (hb2.mono al1.size))); have fr2 := fr1.trans (bx2.mono fr1.size); (try (have zb2 := (bx2.block _ (OrbK.box_lt zb1)).trans zb1)); (try (have zb2 : wq2.heap[wq1.heap.size]? = some (.cells #[.int .i64 0, .slice none 0 0, .slice none 0 0] 29) := (hb2.block _ (by simp)).trans (heap_alloc_new wq1 (.cells #[.int .i64 0, .slice none 0 0, .slice none 0 0] 29)))); obtain ⟨cc0, cc1, cc2, cc3, cc4, cc5⟩ := HCC.out wq2 (fr2); have ne0_3 : w.heap.size ≠ wq2.heap.size := Nat.ne_of_lt (Nat.lt_of_lt_of_le lt0 fr2.size); have ne1_3 : w.heap.size + 1 ≠ wq2.heap.size := Nat.ne_of_lt (Nat.lt_of_lt_of_le lt1 fr2.size); (try (obtain ⟨qb0, qb1, qb2⟩ := OrbK.row3 zb2; have yb0 := frozen_of_row _ _ 0 _ _ zb2; have yb1 := frozen_of_row _ _ 1 _ _ zb2; have yb2 := frozen_of_row _ _ 2 _ _ zb2)))
          | fail)
      all_goals
        have szb0 : w34.heap.size ≤ wq0.heap.size := fr0.size
        have szb1 : w34.heap.size ≤ wq1.heap.size := fr1.size
        go_wp2_with fail
        go_meet
        first | (with_reducible exact ⟨OrbQ.rel_set zb2 hLw (fun b hb => Nat.le_trans (by omega) (hSw b hb)) (fun b hb => Nat.ne_of_gt (Nat.lt_of_lt_of_le (OrbK.box_lt zb1) (hSw b hb))) (by omega) fr2, rfl⟩) | (with_reducible exact ⟨OrbQ.rel_set zb2 hLw (fun b hb => Nat.le_trans (by simp; omega) (hSw b hb)) (fun b hb => Nat.ne_of_gt (Nat.lt_of_lt_of_le (by simp) (hSw b hb))) (by omega) fr2, rfl⟩) | (with_reducible exact ⟨OrbQ.rel_new hLw (fun b hb => Nat.le_trans (by omega) (hSw b hb)) fr2, rfl⟩)
    case rest =>
      obtain ⟨⟨gH, AH, cH, BH, dH, SH, rfl, hbox, hLb, hgS, hSb, hgb, hgz⟩, rfl⟩ := hcut
      have s36 : w34.heap.size ≤ wc.heap.size := hgz.size
      have KBW_36 := Lib.hid ((hgz.block _ (Args4.box_lt KBW_35.out)).trans KBW_35.out)
      have KBG_36 := Lib.hid ((hgz.block _ (Args4.box_lt KBG_35.out)).trans KBG_35.out)
      have NW_36 := Lib.hid (NW_35.out.alike (w' := wc) fun bb hbb => hgz.block bb (NW_35.out.lt bb hbb))
      have NM_36 := Lib.hid (NM_35.out.alike (w' := wc) fun bb hbb => hgz.block bb (NM_35.out.lt bb hbb))
      have HC36 := Lib.hid (HC35.out.trans (hgz.mono HC35.out.size))
      have lt_H : gH < wc.heap.size := OrbK.box_lt hbox
      have HTH : Hid (∀ b ∈ SH, w34.heap.size ≤ b ∧ b < wc.heap.size) := Lib.hid (fun b hb => ⟨hSb b hb, hLb.lt b hb⟩)
      have NH := Lib.hid hLb
      have KBH := Lib.hid hbox
      clear hbox hgS hSb hgb hgz HQ HCC lt0 lt1 KBW_35 KBG_35 NW_35 NM_35 HC35 hLb
      obtain ⟨w37, rfl⟩ : ∃ x : World, x = wc := ⟨_, rfl⟩
      have heq := eqOrbitSet_any zR lR mR HFR.out w37 _ _ (orbOut_ix NH.out) (orbOut_ix NW_36.out)
      obtain ⟨ya0, ya1, ya2⟩ := OrbK.row3 KBH.out
      obtain ⟨yb0, yb1, yb2⟩ := OrbK.row3 KBW_36.out
      go_wp2_with fail
      refine heq.mono ?_
      rintro e w38 ⟨rfl, hb⟩
      have s39 : w37.heap.size ≤ w38.heap.size := hb.size
      have KBW_39 := Lib.hid ((hb.block _ (Args4.box_lt KBW_36.out)).trans KBW_36.out)
      have KBG_39 := Lib.hid ((hb.block _ (Args4.box_lt KBG_36.out)).trans KBG_36.out)
      have KBH_39 := Lib.hid ((hb.block _ (Args4.box_lt KBH.out)).trans KBH.out)
      have NW_39 := Lib.hid (NW_36.out.alike (w' := w38) fun bb hbb => hb.block bb (NW_36.out.lt bb hbb))
      have NM_39 := Lib.hid (NM_36.out.alike (w' := w38) fun bb hbb => hb.block bb (NM_36.out.lt bb hbb))
      have NH_39 := Lib.hid (NH.out.alike (w' := w38) fun bb hbb => hb.block bb (NH.out.lt bb hbb))
      have HC39 := Lib.hid (HC36.out.trans (hb.mono HC36.out.size))
      clear heq hb ya0 ya1 ya2 yb0 yb1 yb2 KBW_36 KBG_36 KBH NW_36 NM_36 NH HC36
      obtain ⟨y0, y1, y2⟩ := OrbK.row3 KBG_39.out
      have hhi := heldOrbitSet_any zR lR mR HFR.out S' AG BG cG dG 1 w38 (by omega) (by omega) NM_39.out
      go_wp2_with fail
      (with_reducible refine hhi.mono ?_)
      rintro e w40 ⟨rfl, hb⟩
      have s41 : w38.heap.size ≤ w40.heap.size := hb.size
      have KBW_41 := Lib.hid ((hb.block _ (Args4.box_lt KBW_39.out)).trans KBW_39.out)
      have KBG_41 := Lib.hid ((hb.block _ (Args4.box_lt KBG_39.out)).trans KBG_39.out)
      have KBH_41 := Lib.hid ((hb.block _ (Args4.box_lt KBH_39.out)).trans KBH_39.out)
      have NW_41 := Lib.hid (NW_39.out.alike (w' := w40) fun bb hbb => hb.block bb (NW_39.out.lt bb hbb))
      have NM_41 := Lib.hid (NM_39.out.alike (w' := w40) fun bb hbb => hb.block bb (NM_39.out.lt bb hbb))
      have NH_41 := Lib.hid (NH_39.out.alike (w' := w40) fun bb hbb => hb.block bb (NH_39.out.lt bb hbb))
      have HC41 := Lib.hid (HC39.out.trans (hb.mono HC39.out.size))
      clear hhi hb y0 y1 y2 KBW_39 KBG_39 KBH_39 NW_39 NM_39 NH_39 HC39
      have hfin := HW0.out.trans (HC41.out.mono HW0.out.size)
      go_wp2
      go_ret
      exact ⟨rfl, hfin⟩

theorem walk (w : World) (x0 : Value) (z0 : Int) (l0 : List Int) (m0 : List (List Int)) (hx0 : OrbIn w x0 z0 l0 m0) (hs0 : ShortO l0 m0) (x1 : Value) (z1 : Int) (l1 : List Int) (m1 : List (List Int)) (hx1 : OrbIn w x1 z1 l1 m1) (hs1 : ShortO l1 m1) :
    Calls Try.prog 7 #[x0, x1] w fun e w' => e = .returned (.bool true) ∧ Below w.heap.size w w' := by
  by_cases hn0 : ((l0.length + (m0.length + sumR m0) : Nat) : Int) ≤ 1048576
  · skip
    by_cases hn1 : ((l1.length + (m1.length + sumR m1) : Nat) : Int) ≤ 1048576 - ((l0.length + (m0.length + sumR m0) : Nat) : Int)
    · skip
      exact walk_yes w x0 z0 l0 m0 hx0 hs0 x1 z1 l1 m1 hx1 hs1 hn0 hn1
    · exact walk_no1 w x0 z0 l0 m0 hx0 hs0 x1 z1 l1 m1 hx1 hs1 hn0 hn1
  · exact walk_no0 w x0 z0 l0 m0 hx0 hs0 x1 z1 l1 m1 hx1 hs1 hn0

set_option maxRecDepth 100000 in
theorem lifted (os : Os) (started : os.Started) (H : Type) (enc : TypeId × Value → H) :
    ReturnsInHanded {} Try.checked os 7 .any (Rows.fnExactMeetSetsSpec.pre6 enc Try.prog Try.f7 Rows.fnExactMeetSetsRow.domain false) (Rows.fnExactMeetSetsSpec.post enc Try.prog Try.f7 false true false false) := by
  refine returnsInHanded_of_change (C := Try.checked) own started (by kernel_rfl) Try.func7
    (ChangeSpec.witness6 (enc := enc) (C := Try.checked) false ⟨#[], #[.agg #[.int .i64 0, .slice none 0 0, .slice none 0 0], .agg #[.int .i64 0, .slice none 0 0, .slice none 0 0]], []⟩ 8 (by kernel_rfl) (by kernel_rfl) (by kernel_rfl) (by kernel_rfl)) ?_
  intro W base args ds gs before hval0 hW hcnd _
  have hval : ∀ (j : Nat) t v, Try.f7.params[j]? = some t → args[j]? = some v → Value.okWide Try.prog W .any base t v := hval0
  have hW' := hW
  obtain ⟨p, q, hA0, hV, rfl, hfz, hnd⟩ := hW
  have hA : DataW.TrodAll enc Try.prog W 0 (fun _ => true) true Try.f7.params.toList args.toList ds p := hA0
  rw [Try.params7] at hA hval
  obtain ⟨v0, vs0, d0, ds0, p0, q0, hargs, rfl, rfl, h0, r0⟩ := trodAll_cons hA
  obtain ⟨v1, vs1, d1, ds1, p1, q1, rfl, rfl, rfl, h1, r1⟩ := trodAll_cons r0
  obtain ⟨rfl, rfl, rfl⟩ := trodAll_nil r1
  obtain rfl : args = #[v0, v1] := by cases args; simp_all
  obtain ⟨rfl, rfl⟩ := trodVars_none hV
  have k0 := h0
  have lt0 : ∀ x ∈ p0, x.block < W.heap.size := by obtain ⟨m, hm⟩ := k0; exact DataW.trod_lt m _ _ _ hm
  have k1 := h1
  have lt1 : ∀ x ∈ p1, x.block < W.heap.size := by obtain ⟨m, hm⟩ := k1; exact DataW.trod_lt m _ _ _ hm
  obtain ⟨z0, l0, m0, tx0, ts0⟩ := open_orbit (hval 0 39 v0 rfl rfl) h0
  obtain ⟨z1, l1, m1, tx1, ts1⟩ := open_orbit (hval 1 39 v1 rfl rfl) h1
  clear hA0 hval0
  refine (walk W v0 z0 l0 m0 tx0 ts0 v1 z1 l1 m1 tx1 ts1).mono fun e W' ⟨he, bel⟩ => ?_
  subst he
  exact ⟨_, rfl, _, _, _, [], _, [], hW', trodAll_mk1 (shut_bool Try.underlying4 _), (trodAll_cons_mk (Below.trod laidOut (by kernel_rfl) (of_decide_eq_true (by kernel_rfl)) k0 bel lt0) (trodAll_cons_mk (Below.trod laidOut (by kernel_rfl) (of_decide_eq_true (by kernel_rfl)) k1 bel lt1) trodAll_mk0)), rfl, bel.frame _, fun h => by cases h⟩

theorem over : Rows.fnExactMeetSetsRow.holds Try.pinned (OpenSpec.ofChange Rows.fnExactMeetSetsSpec) :=
  OpenClaim.holds_of_wide 7 Try.f7 rfl rfl rfl rfl rfl rfl rfl ⟨rfl, rfl, rfl, rfl, rfl⟩ rfl rfl rfl rfl rfl (by kernel_rfl) Try.func7 (by kernel_rfl)
    (of_decide_eq_true (by kernel_rfl)) (by unfold Func.isWrapper; first | (rw [if_pos (by decide +kernel)]; kernel_rfl) | (rw [if_neg (by decide +kernel)]; exact ⟨rfl, rfl⟩))
    (fun os started H enc _ => lifted os started H enc)

theorem proved : Rows.FnExactMeetSetsSaid := over
#print axioms proved
end Go.Proofs.Ytdbogjhkcnajkaa.fnExactMeetSets
