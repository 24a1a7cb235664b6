/-
  The law FnExactActOnSet returns true for every two values: the program gives what a permutation makes of an orbit set, and whether there is one, as the model does, in memory of its own, and leaves its arguments as they were. No condition.
-/
import Derived.Test.YtdbogjhkcnajkaaKActOnSet27
import Derived.Test.YtdbogjhkcnajkaaKActOnSet29
import Derived.Test.YtdbogjhkcnajkaaKActOnSet11
import Derived.Test.YtdbogjhkcnajkaaKActOnSet31
import Derived.Test.YtdbogjhkcnajkaaKActOnSet26
import Derived.Test.YtdbogjhkcnajkaaKActOnSet4
import Derived.Test.YtdbogjhkcnajkaaKActOnSet5
import Derived.Test.YtdbogjhkcnajkaaKActOnSet30
namespace Go.Proofs.Ytdbogjhkcnajkaa.fnExactActOnSet
open Go.ChangeShapes Go.WideShapes Go.ChangeAt Go.RowKit
set_option linter.unusedVariables false

namespace Args4
theorem box_lt {w : World} {g : Nat} {o : Obj} (h : w.heap[g]? = some o) : g < w.heap.size := (Array.getElem?_eq_some_iff.1 h).1
theorem row4 {w : World} {g : Nat} {a b c d : Value} {T : TypeId} (h : w.heap[g]? = some (.cells #[a, b, c, d] T (0, 0))) : w.cell? ⟨g, 0, none⟩ = some a ∧ w.cell? ⟨g, 1, none⟩ = some b ∧ w.cell? ⟨g, 2, none⟩ = some c ∧ w.cell? ⟨g, 3, none⟩ = some d := by
  refine ⟨?_, ?_, ?_, ?_⟩ <;> rw [cell_of_row w g _ _ _ _ h] <;> rfl
end Args4
theorem pairsAt_of {w : World} {base n : Nat} {e : TypeId} {B : Option Addr} {d : Nat} {l : List (Int × Int)} (h : w.ownsRow base e 2 (.slice B n d) l.length (cellsOf l)) : PairsAt w B l := by
  obtain ⟨A, c, ee, hp⟩ := own_pairsAt h
  injection ee with e1 e2 e3
  subst e1
  exact hp

set_option maxRecDepth 100000 in
set_option maxHeartbeats 16000000 in
theorem walk_no0 (w : World) (A0 : Option Addr) (c0 : Nat) (l0 : List (Int × Int)) (hA0 : PairsAt w A0 l0) (hm0 : l0.length ≤ maxLen) (x1 : Value) (z1 : Int) (l1 : List Int) (m1 : List (List Int)) (hx1 : OrbIn w x1 z1 l1 m1) (hs1 : ShortO l1 m1) (hn0 : ¬ (l0.length : Int) ≤ 1048576) :
    Calls Try.prog 11 #[.slice A0 l0.length c0, x1] w fun e w' => e = .returned (.bool true) ∧ Below w.heap.size w w' := by
  unfold maxLen at hm0
  obtain ⟨A1, c1, B1, d1, rfl, hp1, hk1⟩ := hx1
  have hb0 : Below w.heap.size w (w.alloc (.cells #[.int .i64 z1, .slice A1 l1.length c1, .slice B1 m1.length d1] 39)) := ((Below.refl _ w).alloc (by first | exact Nat.le_refl _ | (simp; done) | (simp; omega)) _)
  have HI1 : Hid (∀ w' : World, Below (w.alloc (.cells #[.int .i64 z1, .slice A1 l1.length c1, .slice B1 m1.length d1] 39)).heap.size (w.alloc (.cells #[.int .i64 z1, .slice A1 l1.length c1, .slice B1 m1.length d1] 39)) w' → OrbIn w' (.agg #[.int .i64 z1, .slice A1 l1.length c1, .slice B1 m1.length d1]) z1 l1 m1) := Lib.hid (fun w' h => ⟨A1, c1, B1, d1, rfl, hp1.below (hb0.trans (h.mono hb0.size)), hk1.below (hb0.trans (h.mono hb0.size))⟩)
  have HI0 : Hid (∀ w' : World, Below (w.alloc (.cells #[.int .i64 z1, .slice A1 l1.length c1, .slice B1 m1.length d1] 39)).heap.size (w.alloc (.cells #[.int .i64 z1, .slice A1 l1.length c1, .slice B1 m1.length d1] 39)) w' → PairsAt w' A0 l0) := Lib.hid (fun w' h => hA0.below (hb0.trans (h.mono hb0.size)))
  have kk1 : (w.alloc (.cells #[.int .i64 z1, .slice A1 l1.length c1, .slice B1 m1.length d1] 39)).heap[w.heap.size]? = some (.cells #[.int .i64 z1, .slice A1 l1.length c1, .slice B1 m1.length d1] 39 (0, 0)) := by
    have h := heap_alloc_new w (.cells #[.int .i64 z1, .slice A1 l1.length c1, .slice B1 m1.length d1] 39)
    exact h
  obtain ⟨b10, b11, b12⟩ := OrbK.row3 kk1
  have lt1 : w.heap.size < (w.alloc (.cells #[.int .i64 z1, .slice A1 l1.length c1, .slice B1 m1.length d1] 39)).heap.size := by first | (simp; done) | (simp; omega)
  have HB1 : Hid (∀ w' : World, Below (w.alloc (.cells #[.int .i64 z1, .slice A1 l1.length c1, .slice B1 m1.length d1] 39)).heap.size (w.alloc (.cells #[.int .i64 z1, .slice A1 l1.length c1, .slice B1 m1.length d1] 39)) w' → w'.cell? ⟨w.heap.size, 0, none⟩ = some (.int .i64 z1) ∧ w'.cell? ⟨w.heap.size, 1, none⟩ = some (.slice A1 l1.length c1) ∧ w'.cell? ⟨w.heap.size, 2, none⟩ = some (.slice B1 m1.length d1)) := Lib.hid (fun w' h => ⟨(h.cell (p := ⟨w.heap.size, 0, none⟩) lt1).trans b10, (h.cell (p := ⟨w.heap.size, 1, none⟩) lt1).trans b11, (h.cell (p := ⟨w.heap.size, 2, none⟩) lt1).trans b12⟩)
  clear hp1 hk1 kk1 lt1 hA0
  have HC0 : Hid (Below (w.alloc (.cells #[.int .i64 z1, .slice A1 l1.length c1, .slice B1 m1.length d1] 39)).heap.size (w.alloc (.cells #[.int .i64 z1, .slice A1 l1.length c1, .slice B1 m1.length d1] 39)) (w.alloc (.cells #[.int .i64 z1, .slice A1 l1.length c1, .slice B1 m1.length d1] 39))) := Lib.hid (Below.refl _ _)
  have HW0 := Lib.hid hb0
  clear hb0
  go_enter Try.func11, Try.ntmps11
  go_wp2_with fail
  refine (sz_no A0 l0.length c0 (1048576) _ (by omega) (by omega) (by omega) (by omega)).mono ?_
  rintro e w' ⟨rfl, rfl⟩
  clear b10 b11 b12
  have hfin := HW0.out.trans (HC0.out.mono HW0.out.size)
  go_wp2
  go_ret
  exact ⟨rfl, hfin⟩

set_option maxRecDepth 100000 in
set_option maxHeartbeats 16000000 in
theorem walk_no1 (w : World) (A0 : Option Addr) (c0 : Nat) (l0 : List (Int × Int)) (hA0 : PairsAt w A0 l0) (hm0 : l0.length ≤ maxLen) (x1 : Value) (z1 : Int) (l1 : List Int) (m1 : List (List Int)) (hx1 : OrbIn w x1 z1 l1 m1) (hs1 : ShortO l1 m1) (hn0 : (l0.length : Int) ≤ 1048576) (hn1 : ¬ ((l1.length + (m1.length + sumR m1) : Nat) : Int) ≤ 1048576 - (l0.length : Int)) :
    Calls Try.prog 11 #[.slice A0 l0.length c0, x1] w fun e w' => e = .returned (.bool true) ∧ Below w.heap.size w w' := by
  unfold maxLen at hm0
  obtain ⟨A1, c1, B1, d1, rfl, hp1, hk1⟩ := hx1
  have hb0 : Below w.heap.size w (w.alloc (.cells #[.int .i64 z1, .slice A1 l1.length c1, .slice B1 m1.length d1] 39)) := ((Below.refl _ w).alloc (by first | exact Nat.le_refl _ | (simp; done) | (simp; omega)) _)
  have HI1 : Hid (∀ w' : World, Below (w.alloc (.cells #[.int .i64 z1, .slice A1 l1.length c1, .slice B1 m1.length d1] 39)).heap.size (w.alloc (.cells #[.int .i64 z1, .slice A1 l1.length c1, .slice B1 m1.length d1] 39)) w' → OrbIn w' (.agg #[.int .i64 z1, .slice A1 l1.length c1, .slice B1 m1.length d1]) z1 l1 m1) := Lib.hid (fun w' h => ⟨A1, c1, B1, d1, rfl, hp1.below (hb0.trans (h.mono hb0.size)), hk1.below (hb0.trans (h.mono hb0.size))⟩)
  have HI0 : Hid (∀ w' : World, Below (w.alloc (.cells #[.int .i64 z1, .slice A1 l1.length c1, .slice B1 m1.length d1] 39)).heap.size (w.alloc (.cells #[.int .i64 z1, .slice A1 l1.length c1, .slice B1 m1.length d1] 39)) w' → PairsAt w' A0 l0) := Lib.hid (fun w' h => hA0.below (hb0.trans (h.mono hb0.size)))
  have kk1 : (w.alloc (.cells #[.int .i64 z1, .slice A1 l1.length c1, .slice B1 m1.length d1] 39)).heap[w.heap.size]? = some (.cells #[.int .i64 z1, .slice A1 l1.length c1, .slice B1 m1.length d1] 39 (0, 0)) := by
    have h := heap_alloc_new w (.cells #[.int .i64 z1, .slice A1 l1.length c1, .slice B1 m1.length d1] 39)
    exact h
  obtain ⟨b10, b11, b12⟩ := OrbK.row3 kk1
  have lt1 : w.heap.size < (w.alloc (.cells #[.int .i64 z1, .slice A1 l1.length c1, .slice B1 m1.length d1] 39)).heap.size := by first | (simp; done) | (simp; omega)
  have HB1 : Hid (∀ w' : World, Below (w.alloc (.cells #[.int .i64 z1, .slice A1 l1.length c1, .slice B1 m1.length d1] 39)).heap.size (w.alloc (.cells #[.int .i64 z1, .slice A1 l1.length c1, .slice B1 m1.length d1] 39)) w' → w'.cell? ⟨w.heap.size, 0, none⟩ = some (.int .i64 z1) ∧ w'.cell? ⟨w.heap.size, 1, none⟩ = some (.slice A1 l1.length c1) ∧ w'.cell? ⟨w.heap.size, 2, none⟩ = some (.slice B1 m1.length d1)) := Lib.hid (fun w' h => ⟨(h.cell (p := ⟨w.heap.size, 0, none⟩) lt1).trans b10, (h.cell (p := ⟨w.heap.size, 1, none⟩) lt1).trans b11, (h.cell (p := ⟨w.heap.size, 2, none⟩) lt1).trans b12⟩)
  clear hp1 hk1 kk1 lt1 hA0
  have HC0 : Hid (Below (w.alloc (.cells #[.int .i64 z1, .slice A1 l1.length c1, .slice B1 m1.length d1] 39)).heap.size (w.alloc (.cells #[.int .i64 z1, .slice A1 l1.length c1, .slice B1 m1.length d1] 39)) (w.alloc (.cells #[.int .i64 z1, .slice A1 l1.length c1, .slice B1 m1.length d1] 39))) := Lib.hid (Below.refl _ _)
  have HW0 := Lib.hid hb0
  clear hb0
  go_enter Try.func11, Try.ntmps11
  have hleft0 : ¬ 1048576 - (l0.length : Int) < 0 := by omega
  go_wp2_with fail
  refine (sz_yes A0 l0.length c0 (1048576) _ (by omega) (by omega) hn0).mono ?_
  rintro e w' ⟨rfl, rfl⟩
  have hsz := szOrbitSet_any z1 l1 m1 hs1 (1048576 - (l0.length : Int)) (w.alloc (.cells #[.int .i64 z1, .slice A1 l1.length c1, .slice B1 m1.length d1] 39)) _ (by omega) (by omega) (HI1.out (w.alloc (.cells #[.int .i64 z1, .slice A1 l1.length c1, .slice B1 m1.length d1] 39)) HC0.out)
  unfold LeftPost at hsz
  rw [leftR_no (by omega)] at hsz
  go_wp2_with fail
  refine hsz.mono ?_
  rintro e u1 ⟨rfl, hb⟩
  clear hsz b10 b11 b12
  have s2 : (w.alloc (.cells #[.int .i64 z1, .slice A1 l1.length c1, .slice B1 m1.length d1] 39)).heap.size ≤ u1.heap.size := hb.size
  have HC2 := Lib.hid (HC0.out.trans (hb.mono HC0.out.size))
  clear hb HC0
  have hfin := HW0.out.trans (HC2.out.mono HW0.out.size)
  go_wp2
  go_ret
  exact ⟨rfl, hfin⟩

set_option maxRecDepth 100000 in
set_option maxHeartbeats 16000000 in
theorem walk_yes (w : World) (A0 : Option Addr) (c0 : Nat) (l0 : List (Int × Int)) (hA0 : PairsAt w A0 l0) (hm0 : l0.length ≤ maxLen) (x1 : Value) (z1 : Int) (l1 : List Int) (m1 : List (List Int)) (hx1 : OrbIn w x1 z1 l1 m1) (hs1 : ShortO l1 m1) (hn0 : (l0.length : Int) ≤ 1048576) (hn1 : ((l1.length + (m1.length + sumR m1) : Nat) : Int) ≤ 1048576 - (l0.length : Int)) :
    Calls Try.prog 11 #[.slice A0 l0.length c0, x1] w fun e w' => e = .returned (.bool true) ∧ Below w.heap.size w w' := by
  have HN0 : Hid (l0.length ≤ 1048576) := Lib.hid (by omega)
  have HF1 : Hid (FitO l1 m1) := Lib.hid (fitO_of (by omega))
  have hmk1 : l1.length + sumR m1 ≤ 1048576 := by omega
  have HFR := Lib.hid (show FitO (olR (acOk l0 z1 l1 m1) (acC l0 l1)) (omR (acOk l0 z1 l1 m1) (acR l0 z1 l1 m1)) from acFit l0 z1 l1 m1)
  have hmR : (olR (acOk l0 z1 l1 m1) (acC l0 l1)).length + sumR (omR (acOk l0 z1 l1 m1) (acR l0 z1 l1 m1)) ≤ 8388608 := acSum l0 z1 l1 m1
  generalize qzR : ozR (acOk l0 z1 l1 m1) z1 = zR
  have HzR := Lib.hid qzR
  clear qzR
  generalize qlR : olR (acOk l0 z1 l1 m1) (acC l0 l1) = lR at HFR hmR
  have HlR := Lib.hid qlR
  clear qlR
  generalize qmR : omR (acOk l0 z1 l1 m1) (acR l0 z1 l1 m1) = mR at HFR hmR
  have HmR := Lib.hid qmR
  clear qmR
  generalize hFF : acOk l0 z1 l1 m1 = fl
  have HFL := Lib.hid hFF
  have hfl : (fl != fl) = false := by simp
  clear hFF
  unfold maxLen at hm0
  obtain ⟨A1, c1, B1, d1, rfl, hp1, hk1⟩ := hx1
  have hb0 : Below w.heap.size w (w.alloc (.cells #[.int .i64 z1, .slice A1 l1.length c1, .slice B1 m1.length d1] 39)) := ((Below.refl _ w).alloc (by first | exact Nat.le_refl _ | (simp; done) | (simp; omega)) _)
  have HI1 : Hid (∀ w' : World, Below (w.alloc (.cells #[.int .i64 z1, .slice A1 l1.length c1, .slice B1 m1.length d1] 39)).heap.size (w.alloc (.cells #[.int .i64 z1, .slice A1 l1.length c1, .slice B1 m1.length d1] 39)) w' → OrbIn w' (.agg #[.int .i64 z1, .slice A1 l1.length c1, .slice B1 m1.length d1]) z1 l1 m1) := Lib.hid (fun w' h => ⟨A1, c1, B1, d1, rfl, hp1.below (hb0.trans (h.mono hb0.size)), hk1.below (hb0.trans (h.mono hb0.size))⟩)
  have HI0 : Hid (∀ w' : World, Below (w.alloc (.cells #[.int .i64 z1, .slice A1 l1.length c1, .slice B1 m1.length d1] 39)).heap.size (w.alloc (.cells #[.int .i64 z1, .slice A1 l1.length c1, .slice B1 m1.length d1] 39)) w' → PairsAt w' A0 l0) := Lib.hid (fun w' h => hA0.below (hb0.trans (h.mono hb0.size)))
  have kk1 : (w.alloc (.cells #[.int .i64 z1, .slice A1 l1.length c1, .slice B1 m1.length d1] 39)).heap[w.heap.size]? = some (.cells #[.int .i64 z1, .slice A1 l1.length c1, .slice B1 m1.length d1] 39 (0, 0)) := by
    have h := heap_alloc_new w (.cells #[.int .i64 z1, .slice A1 l1.length c1, .slice B1 m1.length d1] 39)
    exact h
  obtain ⟨b10, b11, b12⟩ := OrbK.row3 kk1
  have lt1 : w.heap.size < (w.alloc (.cells #[.int .i64 z1, .slice A1 l1.length c1, .slice B1 m1.length d1] 39)).heap.size := by first | (simp; done) | (simp; omega)
  have HB1 : Hid (∀ w' : World, Below (w.alloc (.cells #[.int .i64 z1, .slice A1 l1.length c1, .slice B1 m1.length d1] 39)).heap.size (w.alloc (.cells #[.int .i64 z1, .slice A1 l1.length c1, .slice B1 m1.length d1] 39)) w' → w'.cell? ⟨w.heap.size, 0, none⟩ = some (.int .i64 z1) ∧ w'.cell? ⟨w.heap.size, 1, none⟩ = some (.slice A1 l1.length c1) ∧ w'.cell? ⟨w.heap.size, 2, none⟩ = some (.slice B1 m1.length d1)) := Lib.hid (fun w' h => ⟨(h.cell (p := ⟨w.heap.size, 0, none⟩) lt1).trans b10, (h.cell (p := ⟨w.heap.size, 1, none⟩) lt1).trans b11, (h.cell (p := ⟨w.heap.size, 2, none⟩) lt1).trans b12⟩)
  clear hp1 hk1 kk1 lt1 hA0
  have HC0 : Hid (Below (w.alloc (.cells #[.int .i64 z1, .slice A1 l1.length c1, .slice B1 m1.length d1] 39)).heap.size (w.alloc (.cells #[.int .i64 z1, .slice A1 l1.length c1, .slice B1 m1.length d1] 39)) (w.alloc (.cells #[.int .i64 z1, .slice A1 l1.length c1, .slice B1 m1.length d1] 39))) := Lib.hid (Below.refl _ _)
  have HW0 := Lib.hid hb0
  clear hb0
  go_enter Try.func11, Try.ntmps11
  have hleft0 : ¬ 1048576 - (l0.length : Int) < 0 := by omega
  go_wp2_with fail
  refine (sz_yes A0 l0.length c0 (1048576) _ (by omega) (by omega) hn0).mono ?_
  rintro e w' ⟨rfl, rfl⟩
  have hsz := szOrbitSet_any z1 l1 m1 hs1 (1048576 - (l0.length : Int)) (w.alloc (.cells #[.int .i64 z1, .slice A1 l1.length c1, .slice B1 m1.length d1] 39)) _ (by omega) (by omega) (HI1.out (w.alloc (.cells #[.int .i64 z1, .slice A1 l1.length c1, .slice B1 m1.length d1] 39)) HC0.out)
  unfold LeftPost at hsz
  rw [leftR_yes hn1] at hsz
  have hleft1 : ¬ 1048576 - (l0.length : Int) - ((l1.length + (m1.length + sumR m1) : Nat) : Int) < 0 := by omega
  go_wp2_with fail
  refine hsz.mono ?_
  rintro e u1 ⟨rfl, hb⟩
  clear hsz b10 b11 b12
  have s2 : (w.alloc (.cells #[.int .i64 z1, .slice A1 l1.length c1, .slice B1 m1.length d1] 39)).heap.size ≤ u1.heap.size := hb.size
  have HC2 := Lib.hid (HC0.out.trans (hb.mono HC0.out.size))
  clear hb HC0
  have HZ : Hid ((w.alloc (.cells #[.int .i64 z1, .slice A1 l1.length c1, .slice B1 m1.length d1] 39)).heap.size ≤ u1.heap.size) := Lib.hid HC2.out.size
  have HQ := HC2
  have lt0 : w.heap.size < u1.heap.size := by have h := HQ.out.size; simp only [World.size_alloc] at h; omega
  have HCC : Hid (∀ w' : World, Below u1.heap.size u1 w' → w'.cell? ⟨w.heap.size, 0, none⟩ = some (.int .i64 z1) ∧ w'.cell? ⟨w.heap.size, 1, none⟩ = some (.slice A1 l1.length c1) ∧ w'.cell? ⟨w.heap.size, 2, none⟩ = some (.slice B1 m1.length d1)) := Lib.hid (fun w' h => ⟨(HB1.out w' (HQ.out.trans (h.mono HQ.out.size))).1, (HB1.out w' (HQ.out.trans (h.mono HQ.out.size))).2.1, (HB1.out w' (HQ.out.trans (h.mono HQ.out.size))).2.2⟩)
  go_upto_region 8 with fail
  go_cut [6, 7] (fun s t wx => OrbQ.Rel u1 zR lR mR s wx ∧ t = .bool fl)
  case first =>
    have hdw : Below u1.heap.size u1 u1.drew := ⟨rfl, rfl, rfl, Nat.le_refl _, fun _ _ => rfl⟩
    have hal : Below u1.heap.size u1 (u1.alloc (.cells #[.int .i64 0, .slice none 0 0, .slice none 0 0] 29)).drew := by
      have h : Below u1.heap.size u1 (u1.alloc (.cells #[.int .i64 0, .slice none 0 0, .slice none 0 0] 29)) := (Below.refl _ _).alloc (Nat.le_refl _) _
      exact ⟨h.os, h.tape, h.output, h.size, h.block⟩
    obtain ⟨cu0, cu1, cu2⟩ := HCC.out u1.drew (hdw)
    obtain ⟨cx0, cx1, cx2⟩ := HCC.out (u1.alloc (.cells #[.int .i64 0, .slice none 0 0, .slice none 0 0] 29)).drew (hal)
    have ne0_0 : w.heap.size ≠ u1.heap.size := Nat.ne_of_lt lt0
    have h0a := toPairS_any A0 c0 l0 (u1.drew) (HI0.out (u1.drew) (HQ.out.trans ((hdw).mono HQ.out.size))) (by have := HN0.out; omega)
    have h0b := toPairS_any A0 c0 l0 ((u1.alloc (.cells #[.int .i64 0, .slice none 0 0, .slice none 0 0] 29)).drew) (HI0.out ((u1.alloc (.cells #[.int .i64 0, .slice none 0 0, .slice none 0 0] 29)).drew) (HQ.out.trans ((hal).mono HQ.out.size))) (by have := HN0.out; omega)
    go_region_held3 (fun w' => w'.cell? ⟨w.heap.size, 0, none⟩ = some (.int .i64 z1) ∧ w'.cell? ⟨w.heap.size, 1, none⟩ = some (.slice A1 l1.length c1) ∧ w'.cell? ⟨w.heap.size, 2, none⟩ = some (.slice B1 m1.length d1))
      (first | ((try dsimp only); (with_reducible exact ⟨by assumption, by assumption, by assumption⟩)) | (with_reducible exact ⟨OrbQ.set3_keep (by assumption) (by assumption), OrbQ.set3_keep (by assumption) (by assumption), OrbQ.set3_keep (by assumption) (by assumption)⟩) | go_keep)
      (first
        | (go_at_call 46; (first | (with_reducible refine h0a.mono ?_) | (with_reducible refine h0b.mono ?_)); rintro e wq0 ⟨v0, rfl, ho0, hb0⟩; obtain ⟨Bv0, dv0, rfl, hin0⟩ := own_pairsAt ho0; have fr0 : Below u1.heap.size u1 wq0 := (by first | (with_reducible exact hdw.trans (hb0.mono hdw.size)) | (with_reducible exact hal.trans (hb0.mono hal.size))); (try (have zb0 : wq0.heap[u1.heap.size]? = some (.cells #[.int .i64 0, .slice none 0 0, .slice none 0 0] 29) := (hb0.block u1.heap.size (by simp)).trans (heap_alloc_new u1 (.cells #[.int .i64 0, .slice none 0 0, .slice none 0 0] 29)))); obtain ⟨ca0, ca1, ca2⟩ := HCC.out wq0 (fr0); have ne0_1 : w.heap.size ≠ wq0.heap.size := Nat.ne_of_lt (Nat.lt_of_lt_of_le lt0 fr0.size); have al0 : Below wq0.heap.size wq0 (wq0.alloc (.cells #[.int .i64 0, .slice none 0 0, .slice none 0 0] 29)) := (Below.refl _ _).alloc (Nat.le_refl _) _; have h1a := toOrbitSet_any z1 l1 m1 HF1.out (wq0) _ (HI1.out (wq0) (HQ.out.trans ((fr0).mono HQ.out.size))); have h1b := toOrbitSet_any z1 l1 m1 HF1.out ((wq0.alloc (.cells #[.int .i64 0, .slice none 0 0, .slice none 0 0] 29))) _ (HI1.out ((wq0.alloc (.cells #[.int .i64 0, .slice none 0 0, .slice none 0 0] 29))) (HQ.out.trans (((fr0.trans (al0.mono fr0.size))).mono HQ.out.size))))
        | (go_at_call 32; (first | (with_reducible refine h1a.mono ?_) | (with_reducible refine h1b.mono ?_)); rintro e wq1 ⟨P1, q1, K1, r1, S1, rfl, hL1, _, hb1⟩; have bx1 : Below wq0.heap.size wq0 wq1 := (by first | (with_reducible exact hb1) | (with_reducible exact al0.trans (hb1.mono al0.size))); have fr1 := fr0.trans (bx1.mono fr0.size); (try (have zb1 := (bx1.block _ (OrbK.box_lt zb0)).trans zb0)); (try (have zb1 : wq1.heap[wq0.heap.size]? = some (.cells #[.int .i64 0, .slice none 0 0, .slice none 0 0] 29) := (hb1.block _ (by simp)).trans (heap_alloc_new wq0 (.cells #[.int .i64 0, .slice none 0 0, .slice none 0 0] 29)))); have hin1 := orbOut_ix hL1; have hin0 := hin0.below bx1; obtain ⟨cb0, cb1, cb2⟩ := HCC.out wq1 (fr1); have ne0_2 : w.heap.size ≠ wq1.heap.size := Nat.ne_of_lt (Nat.lt_of_lt_of_le lt0 fr1.size); have al1 : Below wq1.heap.size wq1 (wq1.alloc (.cells #[.int .i64 0, .slice none 0 0, .slice none 0 0] 29)) := (Below.refl _ _).alloc (Nat.le_refl _) _; have h2a := actOnSet_spec l0 (by have := HN0.out; omega) z1 l1 m1 HF1.out _ Bv0 dv0 (wq1) (hin0) (hin1); have h2b := actOnSet_spec l0 (by have := HN0.out; omega) z1 l1 m1 HF1.out _ Bv0 dv0 ((wq1.alloc (.cells #[.int .i64 0, .slice none 0 0, .slice none 0 0] 29))) (hin0.below al1) (hin1.below al1); rw [HzR.out] at h2a h2b; rw [HlR.out] at h2a h2b; rw [HmR.out] at h2a h2b; rw [HFL.out] at h2a h2b)
        | (go_at_call 45; (first | (with_reducible refine h2a.mono ?_) | (with_reducible refine h2b.mono ?_)); rintro e wq2 ⟨Aw, cw, Bw, dw, Sw, rfl, hLw, hSw, hb2⟩; have bx2 : Below wq1.heap.size wq1 wq2 := (by first | (with_reducible exact hb2) | (with_reducible exact al1.trans (hb2.mono al1.size))); have fr2 := fr1.trans (bx2.mono fr1.size); (try (have zb2 := (bx2.block _ (OrbK.box_lt zb1)).trans zb1)); (try (have zb2 : wq2.heap[wq1.heap.size]? = some (.cells #[.int .i64 0, .slice none 0 0, .slice none 0 0] 29) := (hb2.block _ (by simp)).trans (heap_alloc_new wq1 (.cells #[.int .i64 0, .slice none 0 0, .slice none 0 0] 29)))); obtain ⟨cc0, cc1, cc2⟩ := HCC.out wq2 (fr2); have ne0_3 : w.heap.size ≠ wq2.heap.size := Nat.ne_of_lt (Nat.lt_of_lt_of_le lt0 fr2.size); (try (obtain ⟨qb0, qb1, qb2⟩ := OrbK.row3 zb2; have yb0 := frozen_of_row _ _ 0 _ _ zb2; have yb1 := frozen_of_row _ _ 1 _ _ zb2; have yb2 := frozen_of_row _ _ 2 _ _ zb2)))
        | fail)
    all_goals
      have szb0 : u1.heap.size ≤ wq0.heap.size := fr0.size
      have szb1 : u1.heap.size ≤ wq1.heap.size := fr1.size
      go_wp2_with fail
      go_meet
      first | (with_reducible exact ⟨OrbQ.rel_set zb2 hLw (fun b hb => Nat.le_trans (by omega) (hSw b hb)) (fun b hb => Nat.ne_of_gt (Nat.lt_of_lt_of_le (OrbK.box_lt zb1) (hSw b hb))) (by omega) fr2, rfl⟩) | (with_reducible exact ⟨OrbQ.rel_set zb2 hLw (fun b hb => Nat.le_trans (by simp; omega) (hSw b hb)) (fun b hb => Nat.ne_of_gt (Nat.lt_of_lt_of_le (by simp) (hSw b hb))) (by omega) fr2, rfl⟩) | (with_reducible exact ⟨OrbQ.rel_new hLw (fun b hb => Nat.le_trans (by omega) (hSw b hb)) fr2, rfl⟩)
  case rest =>
    obtain ⟨⟨gW, AW, cW, BW, dW, SW, rfl, hbox, hLb, hgS, hSb, hgb, hgz⟩, rfl⟩ := hcut
    have s3 : u1.heap.size ≤ wc.heap.size := hgz.size
    have HC3 := Lib.hid (HC2.out.trans (hgz.mono HC2.out.size))
    have lt_W : gW < wc.heap.size := OrbK.box_lt hbox
    have HTW : Hid (∀ b ∈ SW, u1.heap.size ≤ b ∧ b < wc.heap.size) := Lib.hid (fun b hb => ⟨hSb b hb, hLb.lt b hb⟩)
    have NW := Lib.hid hLb
    have KBW := Lib.hid hbox
    clear hbox hgS hSb hgb hgz HQ HCC lt0 HC2 hLb
    obtain ⟨w4, rfl⟩ : ∃ x : World, x = wc := ⟨_, rfl⟩
    have hto := toPairS_any A0 c0 l0 w4 (HI0.out w4 HC3.out) (by have := HN0.out; omega)
    go_wp2_with fail
    refine hto.mono ?_
    rintro e w5 ⟨vX0, rfl, oX0, hb⟩
    obtain ⟨BX0, dX0, rfl, hq⟩ := own_pairsAt oX0
    have s6 : w4.heap.size ≤ w5.heap.size := hb.size
    have KBW_6 := Lib.hid ((hb.block _ (Args4.box_lt KBW.out)).trans KBW.out)
    have NW_6 := Lib.hid (NW.out.alike (w' := w5) fun bb hbb => hb.block bb (NW.out.lt bb hbb))
    have HC6 := Lib.hid (HC3.out.trans (hb.mono HC3.out.size))
    have HRX0 := Lib.hid (show ∀ k, (.slice BX0 l0.length dX0 : Value).ownBlock = some k → w4.heap.size ≤ k ∧ k < w5.heap.size from fun k hk => oX0.lt k hk)
    have QX0 := Lib.hid oX0
    clear hto hb hq KBW NW HC3 oX0
    obtain ⟨b0, b1, b2⟩ := HB1.out w5 HC6.out
    have hto := toOrbitSet_any z1 l1 m1 HF1.out w5 _ (HI1.out w5 HC6.out)
    go_wp2_with fail
    refine hto.mono ?_
    rintro e w7 ⟨PX1, qX1, KX1, rX1, SX1, rfl, hL, hS, hb⟩
    have s8 : w5.heap.size ≤ w7.heap.size := hb.size
    have KBW_8 := Lib.hid ((hb.block _ (Args4.box_lt KBW_6.out)).trans KBW_6.out)
    have NW_8 := Lib.hid (NW_6.out.alike (w' := w7) fun bb hbb => hb.block bb (NW_6.out.lt bb hbb))
    have QX0_8 := Lib.hid (own_below QX0.out hb)
    have HC8 := Lib.hid (HC6.out.trans (hb.mono HC6.out.size))
    have HTX1 : Hid (∀ b ∈ SX1, w5.heap.size ≤ b ∧ b < w7.heap.size) := Lib.hid (fun b hb => ⟨hS b hb, hL.lt b hb⟩)
    have NX1 := Lib.hid hL
    clear hto hb hS b0 b1 b2 KBW_6 NW_6 QX0 HC6 hL
    have hbx : Below w7.heap.size w7 (w7.alloc (.cells #[.int .i64 z1, .slice PX1 l1.length qX1, .slice KX1 m1.length rX1] 29)) := (Below.refl _ _).alloc (Nat.le_refl _) _
    have s9 : w7.heap.size ≤ (w7.alloc (.cells #[.int .i64 z1, .slice PX1 l1.length qX1, .slice KX1 m1.length rX1] 29)).heap.size := hbx.size
    have KBW_9 := Lib.hid ((hbx.block _ (Args4.box_lt KBW_8.out)).trans KBW_8.out)
    have NW_9 := Lib.hid (NW_8.out.alike (w' := (w7.alloc (.cells #[.int .i64 z1, .slice PX1 l1.length qX1, .slice KX1 m1.length rX1] 29))) fun bb hbb => hbx.block bb (NW_8.out.lt bb hbb))
    have NX1_9 := Lib.hid (NX1.out.alike (w' := (w7.alloc (.cells #[.int .i64 z1, .slice PX1 l1.length qX1, .slice KX1 m1.length rX1] 29))) fun bb hbb => hbx.block bb (NX1.out.lt bb hbb))
    have QX0_9 := Lib.hid (own_below QX0_8.out hbx)
    have HC9 := Lib.hid (HC8.out.trans (hbx.mono HC8.out.size))
    have KBX1 := Lib.hid (heap_alloc_new w7 (.cells #[.int .i64 z1, .slice PX1 l1.length qX1, .slice KX1 m1.length rX1] 29))
    clear hbx KBW_8 NW_8 NX1 QX0_8 HC8
    have lt_X1 : w7.heap.size < (w7.alloc (.cells #[.int .i64 z1, .slice PX1 l1.length qX1, .slice KX1 m1.length rX1] 29)).heap.size := by simp
    have hsp := actOnSet_impl l0 (by have := HN0.out; omega) z1 l1 m1 HF1.out _ BX0 dX0 (w7.alloc (.cells #[.int .i64 z1, .slice PX1 l1.length qX1, .slice KX1 m1.length rX1] 29)) (pairsAt_of QX0_9.out) (orbOut_ix NX1_9.out)
    rw [HzR.out] at hsp
    rw [HlR.out] at hsp
    rw [HmR.out] at hsp
    rw [HFL.out] at hsp
    obtain ⟨x10, x11, x12⟩ := OrbK.row3 KBX1.out
    go_wp2_with fail
    refine hsp.mono ?_
    rintro e w10 ⟨AG, cG, BG, dG, SG, rfl, hL, hS, hb⟩
    have s11 : (w7.alloc (.cells #[.int .i64 z1, .slice PX1 l1.length qX1, .slice KX1 m1.length rX1] 29)).heap.size ≤ w10.heap.size := hb.size
    have KBW_11 := Lib.hid ((hb.block _ (Args4.box_lt KBW_9.out)).trans KBW_9.out)
    have KBX1_11 := Lib.hid ((hb.block _ (Args4.box_lt KBX1.out)).trans KBX1.out)
    have NW_11 := Lib.hid (NW_9.out.alike (w' := w10) fun bb hbb => hb.block bb (NW_9.out.lt bb hbb))
    have NX1_11 := Lib.hid (NX1_9.out.alike (w' := w10) fun bb hbb => hb.block bb (NX1_9.out.lt bb hbb))
    have QX0_11 := Lib.hid (own_below QX0_9.out hb)
    have HC11 := Lib.hid (HC9.out.trans (hb.mono HC9.out.size))
    have HTG : Hid (∀ b ∈ SG, (w7.alloc (.cells #[.int .i64 z1, .slice PX1 l1.length qX1, .slice KX1 m1.length rX1] 29)).heap.size ≤ b ∧ b < w10.heap.size) := Lib.hid (fun b hb => ⟨hS b hb, hL.lt b hb⟩)
    have NG := Lib.hid hL
    clear hb hS KBW_9 KBX1 NW_9 NX1_9 QX0_9 HC9 hL
    have hbx : Below w10.heap.size w10 (w10.alloc (.cells #[.int .i64 zR, .slice AG lR.length cG, .slice BG mR.length dG] 29)) := (Below.refl _ _).alloc (Nat.le_refl _) _
    have s12 : w10.heap.size ≤ (w10.alloc (.cells #[.int .i64 zR, .slice AG lR.length cG, .slice BG mR.length dG] 29)).heap.size := hbx.size
    have KBW_12 := Lib.hid ((hbx.block _ (Args4.box_lt KBW_11.out)).trans KBW_11.out)
    have KBX1_12 := Lib.hid ((hbx.block _ (Args4.box_lt KBX1_11.out)).trans KBX1_11.out)
    have NW_12 := Lib.hid (NW_11.out.alike (w' := (w10.alloc (.cells #[.int .i64 zR, .slice AG lR.length cG, .slice BG mR.length dG] 29))) fun bb hbb => hbx.block bb (NW_11.out.lt bb hbb))
    have NX1_12 := Lib.hid (NX1_11.out.alike (w' := (w10.alloc (.cells #[.int .i64 zR, .slice AG lR.length cG, .slice BG mR.length dG] 29))) fun bb hbb => hbx.block bb (NX1_11.out.lt bb hbb))
    have NG_12 := Lib.hid (NG.out.alike (w' := (w10.alloc (.cells #[.int .i64 zR, .slice AG lR.length cG, .slice BG mR.length dG] 29))) fun bb hbb => hbx.block bb (NG.out.lt bb hbb))
    have QX0_12 := Lib.hid (own_below QX0_11.out hbx)
    have HC12 := Lib.hid (HC11.out.trans (hbx.mono HC11.out.size))
    have KBG := Lib.hid (heap_alloc_new w10 (.cells #[.int .i64 zR, .slice AG lR.length cG, .slice BG mR.length dG] 29))
    clear hbx KBW_11 KBX1_11 NW_11 NX1_11 NG QX0_11 HC11
    have lt_G : w10.heap.size < (w10.alloc (.cells #[.int .i64 zR, .slice AG lR.length cG, .slice BG mR.length dG] 29)).heap.size := by simp
    clear hsp x10 x11 x12
    have heq := eqOrbitSet_any zR lR mR HFR.out (w10.alloc (.cells #[.int .i64 zR, .slice AG lR.length cG, .slice BG mR.length dG] 29)) _ _ (orbOut_ix NG_12.out) (orbOut_ix NW_12.out)
    obtain ⟨ya0, ya1, ya2⟩ := OrbK.row3 KBG.out
    obtain ⟨yb0, yb1, yb2⟩ := OrbK.row3 KBW_12.out
    go_wp2_with fail
    refine heq.mono ?_
    rintro e w13 ⟨rfl, hb⟩
    have s14 : (w10.alloc (.cells #[.int .i64 zR, .slice AG lR.length cG, .slice BG mR.length dG] 29)).heap.size ≤ w13.heap.size := hb.size
    have KBW_14 := Lib.hid ((hb.block _ (Args4.box_lt KBW_12.out)).trans KBW_12.out)
    have KBX1_14 := Lib.hid ((hb.block _ (Args4.box_lt KBX1_12.out)).trans KBX1_12.out)
    have KBG_14 := Lib.hid ((hb.block _ (Args4.box_lt KBG.out)).trans KBG.out)
    have NW_14 := Lib.hid (NW_12.out.alike (w' := w13) fun bb hbb => hb.block bb (NW_12.out.lt bb hbb))
    have NX1_14 := Lib.hid (NX1_12.out.alike (w' := w13) fun bb hbb => hb.block bb (NX1_12.out.lt bb hbb))
    have NG_14 := Lib.hid (NG_12.out.alike (w' := w13) fun bb hbb => hb.block bb (NG_12.out.lt bb hbb))
    have QX0_14 := Lib.hid (own_below QX0_12.out hb)
    have HC14 := Lib.hid (HC12.out.trans (hb.mono HC12.out.size))
    clear heq hb ya0 ya1 ya2 yb0 yb1 yb2 KBW_12 KBX1_12 KBG NW_12 NX1_12 NG_12 QX0_12 HC12
    have hto := toPairS_any A0 c0 l0 w13 (HI0.out w13 HC14.out) (by have := HN0.out; omega)
    go_wp2_with fail
    refine hto.mono ?_
    rintro e w15 ⟨vv, rfl, ho, hb⟩
    have s16 : w13.heap.size ≤ w15.heap.size := hb.size
    have KBW_16 := Lib.hid ((hb.block _ (Args4.box_lt KBW_14.out)).trans KBW_14.out)
    have KBX1_16 := Lib.hid ((hb.block _ (Args4.box_lt KBX1_14.out)).trans KBX1_14.out)
    have KBG_16 := Lib.hid ((hb.block _ (Args4.box_lt KBG_14.out)).trans KBG_14.out)
    have NW_16 := Lib.hid (NW_14.out.alike (w' := w15) fun bb hbb => hb.block bb (NW_14.out.lt bb hbb))
    have NX1_16 := Lib.hid (NX1_14.out.alike (w' := w15) fun bb hbb => hb.block bb (NX1_14.out.lt bb hbb))
    have NG_16 := Lib.hid (NG_14.out.alike (w' := w15) fun bb hbb => hb.block bb (NG_14.out.lt bb hbb))
    have QX0_16 := Lib.hid (own_below QX0_14.out hb)
    have HC16 := Lib.hid (HC14.out.trans (hb.mono HC14.out.size))
    have heq := eqPairS_own _ _ _ _ l0 l0 w15 QX0_16.out ho (by have := HN0.out; omega)
    rw [decide_eq_true (rfl : l0 = l0)] at heq
    clear hto hb ho KBW_14 KBX1_14 KBG_14 NW_14 NX1_14 NG_14 QX0_14 HC14
    go_wp2_with fail
    refine heq.mono ?_
    rintro e w17 ⟨rfl, hb⟩
    have s18 : w15.heap.size ≤ w17.heap.size := hb.size
    have KBW_18 := Lib.hid ((hb.block _ (Args4.box_lt KBW_16.out)).trans KBW_16.out)
    have KBX1_18 := Lib.hid ((hb.block _ (Args4.box_lt KBX1_16.out)).trans KBX1_16.out)
    have KBG_18 := Lib.hid ((hb.block _ (Args4.box_lt KBG_16.out)).trans KBG_16.out)
    have NW_18 := Lib.hid (NW_16.out.alike (w' := w17) fun bb hbb => hb.block bb (NW_16.out.lt bb hbb))
    have NX1_18 := Lib.hid (NX1_16.out.alike (w' := w17) fun bb hbb => hb.block bb (NX1_16.out.lt bb hbb))
    have NG_18 := Lib.hid (NG_16.out.alike (w' := w17) fun bb hbb => hb.block bb (NG_16.out.lt bb hbb))
    have QX0_18 := Lib.hid (own_below QX0_16.out hb)
    have HC18 := Lib.hid (HC16.out.trans (hb.mono HC16.out.size))
    clear heq hb KBW_16 KBX1_16 KBG_16 NW_16 NX1_16 NG_16 QX0_16 HC16
    have hdw : Below w17.heap.size w17 w17.drew := ⟨rfl, rfl, rfl, Nat.le_refl _, fun _ _ => rfl⟩
    have s19 : w17.heap.size ≤ w17.drew.heap.size := hdw.size
    have KBW_19 := Lib.hid ((hdw.block _ (Args4.box_lt KBW_18.out)).trans KBW_18.out)
    have KBX1_19 := Lib.hid ((hdw.block _ (Args4.box_lt KBX1_18.out)).trans KBX1_18.out)
    have KBG_19 := Lib.hid ((hdw.block _ (Args4.box_lt KBG_18.out)).trans KBG_18.out)
    have NW_19 := Lib.hid (NW_18.out.alike (w' := w17.drew) fun bb hbb => hdw.block bb (NW_18.out.lt bb hbb))
    have NX1_19 := Lib.hid (NX1_18.out.alike (w' := w17.drew) fun bb hbb => hdw.block bb (NX1_18.out.lt bb hbb))
    have NG_19 := Lib.hid (NG_18.out.alike (w' := w17.drew) fun bb hbb => hdw.block bb (NG_18.out.lt bb hbb))
    have QX0_19 := Lib.hid (own_below QX0_18.out hdw)
    have HC19 := Lib.hid (HC18.out.trans (hdw.mono HC18.out.size))
    clear hdw KBW_18 KBX1_18 KBG_18 NW_18 NX1_18 NG_18 QX0_18 HC18
    have HS := HC19
    have HX := KBX1_19
    obtain ⟨b0, b1, b2⟩ := HB1.out w17.drew HC19.out
    obtain ⟨x0, x1, x2⟩ := OrbK.row3 KBX1_19.out
    have hxx := orbOut_ix NX1_19.out
    have hto := toOrbitSet_any z1 l1 m1 HF1.out w17.drew _ (HI1.out w17.drew HS.out)
    go_wp2
    go_region_held3 (fun w' => w'.cell? ⟨w.heap.size, 0, none⟩ = some (.int .i64 z1) ∧ w'.cell? ⟨w.heap.size, 1, none⟩ = some (.slice A1 l1.length c1) ∧ w'.cell? ⟨w.heap.size, 2, none⟩ = some (.slice B1 m1.length d1) ∧ w'.cell? ⟨w7.heap.size, 0, none⟩ = some (.int .i64 z1) ∧ w'.cell? ⟨w7.heap.size, 1, none⟩ = some (.slice PX1 l1.length qX1) ∧ w'.cell? ⟨w7.heap.size, 2, none⟩ = some (.slice KX1 m1.length rX1))
      (first | (with_reducible exact ⟨by assumption, by assumption, by assumption, by assumption, by assumption, by assumption⟩) | ((try dsimp only); exact ⟨by assumption, by assumption, by assumption, by assumption, by assumption, by assumption⟩) | go_keep)
      (first
        | (go_at_call 32; refine hto.mono ?_; rintro e w20 ⟨PZ, qZ, KZ, rZ, SZ, rfl, hLZ, _, hb1⟩; have hc1 := HS.out.trans (hb1.mono HS.out.size); have hzz := orbOut_ix hLZ; have hyy := hxx.below hb1; obtain ⟨e0, e1, e2⟩ := HB1.out w20 hc1; obtain ⟨e3, e4, e5⟩ := OrbK.row3 (((hb1).block _ (Args4.box_lt HX.out)).trans HX.out))
        | (go_at_call 25; refine (eqOrbitSet_any z1 l1 m1 HF1.out _ _ _ hyy hzz).mono ?_; rintro e w21 ⟨rfl, hb2⟩; have hbz := hb1.trans (hb2.mono hb1.size); have hc2 := HS.out.trans (hbz.mono HS.out.size); obtain ⟨g0, g1, g2⟩ := HB1.out w21 hc2; obtain ⟨g3, g4, g5⟩ := OrbK.row3 (((hbz).block _ (Args4.box_lt HX.out)).trans HX.out))
        | fail)
    have s22 : w17.drew.heap.size ≤ w21.heap.size := hbz.size
    have KBW_22 := Lib.hid ((hbz.block _ (Args4.box_lt KBW_19.out)).trans KBW_19.out)
    have KBX1_22 := Lib.hid ((hbz.block _ (Args4.box_lt KBX1_19.out)).trans KBX1_19.out)
    have KBG_22 := Lib.hid ((hbz.block _ (Args4.box_lt KBG_19.out)).trans KBG_19.out)
    have NW_22 := Lib.hid (NW_19.out.alike (w' := w21) fun bb hbb => hbz.block bb (NW_19.out.lt bb hbb))
    have NX1_22 := Lib.hid (NX1_19.out.alike (w' := w21) fun bb hbb => hbz.block bb (NX1_19.out.lt bb hbb))
    have NG_22 := Lib.hid (NG_19.out.alike (w' := w21) fun bb hbb => hbz.block bb (NG_19.out.lt bb hbb))
    have QX0_22 := Lib.hid (own_below QX0_19.out hbz)
    have HC22 := Lib.hid (HC19.out.trans (hbz.mono HC19.out.size))
    clear hbz hb1 hb2 hc1 hc2 hzz hyy hxx hLZ hto HS HX b0 b1 b2 x0 x1 x2 e0 e1 e2 e3 e4 e5 g0 g1 g2 g3 g4 g5 KBW_19 KBX1_19 KBG_19 NW_19 NX1_19 NG_19 QX0_19 HC19
    have hmk := markPairS_own _ l0.length (.slice BX0 l0.length dX0) _ (1) w21 QX0_22.out (by omega) (by have := HN0.out; omega)
    go_wp2_with fail
    (with_reducible refine hmk.mono ?_)
    rintro e w23 ⟨rfl, _, hg⟩
    have hon : Only (.slice BX0 l0.length dX0 : Value).ownBlock.toList w21 w23 := Only.of_grown hg (fun b e => by rw [e]; simp)
    have HTM0 : Hid (∀ b ∈ (.slice BX0 l0.length dX0 : Value).ownBlock.toList, _ ∧ _) := Lib.hid (fun b hb => HRX0.out b (by simpa using hb))
    have s24 : w21.heap.size ≤ w23.heap.size := hon.size
    have KBW_24 := Lib.hid ((hon.block _ (Args4.box_lt KBW_22.out) (fun hm => by have := HTM0.out _ hm; omega)).trans KBW_22.out)
    have KBX1_24 := Lib.hid ((hon.block _ (Args4.box_lt KBX1_22.out) (fun hm => by have := HTM0.out _ hm; omega)).trans KBX1_22.out)
    have KBG_24 := Lib.hid ((hon.block _ (Args4.box_lt KBG_22.out) (fun hm => by have := HTM0.out _ hm; omega)).trans KBG_22.out)
    have NW_24 := Lib.hid (NW_22.out.alike (w' := w23) fun bb hbb => hon.block bb (NW_22.out.lt bb hbb) (fun hm => by have h1 := HTM0.out _ hm; have h2 := HTW.out _ hbb; omega))
    have NX1_24 := Lib.hid (NX1_22.out.alike (w' := w23) fun bb hbb => hon.block bb (NX1_22.out.lt bb hbb) (fun hm => by have h1 := HTM0.out _ hm; have h2 := HTX1.out _ hbb; omega))
    have NG_24 := Lib.hid (NG_22.out.alike (w' := w23) fun bb hbb => hon.block bb (NG_22.out.lt bb hbb) (fun hm => by have h1 := HTM0.out _ hm; have h2 := HTG.out _ hbb; omega))
    have HC24 := Lib.hid (Only.below HC22.out hon HC22.out.size (fun b hb => by have := HTM0.out _ hb; have := HZ.out; omega))
    clear hmk hg hon QX0_22 KBW_22 KBX1_22 KBG_22 NW_22 NX1_22 NG_22 HC22
    obtain ⟨x0, x1, x2⟩ := OrbK.row3 KBX1_24.out
    have hmk := markOrbitSet_any z1 l1 m1 HF1.out SX1 PX1 KX1 qX1 rX1 (1 + (l0.length : Int) * 2) w23 (by omega) (by omega) NX1_24.out
    go_wp2_with fail
    (with_reducible refine hmk.mono ?_)
    rintro e w25 ⟨rfl, hon⟩
    have s26 : w23.heap.size ≤ w25.heap.size := hon.size
    have KBW_26 := Lib.hid ((hon.block _ (Args4.box_lt KBW_24.out) (fun hm => by have := HTX1.out _ hm; omega)).trans KBW_24.out)
    have KBG_26 := Lib.hid ((hon.block _ (Args4.box_lt KBG_24.out) (fun hm => by have := HTX1.out _ hm; omega)).trans KBG_24.out)
    have NW_26 := Lib.hid (NW_24.out.alike (w' := w25) fun bb hbb => hon.block bb (NW_24.out.lt bb hbb) (fun hm => by have h1 := HTX1.out _ hm; have h2 := HTW.out _ hbb; omega))
    have NG_26 := Lib.hid (NG_24.out.alike (w' := w25) fun bb hbb => hon.block bb (NG_24.out.lt bb hbb) (fun hm => by have h1 := HTX1.out _ hm; have h2 := HTG.out _ hbb; omega))
    have HC26 := Lib.hid (Only.below HC24.out hon HC24.out.size (fun b hb => by have := HTX1.out _ hb; have := HZ.out; omega))
    clear hmk hon x0 x1 x2 NX1_24 KBX1_24 KBW_24 KBG_24 NW_24 NG_24 HC24
    have tk : ¬ 1 + (l0.length : Int) * 2 + (l1.length : Int) + (sumR m1 : Int) < 0 := by omega
    have heq := eqOrbitSet_any zR lR mR HFR.out w25 _ _ (orbOut_ix NG_26.out) (orbOut_ix NW_26.out)
    obtain ⟨ya0, ya1, ya2⟩ := OrbK.row3 KBG_26.out
    obtain ⟨yb0, yb1, yb2⟩ := OrbK.row3 KBW_26.out
    go_wp2_with fail
    refine heq.mono ?_
    rintro e w27 ⟨rfl, hb⟩
    have s28 : w25.heap.size ≤ w27.heap.size := hb.size
    have KBW_28 := Lib.hid ((hb.block _ (Args4.box_lt KBW_26.out)).trans KBW_26.out)
    have KBG_28 := Lib.hid ((hb.block _ (Args4.box_lt KBG_26.out)).trans KBG_26.out)
    have NW_28 := Lib.hid (NW_26.out.alike (w' := w27) fun bb hbb => hb.block bb (NW_26.out.lt bb hbb))
    have NG_28 := Lib.hid (NG_26.out.alike (w' := w27) fun bb hbb => hb.block bb (NG_26.out.lt bb hbb))
    have HC28 := Lib.hid (HC26.out.trans (hb.mono HC26.out.size))
    clear heq hb ya0 ya1 ya2 yb0 yb1 yb2 KBW_26 KBG_26 NW_26 NG_26 HC26
    obtain ⟨y0, y1, y2⟩ := OrbK.row3 KBG_28.out
    have hmi := markOrbitSet_full zR lR mR HFR.out SG AG BG cG dG 1 w27 (by omega) (by omega) NG_28.out
    go_wp2_with fail
    (with_reducible refine hmi.mono ?_)
    rintro e w29 ⟨rfl, ⟨S', hLm, hSm⟩, hon⟩
    have s30 : w27.heap.size ≤ w29.heap.size := hon.size
    have KBW_30 := Lib.hid ((hon.block _ (Args4.box_lt KBW_28.out) (fun hm => by have := HTG.out _ hm; omega)).trans KBW_28.out)
    have KBG_30 := Lib.hid ((hon.block _ (Args4.box_lt KBG_28.out) (fun hm => by have := HTG.out _ hm; omega)).trans KBG_28.out)
    have NW_30 := Lib.hid (NW_28.out.alike (w' := w29) fun bb hbb => hon.block bb (NW_28.out.lt bb hbb) (fun hm => by have h1 := HTG.out _ hm; have h2 := HTW.out _ hbb; omega))
    have HC30 := Lib.hid (Only.below HC28.out hon HC28.out.size (fun b hb => by have := HTG.out _ hb; have := HZ.out; omega))
    have NM := Lib.hid hLm
    have HTM : Hid (∀ b ∈ S', _ ∧ _) := Lib.hid (fun b hb => HTG.out b (hSm b hb))
    clear hmi hon hLm hSm y0 y1 y2 NG_28 KBW_28 KBG_28 NW_28 HC28
    have tm : ¬ 1 + (lR.length : Int) + (sumR mR : Int) < 0 := by omega
    have tq : (1 + (lR.length : Int) + (sumR mR : Int) != 1 + (lR.length : Int) + (sumR mR : Int)) = false := by simp
    obtain ⟨y0, y1, y2⟩ := OrbK.row3 KBG_30.out
    have hhi := heldOrbitSet_any zR lR mR HFR.out S' AG BG cG dG 1 w29 (by omega) (by omega) NM.out
    go_wp2_with fail
    (with_reducible refine hhi.mono ?_)
    rintro e w31 ⟨rfl, hb⟩
    have s32 : w29.heap.size ≤ w31.heap.size := hb.size
    have KBW_32 := Lib.hid ((hb.block _ (Args4.box_lt KBW_30.out)).trans KBW_30.out)
    have KBG_32 := Lib.hid ((hb.block _ (Args4.box_lt KBG_30.out)).trans KBG_30.out)
    have NW_32 := Lib.hid (NW_30.out.alike (w' := w31) fun bb hbb => hb.block bb (NW_30.out.lt bb hbb))
    have NM_32 := Lib.hid (NM.out.alike (w' := w31) fun bb hbb => hb.block bb (NM.out.lt bb hbb))
    have HC32 := Lib.hid (HC30.out.trans (hb.mono HC30.out.size))
    clear hhi hb y0 y1 y2 KBW_30 KBG_30 NW_30 NM HC30
    have HQ := HC32
    have lt0 : w.heap.size < w31.heap.size := by have h := HQ.out.size; simp only [World.size_alloc] at h; omega
    have HCC : Hid (∀ w' : World, Below w31.heap.size w31 w' → w'.cell? ⟨w.heap.size, 0, none⟩ = some (.int .i64 z1) ∧ w'.cell? ⟨w.heap.size, 1, none⟩ = some (.slice A1 l1.length c1) ∧ w'.cell? ⟨w.heap.size, 2, none⟩ = some (.slice B1 m1.length d1)) := Lib.hid (fun w' h => ⟨(HB1.out w' (HQ.out.trans (h.mono HQ.out.size))).1, (HB1.out w' (HQ.out.trans (h.mono HQ.out.size))).2.1, (HB1.out w' (HQ.out.trans (h.mono HQ.out.size))).2.2⟩)
    go_upto_region 31 with fail
    go_cut [15, 16] (fun s t wx => OrbQ.Rel w31 zR lR mR s wx ∧ t = .bool fl)
    case first =>
      have hdw : Below w31.heap.size w31 w31.drew := ⟨rfl, rfl, rfl, Nat.le_refl _, fun _ _ => rfl⟩
      have hal : Below w31.heap.size w31 (w31.alloc (.cells #[.int .i64 0, .slice none 0 0, .slice none 0 0] 29)).drew := by
        have h : Below w31.heap.size w31 (w31.alloc (.cells #[.int .i64 0, .slice none 0 0, .slice none 0 0] 29)) := (Below.refl _ _).alloc (Nat.le_refl _) _
        exact ⟨h.os, h.tape, h.output, h.size, h.block⟩
      obtain ⟨cu0, cu1, cu2⟩ := HCC.out w31.drew (hdw)
      obtain ⟨cx0, cx1, cx2⟩ := HCC.out (w31.alloc (.cells #[.int .i64 0, .slice none 0 0, .slice none 0 0] 29)).drew (hal)
      have ne0_0 : w.heap.size ≠ w31.heap.size := Nat.ne_of_lt lt0
      have h0a := toPairS_any A0 c0 l0 (w31.drew) (HI0.out (w31.drew) (HQ.out.trans ((hdw).mono HQ.out.size))) (by have := HN0.out; omega)
      have h0b := toPairS_any A0 c0 l0 ((w31.alloc (.cells #[.int .i64 0, .slice none 0 0, .slice none 0 0] 29)).drew) (HI0.out ((w31.alloc (.cells #[.int .i64 0, .slice none 0 0, .slice none 0 0] 29)).drew) (HQ.out.trans ((hal).mono HQ.out.size))) (by have := HN0.out; omega)
      go_region_held3 (fun w' => w'.cell? ⟨w.heap.size, 0, none⟩ = some (.int .i64 z1) ∧ w'.cell? ⟨w.heap.size, 1, none⟩ = some (.slice A1 l1.length c1) ∧ w'.cell? ⟨w.heap.size, 2, none⟩ = some (.slice B1 m1.length d1))
        (first | ((try dsimp only); (with_reducible exact ⟨by assumption, by assumption, by assumption⟩)) | (with_reducible exact ⟨OrbQ.set3_keep (by assumption) (by assumption), OrbQ.set3_keep (by assumption) (by assumption), OrbQ.set3_keep (by assumption) (by assumption)⟩) | go_keep)
        (first
          | (go_at_call 46; (first | (with_reducible refine h0a.mono ?_) | (with_reducible refine h0b.mono ?_)); rintro e wq0 ⟨v0, rfl, ho0, hb0⟩; obtain ⟨Bv0, dv0, rfl, hin0⟩ := own_pairsAt ho0; have fr0 : Below w31.heap.size w31 wq0 := (by first | (with_reducible exact hdw.trans (hb0.mono hdw.size)) | (with_reducible exact hal.trans (hb0.mono hal.size))); (try (have zb0 : wq0.heap[w31.heap.size]? = some (.cells #[.int .i64 0, .slice none 0 0, .slice none 0 0] 29) := (hb0.block w31.heap.size (by simp)).trans (heap_alloc_new w31 (.cells #[.int .i64 0, .slice none 0 0, .slice none 0 0] 29)))); obtain ⟨ca0, ca1, ca2⟩ := HCC.out wq0 (fr0); have ne0_1 : w.heap.size ≠ wq0.heap.size := Nat.ne_of_lt (Nat.lt_of_lt_of_le lt0 fr0.size); have al0 : Below wq0.heap.size wq0 (wq0.alloc (.cells #[.int .i64 0, .slice none 0 0, .slice none 0 0] 29)) := (Below.refl _ _).alloc (Nat.le_refl _) _; have h1a := toOrbitSet_any z1 l1 m1 HF1.out (wq0) _ (HI1.out (wq0) (HQ.out.trans ((fr0).mono HQ.out.size))); have h1b := toOrbitSet_any z1 l1 m1 HF1.out ((wq0.alloc (.cells #[.int .i64 0, .slice none 0 0, .slice none 0 0] 29))) _ (HI1.out ((wq0.alloc (.cells #[.int .i64 0, .slice none 0 0, .slice none 0 0] 29))) (HQ.out.trans (((fr0.trans (al0.mono fr0.size))).mono HQ.out.size))))
          | (go_at_call 32; (first | (with_reducible refine h1a.mono ?_) | (with_reducible refine h1b.mono ?_)); rintro e wq1 ⟨P1, q1, K1, r1, S1, rfl, hL1, _, hb1⟩; have bx1 : Below wq0.heap.size wq0 wq1 := (by first | (with_reducible exact hb1) | (with_reducible exact al0.trans (hb1.mono al0.size))); have fr1 := fr0.trans (bx1.mono fr0.size); (try (have zb1 := (bx1.block _ (OrbK.box_lt zb0)).trans zb0)); (try (have zb1 : wq1.heap[wq0.heap.size]? = some (.cells #[.int .i64 0, .slice none 0 0, .slice none 0 0] 29) := (hb1.block _ (by simp)).trans (heap_alloc_new wq0 (.cells #[.int .i64 0, .slice none 0 0, .slice none 0 0] 29)))); have hin1 := orbOut_ix hL1; have hin0 := hin0.below bx1; obtain ⟨cb0, cb1, cb2⟩ := HCC.out wq1 (fr1); have ne0_2 : w.heap.size ≠ wq1.heap.size := Nat.ne_of_lt (Nat.lt_of_lt_of_le lt0 fr1.size); have al1 : Below wq1.heap.size wq1 (wq1.alloc (.cells #[.int .i64 0, .slice none 0 0, .slice none 0 0] 29)) := (Below.refl _ _).alloc (Nat.le_refl _) _; have h2a := actOnSet_impl l0 (by have := HN0.out; omega) z1 l1 m1 HF1.out _ Bv0 dv0 (wq1) (hin0) (hin1); have h2b := actOnSet_impl l0 (by have := HN0.out; omega) z1 l1 m1 HF1.out _ Bv0 dv0 ((wq1.alloc (.cells #[.int .i64 0, .slice none 0 0, .slice none 0 0] 29))) (hin0.below al1) (hin1.below al1); rw [HzR.out] at h2a h2b; rw [HlR.out] at h2a h2b; rw [HmR.out] at h2a h2b; rw [HFL.out] at h2a h2b)
          | (go_at_call 47; (first | (with_reducible refine h2a.mono ?_) | (with_reducible refine h2b.mono ?_)); rintro e wq2 ⟨Aw, cw, Bw, dw, Sw, rfl, hLw, hSw, hb2⟩; have bx2 : Below wq1.heap.size wq1 wq2 := (by first | (with_reducible exact hb2) | (with_reducible exact al1.trans (hb2.mono al1.size))); have fr2 := fr1.trans (bx2.mono fr1.size); (try (have zb2 := (bx2.block _ (OrbK.box_lt zb1)).trans zb1)); (try (have zb2 : wq2.heap[wq1.heap.size]? = some (.cells #[.int .i64 0, .slice none 0 0, .slice none 0 0] 29) := (hb2.block _ (by simp)).trans (heap_alloc_new wq1 (.cells #[.int .i64 0, .slice none 0 0, .slice none 0 0] 29)))); obtain ⟨cc0, cc1, cc2⟩ := HCC.out wq2 (fr2); have ne0_3 : w.heap.size ≠ wq2.heap.size := Nat.ne_of_lt (Nat.lt_of_lt_of_le lt0 fr2.size); (try (obtain ⟨qb0, qb1, qb2⟩ := OrbK.row3 zb2; have yb0 := frozen_of_row _ _ 0 _ _ zb2; have yb1 := frozen_of_row _ _ 1 _ _ zb2; have yb2 := frozen_of_row _ _ 2 _ _ zb2)))
          | fail)
      all_goals
        have szb0 : w31.heap.size ≤ wq0.heap.size := fr0.size
        have szb1 : w31.heap.size ≤ wq1.heap.size := fr1.size
        go_wp2_with fail
        go_meet
        first | (with_reducible exact ⟨OrbQ.rel_set zb2 hLw (fun b hb => Nat.le_trans (by omega) (hSw b hb)) (fun b hb => Nat.ne_of_gt (Nat.lt_of_lt_of_le (OrbK.box_lt zb1) (hSw b hb))) (by omega) fr2, rfl⟩) | (with_reducible exact ⟨OrbQ.rel_set zb2 hLw (fun b hb => Nat.le_trans (by simp; omega) (hSw b hb)) (fun b hb => Nat.ne_of_gt (Nat.lt_of_lt_of_le (by simp) (hSw b hb))) (by omega) fr2, rfl⟩) | (with_reducible exact ⟨OrbQ.rel_new hLw (fun b hb => Nat.le_trans (by omega) (hSw b hb)) fr2, rfl⟩)
    case rest =>
      obtain ⟨⟨gH, AH, cH, BH, dH, SH, rfl, hbox, hLb, hgS, hSb, hgb, hgz⟩, rfl⟩ := hcut
      have s33 : w31.heap.size ≤ wc.heap.size := hgz.size
      have KBW_33 := Lib.hid ((hgz.block _ (Args4.box_lt KBW_32.out)).trans KBW_32.out)
      have KBG_33 := Lib.hid ((hgz.block _ (Args4.box_lt KBG_32.out)).trans KBG_32.out)
      have NW_33 := Lib.hid (NW_32.out.alike (w' := wc) fun bb hbb => hgz.block bb (NW_32.out.lt bb hbb))
      have NM_33 := Lib.hid (NM_32.out.alike (w' := wc) fun bb hbb => hgz.block bb (NM_32.out.lt bb hbb))
      have HC33 := Lib.hid (HC32.out.trans (hgz.mono HC32.out.size))
      have lt_H : gH < wc.heap.size := OrbK.box_lt hbox
      have HTH : Hid (∀ b ∈ SH, w31.heap.size ≤ b ∧ b < wc.heap.size) := Lib.hid (fun b hb => ⟨hSb b hb, hLb.lt b hb⟩)
      have NH := Lib.hid hLb
      have KBH := Lib.hid hbox
      clear hbox hgS hSb hgb hgz HQ HCC lt0 KBW_32 KBG_32 NW_32 NM_32 HC32 hLb
      obtain ⟨w34, rfl⟩ : ∃ x : World, x = wc := ⟨_, rfl⟩
      have heq := eqOrbitSet_any zR lR mR HFR.out w34 _ _ (orbOut_ix NH.out) (orbOut_ix NW_33.out)
      obtain ⟨ya0, ya1, ya2⟩ := OrbK.row3 KBH.out
      obtain ⟨yb0, yb1, yb2⟩ := OrbK.row3 KBW_33.out
      go_wp2_with fail
      refine heq.mono ?_
      rintro e w35 ⟨rfl, hb⟩
      have s36 : w34.heap.size ≤ w35.heap.size := hb.size
      have KBW_36 := Lib.hid ((hb.block _ (Args4.box_lt KBW_33.out)).trans KBW_33.out)
      have KBG_36 := Lib.hid ((hb.block _ (Args4.box_lt KBG_33.out)).trans KBG_33.out)
      have KBH_36 := Lib.hid ((hb.block _ (Args4.box_lt KBH.out)).trans KBH.out)
      have NW_36 := Lib.hid (NW_33.out.alike (w' := w35) fun bb hbb => hb.block bb (NW_33.out.lt bb hbb))
      have NM_36 := Lib.hid (NM_33.out.alike (w' := w35) fun bb hbb => hb.block bb (NM_33.out.lt bb hbb))
      have NH_36 := Lib.hid (NH.out.alike (w' := w35) fun bb hbb => hb.block bb (NH.out.lt bb hbb))
      have HC36 := Lib.hid (HC33.out.trans (hb.mono HC33.out.size))
      clear heq hb ya0 ya1 ya2 yb0 yb1 yb2 KBW_33 KBG_33 KBH NW_33 NM_33 NH HC33
      obtain ⟨y0, y1, y2⟩ := OrbK.row3 KBG_36.out
      have hhi := heldOrbitSet_any zR lR mR HFR.out S' AG BG cG dG 1 w35 (by omega) (by omega) NM_36.out
      go_wp2_with fail
      (with_reducible refine hhi.mono ?_)
      rintro e w37 ⟨rfl, hb⟩
      have s38 : w35.heap.size ≤ w37.heap.size := hb.size
      have KBW_38 := Lib.hid ((hb.block _ (Args4.box_lt KBW_36.out)).trans KBW_36.out)
      have KBG_38 := Lib.hid ((hb.block _ (Args4.box_lt KBG_36.out)).trans KBG_36.out)
      have KBH_38 := Lib.hid ((hb.block _ (Args4.box_lt KBH_36.out)).trans KBH_36.out)
      have NW_38 := Lib.hid (NW_36.out.alike (w' := w37) fun bb hbb => hb.block bb (NW_36.out.lt bb hbb))
      have NM_38 := Lib.hid (NM_36.out.alike (w' := w37) fun bb hbb => hb.block bb (NM_36.out.lt bb hbb))
      have NH_38 := Lib.hid (NH_36.out.alike (w' := w37) fun bb hbb => hb.block bb (NH_36.out.lt bb hbb))
      have HC38 := Lib.hid (HC36.out.trans (hb.mono HC36.out.size))
      clear hhi hb y0 y1 y2 KBW_36 KBG_36 KBH_36 NW_36 NM_36 NH_36 HC36
      have hfin := HW0.out.trans (HC38.out.mono HW0.out.size)
      go_wp2
      go_ret
      exact ⟨rfl, hfin⟩

theorem walk (w : World) (A0 : Option Addr) (c0 : Nat) (l0 : List (Int × Int)) (hA0 : PairsAt w A0 l0) (hm0 : l0.length ≤ maxLen) (x1 : Value) (z1 : Int) (l1 : List Int) (m1 : List (List Int)) (hx1 : OrbIn w x1 z1 l1 m1) (hs1 : ShortO l1 m1) :
    Calls Try.prog 11 #[.slice A0 l0.length c0, x1] w fun e w' => e = .returned (.bool true) ∧ Below w.heap.size w w' := by
  by_cases hn0 : (l0.length : Int) ≤ 1048576
  · skip
    by_cases hn1 : ((l1.length + (m1.length + sumR m1) : Nat) : Int) ≤ 1048576 - (l0.length : Int)
    · skip
      exact walk_yes w A0 c0 l0 hA0 hm0 x1 z1 l1 m1 hx1 hs1 hn0 hn1
    · exact walk_no1 w A0 c0 l0 hA0 hm0 x1 z1 l1 m1 hx1 hs1 hn0 hn1
  · exact walk_no0 w A0 c0 l0 hA0 hm0 x1 z1 l1 m1 hx1 hs1 hn0

set_option maxRecDepth 100000 in
theorem lifted (os : Os) (started : os.Started) (H : Type) (enc : TypeId × Value → H) :
    ReturnsInHanded {} Try.checked os 11 .any (Rows.fnExactActOnSetSpec.pre6 enc Try.prog Try.f11 Rows.fnExactActOnSetRow.domain false) (Rows.fnExactActOnSetSpec.post enc Try.prog Try.f11 false true false false) := by
  refine returnsInHanded_of_change (C := Try.checked) own started (by kernel_rfl) Try.func11
    (ChangeSpec.witness6 (enc := enc) (C := Try.checked) false ⟨#[], #[.slice none 0 0, .agg #[.int .i64 0, .slice none 0 0, .slice none 0 0]], []⟩ 8 (by kernel_rfl) (by kernel_rfl) (by kernel_rfl) (by kernel_rfl)) ?_
  intro W base args ds gs before hval0 hW hcnd _
  have hval : ∀ (j : Nat) t v, Try.f11.params[j]? = some t → args[j]? = some v → Value.okWide Try.prog W .any base t v := hval0
  have hW' := hW
  obtain ⟨p, q, hA0, hV, rfl, hfz, hnd⟩ := hW
  have hA : DataW.TrodAll enc Try.prog W 0 (fun _ => true) true Try.f11.params.toList args.toList ds p := hA0
  rw [Try.params11] at hA hval
  obtain ⟨v0, vs0, d0, ds0, p0, q0, hargs, rfl, rfl, h0, r0⟩ := trodAll_cons hA
  obtain ⟨v1, vs1, d1, ds1, p1, q1, rfl, rfl, rfl, h1, r1⟩ := trodAll_cons r0
  obtain ⟨rfl, rfl, rfl⟩ := trodAll_nil r1
  obtain rfl : args = #[v0, v1] := by cases args; simp_all
  obtain ⟨rfl, rfl⟩ := trodVars_none hV
  have k0 := h0
  have lt0 : ∀ x ∈ p0, x.block < W.heap.size := by obtain ⟨m, hm⟩ := k0; exact DataW.trod_lt m _ _ _ hm
  have k1 := h1
  have lt1 : ∀ x ∈ p1, x.block < W.heap.size := by obtain ⟨m, hm⟩ := k1; exact DataW.trod_lt m _ _ _ hm
  obtain ⟨A0, n0, c0, rfl⟩ := okWide_slice Try.underlying49 (hval 0 49 v0 rfl rfl)
  obtain ⟨l0, rfl, w0, m0⟩ := open_pairs h0
  obtain ⟨z1, l1, m1, tx1, ts1⟩ := open_orbit (hval 1 39 v1 rfl rfl) h1
  clear hA0 hval0
  refine (walk W A0 c0 l0 w0 m0 v1 z1 l1 m1 tx1 ts1).mono fun e W' ⟨he, bel⟩ => ?_
  subst he
  exact ⟨_, rfl, _, _, _, [], _, [], hW', trodAll_mk1 (shut_bool Try.underlying4 _), (trodAll_cons_mk (Below.trod laidOut (by kernel_rfl) (of_decide_eq_true (by kernel_rfl)) k0 bel lt0) (trodAll_cons_mk (Below.trod laidOut (by kernel_rfl) (of_decide_eq_true (by kernel_rfl)) k1 bel lt1) trodAll_mk0)), rfl, bel.frame _, fun h => by cases h⟩

theorem over : Rows.fnExactActOnSetRow.holds Try.pinned (OpenSpec.ofChange Rows.fnExactActOnSetSpec) :=
  OpenClaim.holds_of_wide 11 Try.f11 rfl rfl rfl rfl rfl rfl rfl ⟨rfl, rfl, rfl, rfl, rfl⟩ rfl rfl rfl rfl rfl (by kernel_rfl) Try.func11 (by kernel_rfl)
    (of_decide_eq_true (by kernel_rfl)) (by unfold Func.isWrapper; first | (rw [if_pos (by decide +kernel)]; kernel_rfl) | (rw [if_neg (by decide +kernel)]; exact ⟨rfl, rfl⟩))
    (fun os started H enc _ => lifted os started H enc)

theorem proved : Rows.FnExactActOnSetSaid := over
#print axioms proved
end Go.Proofs.Ytdbogjhkcnajkaa.fnExactActOnSet
