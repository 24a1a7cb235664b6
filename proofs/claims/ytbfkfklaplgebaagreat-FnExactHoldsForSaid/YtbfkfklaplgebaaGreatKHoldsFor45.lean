/-
  The law FnExactHoldsFor returns true for every two values: the program decides as the model whether a solution holds for a problem, and leaves its arguments as they were. No condition.
-/
import Derived.Test.YtbfkfklaplgebaaGreatKHoldsFor11
import Derived.Test.YtbfkfklaplgebaaGreatKHoldsFor10
import Derived.Test.YtbfkfklaplgebaaGreatKHoldsFor19
import Derived.Test.YtbfkfklaplgebaaGreatKHoldsFor44
import Derived.Test.YtbfkfklaplgebaaGreatKHoldsFor8
namespace Go.Proofs.YtbfkfklaplgebaaGreat.fnExactHoldsFor
open Go.ChangeShapes Go.WideShapes Go.ChangeAt Go.RowKit
set_option linter.unusedVariables false

namespace Args4
theorem box_lt {w : World} {g : Nat} {o : Obj} (h : w.heap[g]? = some o) : g < w.heap.size := (Array.getElem?_eq_some_iff.1 h).1
theorem row4 {w : World} {g : Nat} {a b c d : Value} {T : TypeId} (h : w.heap[g]? = some (.cells #[a, b, c, d] T (0, 0))) : w.cell? ⟨g, 0, none⟩ = some a ∧ w.cell? ⟨g, 1, none⟩ = some b ∧ w.cell? ⟨g, 2, none⟩ = some c ∧ w.cell? ⟨g, 3, none⟩ = some d := by
  refine ⟨?_, ?_, ?_, ?_⟩ <;> rw [cell_of_row w g _ _ _ _ h] <;> rfl
end Args4
theorem pairsAt_of {w : World} {base n : Nat} {e : TypeId} {B : Option Addr} {d : Nat} {l : List (Int × Int)} (h : w.ownsRow base e 2 (.slice B n d) l.length (cellsOf l)) : PairsAt w B l := by
  obtain ⟨A, c, ee, hp⟩ := own_pairsAt h
  injection ee with e1 e2 e3
  subst e1
  exact hp

theorem holdsFor_sol_impl (es : List REquation) (l : List RBinding) (c : List (Int × Int)) (ev x : Value) (w : World) (hev : REquationsIn w ev es) (hx : SolIn w x l c)
    (hel : es.length ≤ 1048576) (hec : ∀ k, k < es.length → cntREquation (atREquation es k) ≤ 1048576) (hll : l.length ≤ 1048576) (hlc : ∀ k, k < l.length → cntRBinding (atRBinding l k) ≤ 1048576) (hcl : c.length ≤ 1048576) :
    Calls Tryz.prog 44 #[ev, x] w (BoolPost (hldB es l c) w) := by
  obtain ⟨A, ca, B, d, rfl, h1, h2⟩ := hx
  exact holdsFor_impl es l c ev _ B d w hev h1 h2 hel hec hll hlc hcl
theorem holdsFor_sol_spec (es : List REquation) (l : List RBinding) (c : List (Int × Int)) (ev x : Value) (w : World) (hev : REquationsIn w ev es) (hx : SolIn w x l c)
    (hel : es.length ≤ 1048576) (hec : ∀ k, k < es.length → cntREquation (atREquation es k) ≤ 1048576) (hll : l.length ≤ 1048576) (hlc : ∀ k, k < l.length → cntRBinding (atRBinding l k) ≤ 1048576) (hcl : c.length ≤ 1048576) :
    Calls Tryz.prog 41 #[ev, x] w (BoolPost (hldB es l c) w) := by
  obtain ⟨A, ca, B, d, rfl, h1, h2⟩ := hx
  exact holdsFor_spec es l c ev _ B d w hev h1 h2 hel hec hll hlc hcl

set_option maxRecDepth 100000 in
set_option maxHeartbeats 16000000 in
theorem walk_no0 (w : World) (A0 : Option Addr) (c0 : Nat) (l0 : List REquation) (hA0 : REquationsIn w (.slice A0 l0.length c0) l0) (hs0 : ShortREquations l0) (hm0 : l0.length ≤ maxLen) (x1 : Value) (l1 : List RBinding) (m1 : List (Int × Int)) (hx1 : SolIn w x1 l1 m1) (hs1 : ShortSol l1 m1) (hn0 : ¬ ((l0.length + sumREquation l0 : Nat) : Int) ≤ 1048576) :
    Calls Tryz.prog 10 #[.slice A0 l0.length c0, x1] w fun e w' => e = .returned (.bool true) ∧ Below w.heap.size w w' := by
  obtain ⟨A1, c1, B1, d1, rfl, hp1, hk1⟩ := hx1
  have hb0 : Below w.heap.size w (w.alloc (.cells #[.slice A1 l1.length c1, .slice B1 m1.length d1] 62)) := ((Below.refl _ w).alloc (by first | exact Nat.le_refl _ | (simp; done) | (simp; omega)) _)
  have HI1 : Hid (∀ w' : World, Below (w.alloc (.cells #[.slice A1 l1.length c1, .slice B1 m1.length d1] 62)).heap.size (w.alloc (.cells #[.slice A1 l1.length c1, .slice B1 m1.length d1] 62)) w' → SolIn w' (.agg #[.slice A1 l1.length c1, .slice B1 m1.length d1]) l1 m1) := Lib.hid (fun w' h => ⟨A1, c1, B1, d1, rfl, hp1.below (hb0.trans (h.mono hb0.size)), hk1.below (hb0.trans (h.mono hb0.size))⟩)
  have HI0 : Hid (∀ w' : World, Below (w.alloc (.cells #[.slice A1 l1.length c1, .slice B1 m1.length d1] 62)).heap.size (w.alloc (.cells #[.slice A1 l1.length c1, .slice B1 m1.length d1] 62)) w' → REquationsIn w' (.slice A0 l0.length c0) l0) := Lib.hid (fun w' h => hA0.below (hb0.trans (h.mono hb0.size)))
  have kk1 : (w.alloc (.cells #[.slice A1 l1.length c1, .slice B1 m1.length d1] 62)).heap[w.heap.size]? = some (.cells #[.slice A1 l1.length c1, .slice B1 m1.length d1] 62 (0, 0)) := by
    have h := heap_alloc_new w (.cells #[.slice A1 l1.length c1, .slice B1 m1.length d1] 62)
    exact h
  obtain ⟨b10, b11⟩ := SolK.row2 kk1
  have lt1 : w.heap.size < (w.alloc (.cells #[.slice A1 l1.length c1, .slice B1 m1.length d1] 62)).heap.size := by first | (simp; done) | (simp; omega)
  have HB1 : Hid (∀ w' : World, Below (w.alloc (.cells #[.slice A1 l1.length c1, .slice B1 m1.length d1] 62)).heap.size (w.alloc (.cells #[.slice A1 l1.length c1, .slice B1 m1.length d1] 62)) w' → w'.cell? ⟨w.heap.size, 0, none⟩ = some (.slice A1 l1.length c1) ∧ w'.cell? ⟨w.heap.size, 1, none⟩ = some (.slice B1 m1.length d1)) := Lib.hid (fun w' h => ⟨(h.cell (p := ⟨w.heap.size, 0, none⟩) lt1).trans b10, (h.cell (p := ⟨w.heap.size, 1, none⟩) lt1).trans b11⟩)
  clear hp1 hk1 kk1 lt1 hA0
  have HC0 : Hid (Below (w.alloc (.cells #[.slice A1 l1.length c1, .slice B1 m1.length d1] 62)).heap.size (w.alloc (.cells #[.slice A1 l1.length c1, .slice B1 m1.length d1] 62)) (w.alloc (.cells #[.slice A1 l1.length c1, .slice B1 m1.length d1] 62))) := Lib.hid (Below.refl _ _)
  have HW0 := Lib.hid hb0
  clear hb0
  go_enter Tryz.func10, Tryz.ntmps10
  have hsz := szEquationS_any l0 hs0 hm0 (1048576) (w.alloc (.cells #[.slice A1 l1.length c1, .slice B1 m1.length d1] 62)) _ (by omega) (by omega) (HI0.out (w.alloc (.cells #[.slice A1 l1.length c1, .slice B1 m1.length d1] 62)) HC0.out)
  unfold LeftPost at hsz
  rw [leftR_no (by omega)] at hsz
  go_wp2_with fail
  refine hsz.mono ?_
  rintro e u1 ⟨rfl, hb⟩
  clear hsz b10 b11
  have s2 : (w.alloc (.cells #[.slice A1 l1.length c1, .slice B1 m1.length d1] 62)).heap.size ≤ u1.heap.size := hb.size
  have HC2 := Lib.hid (HC0.out.trans (hb.mono HC0.out.size))
  clear hb HC0
  have hfin := HW0.out.trans (HC2.out.mono HW0.out.size)
  go_wp2
  go_ret
  exact ⟨rfl, hfin⟩

set_option maxRecDepth 100000 in
set_option maxHeartbeats 16000000 in
theorem walk_no1 (w : World) (A0 : Option Addr) (c0 : Nat) (l0 : List REquation) (hA0 : REquationsIn w (.slice A0 l0.length c0) l0) (hs0 : ShortREquations l0) (hm0 : l0.length ≤ maxLen) (x1 : Value) (l1 : List RBinding) (m1 : List (Int × Int)) (hx1 : SolIn w x1 l1 m1) (hs1 : ShortSol l1 m1) (hn0 : ((l0.length + sumREquation l0 : Nat) : Int) ≤ 1048576) (hn1 : ¬ ((l1.length + sumRBinding l1 + m1.length : Nat) : Int) ≤ 1048576 - ((l0.length + sumREquation l0 : Nat) : Int)) :
    Calls Tryz.prog 10 #[.slice A0 l0.length c0, x1] w fun e w' => e = .returned (.bool true) ∧ Below w.heap.size w w' := by
  obtain ⟨A1, c1, B1, d1, rfl, hp1, hk1⟩ := hx1
  have hb0 : Below w.heap.size w (w.alloc (.cells #[.slice A1 l1.length c1, .slice B1 m1.length d1] 62)) := ((Below.refl _ w).alloc (by first | exact Nat.le_refl _ | (simp; done) | (simp; omega)) _)
  have HI1 : Hid (∀ w' : World, Below (w.alloc (.cells #[.slice A1 l1.length c1, .slice B1 m1.length d1] 62)).heap.size (w.alloc (.cells #[.slice A1 l1.length c1, .slice B1 m1.length d1] 62)) w' → SolIn w' (.agg #[.slice A1 l1.length c1, .slice B1 m1.length d1]) l1 m1) := Lib.hid (fun w' h => ⟨A1, c1, B1, d1, rfl, hp1.below (hb0.trans (h.mono hb0.size)), hk1.below (hb0.trans (h.mono hb0.size))⟩)
  have HI0 : Hid (∀ w' : World, Below (w.alloc (.cells #[.slice A1 l1.length c1, .slice B1 m1.length d1] 62)).heap.size (w.alloc (.cells #[.slice A1 l1.length c1, .slice B1 m1.length d1] 62)) w' → REquationsIn w' (.slice A0 l0.length c0) l0) := Lib.hid (fun w' h => hA0.below (hb0.trans (h.mono hb0.size)))
  have kk1 : (w.alloc (.cells #[.slice A1 l1.length c1, .slice B1 m1.length d1] 62)).heap[w.heap.size]? = some (.cells #[.slice A1 l1.length c1, .slice B1 m1.length d1] 62 (0, 0)) := by
    have h := heap_alloc_new w (.cells #[.slice A1 l1.length c1, .slice B1 m1.length d1] 62)
    exact h
  obtain ⟨b10, b11⟩ := SolK.row2 kk1
  have lt1 : w.heap.size < (w.alloc (.cells #[.slice A1 l1.length c1, .slice B1 m1.length d1] 62)).heap.size := by first | (simp; done) | (simp; omega)
  have HB1 : Hid (∀ w' : World, Below (w.alloc (.cells #[.slice A1 l1.length c1, .slice B1 m1.length d1] 62)).heap.size (w.alloc (.cells #[.slice A1 l1.length c1, .slice B1 m1.length d1] 62)) w' → w'.cell? ⟨w.heap.size, 0, none⟩ = some (.slice A1 l1.length c1) ∧ w'.cell? ⟨w.heap.size, 1, none⟩ = some (.slice B1 m1.length d1)) := Lib.hid (fun w' h => ⟨(h.cell (p := ⟨w.heap.size, 0, none⟩) lt1).trans b10, (h.cell (p := ⟨w.heap.size, 1, none⟩) lt1).trans b11⟩)
  clear hp1 hk1 kk1 lt1 hA0
  have HC0 : Hid (Below (w.alloc (.cells #[.slice A1 l1.length c1, .slice B1 m1.length d1] 62)).heap.size (w.alloc (.cells #[.slice A1 l1.length c1, .slice B1 m1.length d1] 62)) (w.alloc (.cells #[.slice A1 l1.length c1, .slice B1 m1.length d1] 62))) := Lib.hid (Below.refl _ _)
  have HW0 := Lib.hid hb0
  clear hb0
  go_enter Tryz.func10, Tryz.ntmps10
  have hsz := szEquationS_any l0 hs0 hm0 (1048576) (w.alloc (.cells #[.slice A1 l1.length c1, .slice B1 m1.length d1] 62)) _ (by omega) (by omega) (HI0.out (w.alloc (.cells #[.slice A1 l1.length c1, .slice B1 m1.length d1] 62)) HC0.out)
  unfold LeftPost at hsz
  rw [leftR_yes hn0] at hsz
  have hleft0 : ¬ 1048576 - ((l0.length + sumREquation l0 : Nat) : Int) < 0 := by omega
  go_wp2_with fail
  refine hsz.mono ?_
  rintro e u1 ⟨rfl, hb⟩
  clear hsz b10 b11
  have s2 : (w.alloc (.cells #[.slice A1 l1.length c1, .slice B1 m1.length d1] 62)).heap.size ≤ u1.heap.size := hb.size
  have HC2 := Lib.hid (HC0.out.trans (hb.mono HC0.out.size))
  clear hb HC0
  obtain ⟨b10, b11⟩ := HB1.out u1 HC2.out
  have hsz := szSolution_any l1 m1 hs1 (1048576 - ((l0.length + sumREquation l0 : Nat) : Int)) u1 _ (by omega) (by omega) (HI1.out u1 HC2.out)
  unfold LeftPost at hsz
  rw [leftR_no (by omega)] at hsz
  go_wp2_with fail
  refine hsz.mono ?_
  rintro e u3 ⟨rfl, hb⟩
  clear hsz b10 b11
  have s4 : u1.heap.size ≤ u3.heap.size := hb.size
  have HC4 := Lib.hid (HC2.out.trans (hb.mono HC2.out.size))
  clear hb HC2
  have hfin := HW0.out.trans (HC4.out.mono HW0.out.size)
  go_wp2
  go_ret
  exact ⟨rfl, hfin⟩

set_option maxRecDepth 100000 in
set_option maxHeartbeats 16000000 in
theorem walk_yes (w : World) (A0 : Option Addr) (c0 : Nat) (l0 : List REquation) (hA0 : REquationsIn w (.slice A0 l0.length c0) l0) (hs0 : ShortREquations l0) (hm0 : l0.length ≤ maxLen) (x1 : Value) (l1 : List RBinding) (m1 : List (Int × Int)) (hx1 : SolIn w x1 l1 m1) (hs1 : ShortSol l1 m1) (hn0 : ((l0.length + sumREquation l0 : Nat) : Int) ≤ 1048576) (hn1 : ((l1.length + sumRBinding l1 + m1.length : Nat) : Int) ≤ 1048576 - ((l0.length + sumREquation l0 : Nat) : Int)) :
    Calls Tryz.prog 10 #[.slice A0 l0.length c0, x1] w fun e w' => e = .returned (.bool true) ∧ Below w.heap.size w w' := by
  have HL0 : Hid (l0.length ≤ 1048576) := Lib.hid (by omega)
  have HN0 : Hid (∀ k, k < l0.length → cntREquation (atREquation l0 k) ≤ 1048576) := Lib.hid (fun k hk => by have := cntREquation_le hk; omega)
  have HF0 : Hid (FitREquations l0) := Lib.hid (fun k hk => ⟨fit_of _ (by have h := HN0.out k hk; unfold cntREquation at h; omega), fit_of _ (by have h := HN0.out k hk; unfold cntREquation at h; omega)⟩)
  have HL1 : Hid (l1.length ≤ 1048576) := Lib.hid (by omega)
  have HM1 : Hid (m1.length ≤ 1048576) := Lib.hid (by omega)
  have HN1 : Hid (∀ k, k < l1.length → cntRBinding (atRBinding l1 k) ≤ 1048576) := Lib.hid (fun k hk => by have := cntRBinding_le hk; omega)
  have HF1 : Hid (FitRBindings l1) := Lib.hid (fun k hk => fit_of _ (HN1.out k hk))
  generalize hFF : hldB l0 l1 m1 = fl
  have HFL := Lib.hid hFF
  have hfl : (fl != fl) = false := by simp
  clear hFF
  obtain ⟨A1, c1, B1, d1, rfl, hp1, hk1⟩ := hx1
  have hb0 : Below w.heap.size w (w.alloc (.cells #[.slice A1 l1.length c1, .slice B1 m1.length d1] 62)) := ((Below.refl _ w).alloc (by first | exact Nat.le_refl _ | (simp; done) | (simp; omega)) _)
  have HI1 : Hid (∀ w' : World, Below (w.alloc (.cells #[.slice A1 l1.length c1, .slice B1 m1.length d1] 62)).heap.size (w.alloc (.cells #[.slice A1 l1.length c1, .slice B1 m1.length d1] 62)) w' → SolIn w' (.agg #[.slice A1 l1.length c1, .slice B1 m1.length d1]) l1 m1) := Lib.hid (fun w' h => ⟨A1, c1, B1, d1, rfl, hp1.below (hb0.trans (h.mono hb0.size)), hk1.below (hb0.trans (h.mono hb0.size))⟩)
  have HI0 : Hid (∀ w' : World, Below (w.alloc (.cells #[.slice A1 l1.length c1, .slice B1 m1.length d1] 62)).heap.size (w.alloc (.cells #[.slice A1 l1.length c1, .slice B1 m1.length d1] 62)) w' → REquationsIn w' (.slice A0 l0.length c0) l0) := Lib.hid (fun w' h => hA0.below (hb0.trans (h.mono hb0.size)))
  have kk1 : (w.alloc (.cells #[.slice A1 l1.length c1, .slice B1 m1.length d1] 62)).heap[w.heap.size]? = some (.cells #[.slice A1 l1.length c1, .slice B1 m1.length d1] 62 (0, 0)) := by
    have h := heap_alloc_new w (.cells #[.slice A1 l1.length c1, .slice B1 m1.length d1] 62)
    exact h
  obtain ⟨b10, b11⟩ := SolK.row2 kk1
  have lt1 : w.heap.size < (w.alloc (.cells #[.slice A1 l1.length c1, .slice B1 m1.length d1] 62)).heap.size := by first | (simp; done) | (simp; omega)
  have HB1 : Hid (∀ w' : World, Below (w.alloc (.cells #[.slice A1 l1.length c1, .slice B1 m1.length d1] 62)).heap.size (w.alloc (.cells #[.slice A1 l1.length c1, .slice B1 m1.length d1] 62)) w' → w'.cell? ⟨w.heap.size, 0, none⟩ = some (.slice A1 l1.length c1) ∧ w'.cell? ⟨w.heap.size, 1, none⟩ = some (.slice B1 m1.length d1)) := Lib.hid (fun w' h => ⟨(h.cell (p := ⟨w.heap.size, 0, none⟩) lt1).trans b10, (h.cell (p := ⟨w.heap.size, 1, none⟩) lt1).trans b11⟩)
  clear hp1 hk1 kk1 lt1 hA0
  have HC0 : Hid (Below (w.alloc (.cells #[.slice A1 l1.length c1, .slice B1 m1.length d1] 62)).heap.size (w.alloc (.cells #[.slice A1 l1.length c1, .slice B1 m1.length d1] 62)) (w.alloc (.cells #[.slice A1 l1.length c1, .slice B1 m1.length d1] 62))) := Lib.hid (Below.refl _ _)
  have HW0 := Lib.hid hb0
  clear hb0
  go_enter Tryz.func10, Tryz.ntmps10
  have hsz := szEquationS_any l0 hs0 hm0 (1048576) (w.alloc (.cells #[.slice A1 l1.length c1, .slice B1 m1.length d1] 62)) _ (by omega) (by omega) (HI0.out (w.alloc (.cells #[.slice A1 l1.length c1, .slice B1 m1.length d1] 62)) HC0.out)
  unfold LeftPost at hsz
  rw [leftR_yes hn0] at hsz
  have hleft0 : ¬ 1048576 - ((l0.length + sumREquation l0 : Nat) : Int) < 0 := by omega
  go_wp2_with fail
  refine hsz.mono ?_
  rintro e u1 ⟨rfl, hb⟩
  clear hsz b10 b11
  have s2 : (w.alloc (.cells #[.slice A1 l1.length c1, .slice B1 m1.length d1] 62)).heap.size ≤ u1.heap.size := hb.size
  have HC2 := Lib.hid (HC0.out.trans (hb.mono HC0.out.size))
  clear hb HC0
  obtain ⟨b10, b11⟩ := HB1.out u1 HC2.out
  have hsz := szSolution_any l1 m1 hs1 (1048576 - ((l0.length + sumREquation l0 : Nat) : Int)) u1 _ (by omega) (by omega) (HI1.out u1 HC2.out)
  unfold LeftPost at hsz
  rw [leftR_yes hn1] at hsz
  have hleft1 : ¬ 1048576 - ((l0.length + sumREquation l0 : Nat) : Int) - ((l1.length + sumRBinding l1 + m1.length : Nat) : Int) < 0 := by omega
  go_wp2_with fail
  refine hsz.mono ?_
  rintro e u3 ⟨rfl, hb⟩
  clear hsz b10 b11
  have s4 : u1.heap.size ≤ u3.heap.size := hb.size
  have HC4 := Lib.hid (HC2.out.trans (hb.mono HC2.out.size))
  clear hb HC2
  have HZ : Hid ((w.alloc (.cells #[.slice A1 l1.length c1, .slice B1 m1.length d1] 62)).heap.size ≤ u3.heap.size) := Lib.hid HC4.out.size
  have hdw : Below u3.heap.size u3 u3.drew := ⟨rfl, rfl, rfl, Nat.le_refl _, fun _ _ => rfl⟩
  have s5 : u3.heap.size ≤ u3.drew.heap.size := hdw.size
  have HC5 := Lib.hid (HC4.out.trans (hdw.mono HC4.out.size))
  clear hdw HC4
  have HS := HC5
  obtain ⟨b10, b11⟩ := HB1.out u3.drew HC5.out
  have hto0 := toEquationS_any l0 HF0.out HL0.out u3.drew _ (HI0.out u3.drew HS.out)
  go_wp2
  go_region_held3 (fun w' => w'.cell? ⟨w.heap.size, 0, none⟩ = some (.slice A1 l1.length c1) ∧ w'.cell? ⟨w.heap.size, 1, none⟩ = some (.slice B1 m1.length d1))
    (first | (with_reducible exact ⟨by assumption, by assumption⟩) | ((try dsimp only); exact ⟨by assumption, by assumption⟩) | go_keep)
    (first
      | (go_at_call 42; refine hto0.mono ?_; rintro e w6 ⟨v0, S0, rfl, hL0, _, hb0⟩; have hc0 := HS.out.trans (hb0.mono HS.out.size); have hin0 := ownREquations_in hL0; obtain ⟨e010, e011⟩ := HB1.out w6 hc0; have hto1 := toSolution_any l1 m1 HF1.out HL1.out HM1.out w6 _ (HI1.out w6 hc0))
      | (go_at_call 43; refine hto1.mono ?_; rintro e w7 ⟨P1, q1, K1, r1, rfl, hin1, hb1⟩; have hc1 := hc0.trans (hb1.mono hc0.size); have hin0 := hin0.below hb1; obtain ⟨e110, e111⟩ := HB1.out w7 hc1; have hsp := holdsFor_sol_spec l0 l1 m1 _ _ w7 (hin0) (hin1) HL0.out HN0.out HL1.out HN1.out HM1.out; rw [HFL.out] at hsp)
      | (go_at_call 41; refine hsp.mono ?_; rintro e w8 ⟨rfl, hb2⟩; have hc2 := hc1.trans (hb2.mono hc1.size); obtain ⟨e210, e211⟩ := HB1.out w8 hc2)
      | fail)
  have hbz : Below u3.drew.heap.size u3.drew w8 := ((hb0.trans (hb1.mono (hb0).size)).trans (hb2.mono ((hb0.trans (hb1.mono (hb0).size))).size))
  have slo : u3.drew.heap.size ≤ w7.heap.size := ((hb0.trans (hb1.mono (hb0).size))).size
  have s9 : u3.drew.heap.size ≤ w8.heap.size := hbz.size
  have HC9 := Lib.hid (HC5.out.trans (hbz.mono HC5.out.size))
  clear hbz HS hb0 hb1 hb2 hc0 hc1 hc2 hto0 hto1 hsp hin0 hin1 hL0 b10 b11 e010 e011 e110 e111 e210 e211 HC5
  have hto := toEquationS_any l0 HF0.out HL0.out w8 _ (HI0.out w8 HC9.out)
  go_wp2_with fail
  refine hto.mono ?_
  rintro e w10 ⟨vX0, SX0, rfl, hL, hS, hb⟩
  have s11 : w8.heap.size ≤ w10.heap.size := hb.size
  have HC11 := Lib.hid (HC9.out.trans (hb.mono HC9.out.size))
  have HTX0 : Hid (∀ b ∈ SX0, w8.heap.size ≤ b ∧ b < w10.heap.size) := Lib.hid (fun b hb => ⟨hS b hb, hL.lt b hb⟩)
  have NX0 := Lib.hid hL
  clear hto hb hS HC9 hL
  obtain ⟨b0, b1⟩ := HB1.out w10 HC11.out
  have hto := toSolution_any l1 m1 HF1.out HL1.out HM1.out w10 _ (HI1.out w10 HC11.out)
  go_wp2_with fail
  refine hto.mono ?_
  rintro e w12 ⟨PX1, qX1, KX1, rX1, rfl, hin, hb⟩
  have s13 : w10.heap.size ≤ w12.heap.size := hb.size
  have NX0_13 := Lib.hid (NX0.out.alike (w' := w12) fun bb hbb => hb.block bb (NX0.out.lt bb hbb))
  have HC13 := Lib.hid (HC11.out.trans (hb.mono HC11.out.size))
  have SO1 := Lib.hid hin
  clear hto hb hin b0 b1 NX0 HC11
  have hbx : Below w12.heap.size w12 (w12.alloc (.cells #[.slice PX1 l1.length qX1, .slice KX1 m1.length rX1] 69)) := (Below.refl _ _).alloc (Nat.le_refl _) _
  have s14 : w12.heap.size ≤ (w12.alloc (.cells #[.slice PX1 l1.length qX1, .slice KX1 m1.length rX1] 69)).heap.size := hbx.size
  have NX0_14 := Lib.hid (NX0_13.out.alike (w' := (w12.alloc (.cells #[.slice PX1 l1.length qX1, .slice KX1 m1.length rX1] 69))) fun bb hbb => hbx.block bb (NX0_13.out.lt bb hbb))
  have SOX1_14 := Lib.hid (SO1.out.below hbx)
  have HC14 := Lib.hid (HC13.out.trans (hbx.mono HC13.out.size))
  have KBX1 := Lib.hid (heap_alloc_new w12 (.cells #[.slice PX1 l1.length qX1, .slice KX1 m1.length rX1] 69))
  clear hbx NX0_13 SO1 HC13
  have lt_X1 : w12.heap.size < (w12.alloc (.cells #[.slice PX1 l1.length qX1, .slice KX1 m1.length rX1] 69)).heap.size := by simp
  have hsp := holdsFor_sol_impl l0 l1 m1 _ _ (w12.alloc (.cells #[.slice PX1 l1.length qX1, .slice KX1 m1.length rX1] 69)) (ownREquations_in NX0_14.out) (SOX1_14.out) HL0.out HN0.out HL1.out HN1.out HM1.out
  rw [HFL.out] at hsp
  obtain ⟨x10, x11⟩ := SolK.row2 KBX1.out
  go_wp2_with fail
  refine hsp.mono ?_
  rintro e w15 ⟨rfl, hb⟩
  have s16 : (w12.alloc (.cells #[.slice PX1 l1.length qX1, .slice KX1 m1.length rX1] 69)).heap.size ≤ w15.heap.size := hb.size
  have KBX1_16 := Lib.hid ((hb.block _ (Args4.box_lt KBX1.out)).trans KBX1.out)
  have NX0_16 := Lib.hid (NX0_14.out.alike (w' := w15) fun bb hbb => hb.block bb (NX0_14.out.lt bb hbb))
  have SOX1_16 := Lib.hid (SOX1_14.out.below hb)
  have HC16 := Lib.hid (HC14.out.trans (hb.mono HC14.out.size))
  clear hb KBX1 NX0_14 SOX1_14 HC14
  clear hsp x10 x11
  have hto := toEquationS_any l0 HF0.out HL0.out w15 _ (HI0.out w15 HC16.out)
  go_wp2_with fail
  refine hto.mono ?_
  rintro e w17 ⟨vv, SS, rfl, hL, _, hb⟩
  have s18 : w15.heap.size ≤ w17.heap.size := hb.size
  have KBX1_18 := Lib.hid ((hb.block _ (Args4.box_lt KBX1_16.out)).trans KBX1_16.out)
  have NX0_18 := Lib.hid (NX0_16.out.alike (w' := w17) fun bb hbb => hb.block bb (NX0_16.out.lt bb hbb))
  have SOX1_18 := Lib.hid (SOX1_16.out.below hb)
  have HC18 := Lib.hid (HC16.out.trans (hb.mono HC16.out.size))
  have heq := eqEquationS_any l0 HF0.out HL0.out w17 _ _ (ownREquations_in NX0_18.out) (ownREquations_in hL)
  clear hto hb hL KBX1_16 NX0_16 SOX1_16 HC16
  go_wp2_with fail
  refine heq.mono ?_
  rintro e w19 ⟨rfl, hb⟩
  have s20 : w17.heap.size ≤ w19.heap.size := hb.size
  have KBX1_20 := Lib.hid ((hb.block _ (Args4.box_lt KBX1_18.out)).trans KBX1_18.out)
  have NX0_20 := Lib.hid (NX0_18.out.alike (w' := w19) fun bb hbb => hb.block bb (NX0_18.out.lt bb hbb))
  have SOX1_20 := Lib.hid (SOX1_18.out.below hb)
  have HC20 := Lib.hid (HC18.out.trans (hb.mono HC18.out.size))
  clear heq hb KBX1_18 NX0_18 SOX1_18 HC18
  have hdw : Below w19.heap.size w19 w19.drew := ⟨rfl, rfl, rfl, Nat.le_refl _, fun _ _ => rfl⟩
  have s21 : w19.heap.size ≤ w19.drew.heap.size := hdw.size
  have KBX1_21 := Lib.hid ((hdw.block _ (Args4.box_lt KBX1_20.out)).trans KBX1_20.out)
  have NX0_21 := Lib.hid (NX0_20.out.alike (w' := w19.drew) fun bb hbb => hdw.block bb (NX0_20.out.lt bb hbb))
  have SOX1_21 := Lib.hid (SOX1_20.out.below hdw)
  have HC21 := Lib.hid (HC20.out.trans (hdw.mono HC20.out.size))
  clear hdw KBX1_20 NX0_20 SOX1_20 HC20
  have HS := HC21
  have HX := KBX1_21
  obtain ⟨b0, b1⟩ := HB1.out w19.drew HC21.out
  obtain ⟨x0, x1⟩ := SolK.row2 KBX1_21.out
  have hxx := SOX1_21.out
  have hto := toSolution_any l1 m1 HF1.out HL1.out HM1.out w19.drew _ (HI1.out w19.drew HS.out)
  go_wp2
  go_region_held3 (fun w' => w'.cell? ⟨w.heap.size, 0, none⟩ = some (.slice A1 l1.length c1) ∧ w'.cell? ⟨w.heap.size, 1, none⟩ = some (.slice B1 m1.length d1) ∧ w'.cell? ⟨w12.heap.size, 0, none⟩ = some (.slice PX1 l1.length qX1) ∧ w'.cell? ⟨w12.heap.size, 1, none⟩ = some (.slice KX1 m1.length rX1))
    (first | (with_reducible exact ⟨by assumption, by assumption, by assumption, by assumption⟩) | ((try dsimp only); exact ⟨by assumption, by assumption, by assumption, by assumption⟩) | go_keep)
    (first
      | (go_at_call 43; refine hto.mono ?_; rintro e w22 ⟨PZ, qZ, KZ, rZ, rfl, hzz, hb1⟩; have hc1 := HS.out.trans (hb1.mono HS.out.size); have hyy := hxx.below hb1; obtain ⟨e0, e1⟩ := HB1.out w22 hc1; obtain ⟨e2, e3⟩ := SolK.row2 (((hb1).block _ (Args4.box_lt HX.out)).trans HX.out))
      | (go_at_call 46; refine (eqSolution_any l1 m1 HF1.out HL1.out HM1.out _ _ _ hyy hzz).mono ?_; rintro e w23 ⟨rfl, hb2⟩; have hbz := hb1.trans (hb2.mono hb1.size); have hc2 := HS.out.trans (hbz.mono HS.out.size); obtain ⟨g0, g1⟩ := HB1.out w23 hc2; obtain ⟨g2, g3⟩ := SolK.row2 (((hbz).block _ (Args4.box_lt HX.out)).trans HX.out))
      | fail)
  have s24 : w19.drew.heap.size ≤ w23.heap.size := hbz.size
  have KBX1_24 := Lib.hid ((hbz.block _ (Args4.box_lt KBX1_21.out)).trans KBX1_21.out)
  have NX0_24 := Lib.hid (NX0_21.out.alike (w' := w23) fun bb hbb => hbz.block bb (NX0_21.out.lt bb hbb))
  have SOX1_24 := Lib.hid (SOX1_21.out.below hbz)
  have HC24 := Lib.hid (HC21.out.trans (hbz.mono HC21.out.size))
  clear hbz hb1 hb2 hc1 hc2 hzz hyy hxx hto HS HX b0 b1 x0 x1 e0 e1 e2 e3 g0 g1 g2 g3 KBX1_21 NX0_21 SOX1_21 HC21
  have hfin := HW0.out.trans (HC24.out.mono HW0.out.size)
  go_wp2
  go_ret
  exact ⟨rfl, hfin⟩

theorem walk (w : World) (A0 : Option Addr) (c0 : Nat) (l0 : List REquation) (hA0 : REquationsIn w (.slice A0 l0.length c0) l0) (hs0 : ShortREquations l0) (hm0 : l0.length ≤ maxLen) (x1 : Value) (l1 : List RBinding) (m1 : List (Int × Int)) (hx1 : SolIn w x1 l1 m1) (hs1 : ShortSol l1 m1) :
    Calls Tryz.prog 10 #[.slice A0 l0.length c0, x1] w fun e w' => e = .returned (.bool true) ∧ Below w.heap.size w w' := by
  by_cases hn0 : ((l0.length + sumREquation l0 : Nat) : Int) ≤ 1048576
  · skip
    by_cases hn1 : ((l1.length + sumRBinding l1 + m1.length : Nat) : Int) ≤ 1048576 - ((l0.length + sumREquation l0 : Nat) : Int)
    · skip
      exact walk_yes w A0 c0 l0 hA0 hs0 hm0 x1 l1 m1 hx1 hs1 hn0 hn1
    · exact walk_no1 w A0 c0 l0 hA0 hs0 hm0 x1 l1 m1 hx1 hs1 hn0 hn1
  · exact walk_no0 w A0 c0 l0 hA0 hs0 hm0 x1 l1 m1 hx1 hs1 hn0

set_option maxRecDepth 100000 in
theorem lifted (os : Os) (started : os.Started) (H : Type) (enc : TypeId × Value → H) :
    ReturnsInHanded {} Tryz.checked os 10 .any (Rows.fnExactHoldsForSpec.pre6 enc Tryz.prog Tryz.f10 Rows.fnExactHoldsForRow.domain false) (Rows.fnExactHoldsForSpec.post enc Tryz.prog Tryz.f10 false true false false) := by
  refine returnsInHanded_of_change (C := Tryz.checked) own started (by kernel_rfl) Tryz.func10
    (ChangeSpec.witness6 (enc := enc) (C := Tryz.checked) false ⟨#[], #[.slice none 0 0, .agg #[.slice none 0 0, .slice none 0 0]], []⟩ 8 (by kernel_rfl) (by kernel_rfl) (by kernel_rfl) (by kernel_rfl)) ?_
  intro W base args ds gs before hval0 hW hcnd _
  have hval : ∀ (j : Nat) t v, Tryz.f10.params[j]? = some t → args[j]? = some v → Value.okWide Tryz.prog W .any base t v := hval0
  have hW' := hW
  obtain ⟨p, q, hA0, hV, rfl, hfz, hnd⟩ := hW
  have hA : DataW.TrodAll enc Tryz.prog W 0 (fun _ => true) true Tryz.f10.params.toList args.toList ds p := hA0
  rw [Tryz.params10] at hA hval
  obtain ⟨v0, vs0, d0, ds0, p0, q0, hargs, rfl, rfl, h0, r0⟩ := trodAll_cons hA
  obtain ⟨v1, vs1, d1, ds1, p1, q1, rfl, rfl, rfl, h1, r1⟩ := trodAll_cons r0
  obtain ⟨rfl, rfl, rfl⟩ := trodAll_nil r1
  obtain rfl : args = #[v0, v1] := by cases args; simp_all
  obtain ⟨rfl, rfl⟩ := trodVars_none hV
  have k0 := h0
  have lt0 : ∀ x ∈ p0, x.block < W.heap.size := by obtain ⟨m, hm⟩ := k0; exact DataW.trod_lt m _ _ _ hm
  have k1 := h1
  have lt1 : ∀ x ∈ p1, x.block < W.heap.size := by obtain ⟨m, hm⟩ := k1; exact DataW.trod_lt m _ _ _ hm
  obtain ⟨A0, n0, c0, rfl⟩ := okWide_slice Tryz.underlying60 (hval 0 60 v0 rfl rfl)
  obtain ⟨l0, rfl, w0, s0, m0⟩ := open_equations h0
  obtain ⟨l1, m1, tx1, ts1⟩ := open_solution (hval 1 62 v1 rfl rfl) h1
  clear hA0 hval0
  refine (walk W A0 c0 l0 w0 s0 m0 v1 l1 m1 tx1 ts1).mono fun e W' ⟨he, bel⟩ => ?_
  subst he
  exact ⟨_, rfl, _, _, _, [], _, [], hW', trodAll_mk1 (shut_bool Tryz.underlying4 _), (trodAll_cons_mk (Below.trod laidOut (by kernel_rfl) (of_decide_eq_true (by kernel_rfl)) k0 bel lt0) (trodAll_cons_mk (Below.trod laidOut (by kernel_rfl) (of_decide_eq_true (by kernel_rfl)) k1 bel lt1) trodAll_mk0)), rfl, bel.frame _, fun h => by cases h⟩

theorem over : Rows.fnExactHoldsForRow.holds Tryz.pinned (OpenSpec.ofChange Rows.fnExactHoldsForSpec) :=
  OpenClaim.holds_of_wide 10 Tryz.f10 rfl rfl rfl rfl rfl rfl rfl ⟨rfl, rfl, rfl, rfl, rfl⟩ rfl rfl rfl rfl rfl (by kernel_rfl) Tryz.func10 (by kernel_rfl)
    (of_decide_eq_true (by kernel_rfl)) (by unfold Func.isWrapper; first | (rw [if_pos (by decide +kernel)]; kernel_rfl) | (rw [if_neg (by decide +kernel)]; exact ⟨rfl, rfl⟩))
    (fun os started H enc _ => lifted os started H enc)

theorem proved : Rows.FnExactHoldsForSaid := over
#print axioms proved
end Go.Proofs.YtbfkfklaplgebaaGreat.fnExactHoldsFor
