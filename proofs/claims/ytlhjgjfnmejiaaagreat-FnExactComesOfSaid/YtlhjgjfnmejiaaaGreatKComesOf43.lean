/-
  The law FnExactComesOf returns true for every two values: the program decides as the model whether a substitution comes of a solution, and leaves its arguments as they were. No condition.
-/
import Derived.Test.YtlhjgjfnmejiaaaGreatKComesOf11
import Derived.Test.YtlhjgjfnmejiaaaGreatKComesOf10
import Derived.Test.YtlhjgjfnmejiaaaGreatKComesOf19
import Derived.Test.YtlhjgjfnmejiaaaGreatKComesOf38
import Derived.Test.YtlhjgjfnmejiaaaGreatKComesOf42
import Derived.Test.YtlhjgjfnmejiaaaGreatKComesOf8
namespace Go.Proofs.YtlhjgjfnmejiaaaGreat.fnExactComesOf
open Go.ChangeShapes Go.WideShapes Go.ChangeAt Go.RowKit
set_option linter.unusedVariables false

namespace Args4
theorem box_lt {w : World} {g : Nat} {o : Obj} (h : w.heap[g]? = some o) : g < w.heap.size := (Array.getElem?_eq_some_iff.1 h).1
theorem row4 {w : World} {g : Nat} {a b c d : Value} {T : TypeId} (h : w.heap[g]? = some (.cells #[a, b, c, d] T (0, 0))) : w.cell? ⟨g, 0, none⟩ = some a ∧ w.cell? ⟨g, 1, none⟩ = some b ∧ w.cell? ⟨g, 2, none⟩ = some c ∧ w.cell? ⟨g, 3, none⟩ = some d := by
  refine ⟨?_, ?_, ?_, ?_⟩ <;> rw [cell_of_row w g _ _ _ _ h] <;> rfl
end Args4
theorem pairsAt_of {w : World} {base n : Nat} {e : TypeId} {B : Option Addr} {d : Nat} {l : List (Int × Int)} (h : w.ownsRow base e 2 (.slice B n d) l.length (cellsOf l)) : PairsAt w B l := by
  obtain ⟨A, c, ee, hp⟩ := own_pairsAt h
  injection ee with e1 e2 e3
  subst e1
  exact hp

set_option maxRecDepth 100000 in
set_option maxHeartbeats 16000000 in
theorem walk_no0 (w : World) (x0 : Value) (l0 : List RBinding) (m0 : List (Int × Int)) (hx0 : SolIn w x0 l0 m0) (hs0 : ShortSol l0 m0) (A1 : Option Addr) (c1 : Nat) (l1 : List RBinding) (hA1 : RBindingsIn w (.slice A1 l1.length c1) l1) (hs1 : ShortRBindings l1) (hm1 : l1.length ≤ maxLen) (hn0 : ¬ ((l0.length + sumRBinding l0 + m0.length : Nat) : Int) ≤ 1048576) :
    Calls Tryz.prog 3 #[x0, .slice A1 l1.length c1] w fun e w' => e = .returned (.bool true) ∧ Below w.heap.size w w' := by
  obtain ⟨A0, c0, B0, d0, rfl, hp0, hk0⟩ := hx0
  have hb0 : Below w.heap.size w (w.alloc (.cells #[.slice A0 l0.length c0, .slice B0 m0.length d0] 25)) := ((Below.refl _ w).alloc (by first | exact Nat.le_refl _ | (simp; done) | (simp; omega)) _)
  have HI0 : Hid (∀ w' : World, Below (w.alloc (.cells #[.slice A0 l0.length c0, .slice B0 m0.length d0] 25)).heap.size (w.alloc (.cells #[.slice A0 l0.length c0, .slice B0 m0.length d0] 25)) w' → SolIn w' (.agg #[.slice A0 l0.length c0, .slice B0 m0.length d0]) l0 m0) := Lib.hid (fun w' h => ⟨A0, c0, B0, d0, rfl, hp0.below (hb0.trans (h.mono hb0.size)), hk0.below (hb0.trans (h.mono hb0.size))⟩)
  have HI1 : Hid (∀ w' : World, Below (w.alloc (.cells #[.slice A0 l0.length c0, .slice B0 m0.length d0] 25)).heap.size (w.alloc (.cells #[.slice A0 l0.length c0, .slice B0 m0.length d0] 25)) w' → RBindingsIn w' (.slice A1 l1.length c1) l1) := Lib.hid (fun w' h => hA1.below (hb0.trans (h.mono hb0.size)))
  have kk0 : (w.alloc (.cells #[.slice A0 l0.length c0, .slice B0 m0.length d0] 25)).heap[w.heap.size]? = some (.cells #[.slice A0 l0.length c0, .slice B0 m0.length d0] 25 (0, 0)) := by
    have h := heap_alloc_new w (.cells #[.slice A0 l0.length c0, .slice B0 m0.length d0] 25)
    exact h
  obtain ⟨b00, b01⟩ := SolK.row2 kk0
  have lt0 : w.heap.size < (w.alloc (.cells #[.slice A0 l0.length c0, .slice B0 m0.length d0] 25)).heap.size := by first | (simp; done) | (simp; omega)
  have HB0 : Hid (∀ w' : World, Below (w.alloc (.cells #[.slice A0 l0.length c0, .slice B0 m0.length d0] 25)).heap.size (w.alloc (.cells #[.slice A0 l0.length c0, .slice B0 m0.length d0] 25)) w' → w'.cell? ⟨w.heap.size, 0, none⟩ = some (.slice A0 l0.length c0) ∧ w'.cell? ⟨w.heap.size, 1, none⟩ = some (.slice B0 m0.length d0)) := Lib.hid (fun w' h => ⟨(h.cell (p := ⟨w.heap.size, 0, none⟩) lt0).trans b00, (h.cell (p := ⟨w.heap.size, 1, none⟩) lt0).trans b01⟩)
  clear hp0 hk0 kk0 lt0 hA1
  have HC0 : Hid (Below (w.alloc (.cells #[.slice A0 l0.length c0, .slice B0 m0.length d0] 25)).heap.size (w.alloc (.cells #[.slice A0 l0.length c0, .slice B0 m0.length d0] 25)) (w.alloc (.cells #[.slice A0 l0.length c0, .slice B0 m0.length d0] 25))) := Lib.hid (Below.refl _ _)
  have HW0 := Lib.hid hb0
  clear hb0
  go_enter Tryz.func3, Tryz.ntmps3
  have hsz := szSolution_any l0 m0 hs0 (1048576) (w.alloc (.cells #[.slice A0 l0.length c0, .slice B0 m0.length d0] 25)) _ (by omega) (by omega) (HI0.out (w.alloc (.cells #[.slice A0 l0.length c0, .slice B0 m0.length d0] 25)) HC0.out)
  unfold LeftPost at hsz
  rw [leftR_no (by omega)] at hsz
  go_wp2_with fail
  refine hsz.mono ?_
  rintro e u1 ⟨rfl, hb⟩
  clear hsz b00 b01
  have s2 : (w.alloc (.cells #[.slice A0 l0.length c0, .slice B0 m0.length d0] 25)).heap.size ≤ u1.heap.size := hb.size
  have HC2 := Lib.hid (HC0.out.trans (hb.mono HC0.out.size))
  clear hb HC0
  have hfin := HW0.out.trans (HC2.out.mono HW0.out.size)
  go_wp2
  go_ret
  exact ⟨rfl, hfin⟩

set_option maxRecDepth 100000 in
set_option maxHeartbeats 16000000 in
theorem walk_no1 (w : World) (x0 : Value) (l0 : List RBinding) (m0 : List (Int × Int)) (hx0 : SolIn w x0 l0 m0) (hs0 : ShortSol l0 m0) (A1 : Option Addr) (c1 : Nat) (l1 : List RBinding) (hA1 : RBindingsIn w (.slice A1 l1.length c1) l1) (hs1 : ShortRBindings l1) (hm1 : l1.length ≤ maxLen) (hn0 : ((l0.length + sumRBinding l0 + m0.length : Nat) : Int) ≤ 1048576) (hn1 : ¬ ((l1.length + sumRBinding l1 : Nat) : Int) ≤ 1048576 - ((l0.length + sumRBinding l0 + m0.length : Nat) : Int)) :
    Calls Tryz.prog 3 #[x0, .slice A1 l1.length c1] w fun e w' => e = .returned (.bool true) ∧ Below w.heap.size w w' := by
  obtain ⟨A0, c0, B0, d0, rfl, hp0, hk0⟩ := hx0
  have hb0 : Below w.heap.size w (w.alloc (.cells #[.slice A0 l0.length c0, .slice B0 m0.length d0] 25)) := ((Below.refl _ w).alloc (by first | exact Nat.le_refl _ | (simp; done) | (simp; omega)) _)
  have HI0 : Hid (∀ w' : World, Below (w.alloc (.cells #[.slice A0 l0.length c0, .slice B0 m0.length d0] 25)).heap.size (w.alloc (.cells #[.slice A0 l0.length c0, .slice B0 m0.length d0] 25)) w' → SolIn w' (.agg #[.slice A0 l0.length c0, .slice B0 m0.length d0]) l0 m0) := Lib.hid (fun w' h => ⟨A0, c0, B0, d0, rfl, hp0.below (hb0.trans (h.mono hb0.size)), hk0.below (hb0.trans (h.mono hb0.size))⟩)
  have HI1 : Hid (∀ w' : World, Below (w.alloc (.cells #[.slice A0 l0.length c0, .slice B0 m0.length d0] 25)).heap.size (w.alloc (.cells #[.slice A0 l0.length c0, .slice B0 m0.length d0] 25)) w' → RBindingsIn w' (.slice A1 l1.length c1) l1) := Lib.hid (fun w' h => hA1.below (hb0.trans (h.mono hb0.size)))
  have kk0 : (w.alloc (.cells #[.slice A0 l0.length c0, .slice B0 m0.length d0] 25)).heap[w.heap.size]? = some (.cells #[.slice A0 l0.length c0, .slice B0 m0.length d0] 25 (0, 0)) := by
    have h := heap_alloc_new w (.cells #[.slice A0 l0.length c0, .slice B0 m0.length d0] 25)
    exact h
  obtain ⟨b00, b01⟩ := SolK.row2 kk0
  have lt0 : w.heap.size < (w.alloc (.cells #[.slice A0 l0.length c0, .slice B0 m0.length d0] 25)).heap.size := by first | (simp; done) | (simp; omega)
  have HB0 : Hid (∀ w' : World, Below (w.alloc (.cells #[.slice A0 l0.length c0, .slice B0 m0.length d0] 25)).heap.size (w.alloc (.cells #[.slice A0 l0.length c0, .slice B0 m0.length d0] 25)) w' → w'.cell? ⟨w.heap.size, 0, none⟩ = some (.slice A0 l0.length c0) ∧ w'.cell? ⟨w.heap.size, 1, none⟩ = some (.slice B0 m0.length d0)) := Lib.hid (fun w' h => ⟨(h.cell (p := ⟨w.heap.size, 0, none⟩) lt0).trans b00, (h.cell (p := ⟨w.heap.size, 1, none⟩) lt0).trans b01⟩)
  clear hp0 hk0 kk0 lt0 hA1
  have HC0 : Hid (Below (w.alloc (.cells #[.slice A0 l0.length c0, .slice B0 m0.length d0] 25)).heap.size (w.alloc (.cells #[.slice A0 l0.length c0, .slice B0 m0.length d0] 25)) (w.alloc (.cells #[.slice A0 l0.length c0, .slice B0 m0.length d0] 25))) := Lib.hid (Below.refl _ _)
  have HW0 := Lib.hid hb0
  clear hb0
  go_enter Tryz.func3, Tryz.ntmps3
  have hsz := szSolution_any l0 m0 hs0 (1048576) (w.alloc (.cells #[.slice A0 l0.length c0, .slice B0 m0.length d0] 25)) _ (by omega) (by omega) (HI0.out (w.alloc (.cells #[.slice A0 l0.length c0, .slice B0 m0.length d0] 25)) HC0.out)
  unfold LeftPost at hsz
  rw [leftR_yes hn0] at hsz
  have hleft0 : ¬ 1048576 - ((l0.length + sumRBinding l0 + m0.length : Nat) : Int) < 0 := by omega
  go_wp2_with fail
  refine hsz.mono ?_
  rintro e u1 ⟨rfl, hb⟩
  clear hsz b00 b01
  have s2 : (w.alloc (.cells #[.slice A0 l0.length c0, .slice B0 m0.length d0] 25)).heap.size ≤ u1.heap.size := hb.size
  have HC2 := Lib.hid (HC0.out.trans (hb.mono HC0.out.size))
  clear hb HC0
  have hsz := szBindingS_any l1 hs1 hm1 (1048576 - ((l0.length + sumRBinding l0 + m0.length : Nat) : Int)) u1 _ (by omega) (by omega) (HI1.out u1 HC2.out)
  unfold LeftPost at hsz
  rw [leftR_no (by omega)] at hsz
  go_wp2_with fail
  refine hsz.mono ?_
  rintro e u3 ⟨rfl, hb⟩
  clear hsz
  have s4 : u1.heap.size ≤ u3.heap.size := hb.size
  have HC4 := Lib.hid (HC2.out.trans (hb.mono HC2.out.size))
  clear hb HC2
  have hfin := HW0.out.trans (HC4.out.mono HW0.out.size)
  go_wp2
  go_ret
  exact ⟨rfl, hfin⟩

set_option maxRecDepth 100000 in
set_option maxHeartbeats 16000000 in
theorem walk_yes (w : World) (x0 : Value) (l0 : List RBinding) (m0 : List (Int × Int)) (hx0 : SolIn w x0 l0 m0) (hs0 : ShortSol l0 m0) (A1 : Option Addr) (c1 : Nat) (l1 : List RBinding) (hA1 : RBindingsIn w (.slice A1 l1.length c1) l1) (hs1 : ShortRBindings l1) (hm1 : l1.length ≤ maxLen) (hn0 : ((l0.length + sumRBinding l0 + m0.length : Nat) : Int) ≤ 1048576) (hn1 : ((l1.length + sumRBinding l1 : Nat) : Int) ≤ 1048576 - ((l0.length + sumRBinding l0 + m0.length : Nat) : Int)) :
    Calls Tryz.prog 3 #[x0, .slice A1 l1.length c1] w fun e w' => e = .returned (.bool true) ∧ Below w.heap.size w w' := by
  have HL0 : Hid (l0.length ≤ 1048576) := Lib.hid (by omega)
  have HM0 : Hid (m0.length ≤ 1048576) := Lib.hid (by omega)
  have HN0 : Hid (∀ k, k < l0.length → cntRBinding (atRBinding l0 k) ≤ 1048576) := Lib.hid (fun k hk => by have := cntRBinding_le hk; omega)
  have HF0 : Hid (FitRBindings l0) := Lib.hid (fun k hk => fit_of _ (HN0.out k hk))
  have HL1 : Hid (l1.length ≤ 1048576) := Lib.hid (by omega)
  have HN1 : Hid (∀ k, k < l1.length → cntRBinding (atRBinding l1 k) ≤ 1048576) := Lib.hid (fun k hk => by have := cntRBinding_le hk; omega)
  have HF1 : Hid (FitRBindings l1) := Lib.hid (fun k hk => fit_of _ (HN1.out k hk))
  generalize hFF : comB l0 m0 l1 = fl
  have HFL := Lib.hid hFF
  have hfl : (fl != fl) = false := by simp
  clear hFF
  obtain ⟨A0, c0, B0, d0, rfl, hp0, hk0⟩ := hx0
  have hb0 : Below w.heap.size w (w.alloc (.cells #[.slice A0 l0.length c0, .slice B0 m0.length d0] 25)) := ((Below.refl _ w).alloc (by first | exact Nat.le_refl _ | (simp; done) | (simp; omega)) _)
  have HI0 : Hid (∀ w' : World, Below (w.alloc (.cells #[.slice A0 l0.length c0, .slice B0 m0.length d0] 25)).heap.size (w.alloc (.cells #[.slice A0 l0.length c0, .slice B0 m0.length d0] 25)) w' → SolIn w' (.agg #[.slice A0 l0.length c0, .slice B0 m0.length d0]) l0 m0) := Lib.hid (fun w' h => ⟨A0, c0, B0, d0, rfl, hp0.below (hb0.trans (h.mono hb0.size)), hk0.below (hb0.trans (h.mono hb0.size))⟩)
  have HI1 : Hid (∀ w' : World, Below (w.alloc (.cells #[.slice A0 l0.length c0, .slice B0 m0.length d0] 25)).heap.size (w.alloc (.cells #[.slice A0 l0.length c0, .slice B0 m0.length d0] 25)) w' → RBindingsIn w' (.slice A1 l1.length c1) l1) := Lib.hid (fun w' h => hA1.below (hb0.trans (h.mono hb0.size)))
  have kk0 : (w.alloc (.cells #[.slice A0 l0.length c0, .slice B0 m0.length d0] 25)).heap[w.heap.size]? = some (.cells #[.slice A0 l0.length c0, .slice B0 m0.length d0] 25 (0, 0)) := by
    have h := heap_alloc_new w (.cells #[.slice A0 l0.length c0, .slice B0 m0.length d0] 25)
    exact h
  obtain ⟨b00, b01⟩ := SolK.row2 kk0
  have lt0 : w.heap.size < (w.alloc (.cells #[.slice A0 l0.length c0, .slice B0 m0.length d0] 25)).heap.size := by first | (simp; done) | (simp; omega)
  have HB0 : Hid (∀ w' : World, Below (w.alloc (.cells #[.slice A0 l0.length c0, .slice B0 m0.length d0] 25)).heap.size (w.alloc (.cells #[.slice A0 l0.length c0, .slice B0 m0.length d0] 25)) w' → w'.cell? ⟨w.heap.size, 0, none⟩ = some (.slice A0 l0.length c0) ∧ w'.cell? ⟨w.heap.size, 1, none⟩ = some (.slice B0 m0.length d0)) := Lib.hid (fun w' h => ⟨(h.cell (p := ⟨w.heap.size, 0, none⟩) lt0).trans b00, (h.cell (p := ⟨w.heap.size, 1, none⟩) lt0).trans b01⟩)
  clear hp0 hk0 kk0 lt0 hA1
  have HC0 : Hid (Below (w.alloc (.cells #[.slice A0 l0.length c0, .slice B0 m0.length d0] 25)).heap.size (w.alloc (.cells #[.slice A0 l0.length c0, .slice B0 m0.length d0] 25)) (w.alloc (.cells #[.slice A0 l0.length c0, .slice B0 m0.length d0] 25))) := Lib.hid (Below.refl _ _)
  have HW0 := Lib.hid hb0
  clear hb0
  go_enter Tryz.func3, Tryz.ntmps3
  have hsz := szSolution_any l0 m0 hs0 (1048576) (w.alloc (.cells #[.slice A0 l0.length c0, .slice B0 m0.length d0] 25)) _ (by omega) (by omega) (HI0.out (w.alloc (.cells #[.slice A0 l0.length c0, .slice B0 m0.length d0] 25)) HC0.out)
  unfold LeftPost at hsz
  rw [leftR_yes hn0] at hsz
  have hleft0 : ¬ 1048576 - ((l0.length + sumRBinding l0 + m0.length : Nat) : Int) < 0 := by omega
  go_wp2_with fail
  refine hsz.mono ?_
  rintro e u1 ⟨rfl, hb⟩
  clear hsz b00 b01
  have s2 : (w.alloc (.cells #[.slice A0 l0.length c0, .slice B0 m0.length d0] 25)).heap.size ≤ u1.heap.size := hb.size
  have HC2 := Lib.hid (HC0.out.trans (hb.mono HC0.out.size))
  clear hb HC0
  have hsz := szBindingS_any l1 hs1 hm1 (1048576 - ((l0.length + sumRBinding l0 + m0.length : Nat) : Int)) u1 _ (by omega) (by omega) (HI1.out u1 HC2.out)
  unfold LeftPost at hsz
  rw [leftR_yes hn1] at hsz
  have hleft1 : ¬ 1048576 - ((l0.length + sumRBinding l0 + m0.length : Nat) : Int) - ((l1.length + sumRBinding l1 : Nat) : Int) < 0 := by omega
  go_wp2_with fail
  refine hsz.mono ?_
  rintro e u3 ⟨rfl, hb⟩
  clear hsz
  have s4 : u1.heap.size ≤ u3.heap.size := hb.size
  have HC4 := Lib.hid (HC2.out.trans (hb.mono HC2.out.size))
  clear hb HC2
  have HZ : Hid ((w.alloc (.cells #[.slice A0 l0.length c0, .slice B0 m0.length d0] 25)).heap.size ≤ u3.heap.size) := Lib.hid HC4.out.size
  obtain ⟨b0, b1⟩ := HB0.out u3 HC4.out
  have hto := toSolution_any l0 m0 HF0.out HL0.out HM0.out u3 _ (HI0.out u3 HC4.out)
  go_wp2_with fail
  (with_reducible refine hto.mono ?_)
  rintro e w5 ⟨v0, q0, K0, r0, rfl, hin0, hb⟩
  have s6 : u3.heap.size ≤ w5.heap.size := hb.size
  have HC6 := Lib.hid (HC4.out.trans (hb.mono HC4.out.size))
  clear hto hb b0 b1 HC4
  have hto := toBindingS_any l1 HF1.out HL1.out w5 _ (HI1.out w5 HC6.out)
  go_wp2_with fail
  (with_reducible refine hto.mono ?_)
  rintro e w7 ⟨v1, S1, rfl, hL1, _, hb⟩
  have hin1 := ownRBindings_in hL1
  replace hin0 := hin0.below hb
  have s8 : w5.heap.size ≤ w7.heap.size := hb.size
  have HC8 := Lib.hid (HC6.out.trans (hb.mono HC6.out.size))
  clear hto hb hL1 HC6
  have hsp := comesOf_spec l0 l1 m0 _ _ w7 hin0 hin1 HL0.out HN0.out HM0.out HL1.out HN1.out
  rw [HFL.out] at hsp
  clear hin0 hin1
  go_wp2_with fail
  (with_reducible refine hsp.mono ?_)
  rintro e w9 ⟨rfl, hb⟩
  have s10 : w7.heap.size ≤ w9.heap.size := hb.size
  have HC10 := Lib.hid (HC8.out.trans (hb.mono HC8.out.size))
  clear hb HC8
  clear hsp
  obtain ⟨b0, b1⟩ := HB0.out w9 HC10.out
  have hto := toSolution_any l0 m0 HF0.out HL0.out HM0.out w9 _ (HI0.out w9 HC10.out)
  go_wp2_with fail
  refine hto.mono ?_
  rintro e w11 ⟨PX0, qX0, KX0, rX0, rfl, hin, hb⟩
  have s12 : w9.heap.size ≤ w11.heap.size := hb.size
  have HC12 := Lib.hid (HC10.out.trans (hb.mono HC10.out.size))
  have SO0 := Lib.hid hin
  clear hto hb hin b0 b1 HC10
  have hbx : Below w11.heap.size w11 (w11.alloc (.cells #[.slice PX0 l0.length qX0, .slice KX0 m0.length rX0] 32)) := (Below.refl _ _).alloc (Nat.le_refl _) _
  have s13 : w11.heap.size ≤ (w11.alloc (.cells #[.slice PX0 l0.length qX0, .slice KX0 m0.length rX0] 32)).heap.size := hbx.size
  have SOX0_13 := Lib.hid (SO0.out.below hbx)
  have HC13 := Lib.hid (HC12.out.trans (hbx.mono HC12.out.size))
  have KBX0 := Lib.hid (heap_alloc_new w11 (.cells #[.slice PX0 l0.length qX0, .slice KX0 m0.length rX0] 32))
  clear hbx SO0 HC12
  have lt_X0 : w11.heap.size < (w11.alloc (.cells #[.slice PX0 l0.length qX0, .slice KX0 m0.length rX0] 32)).heap.size := by simp
  have hto := toBindingS_any l1 HF1.out HL1.out (w11.alloc (.cells #[.slice PX0 l0.length qX0, .slice KX0 m0.length rX0] 32)) _ (HI1.out (w11.alloc (.cells #[.slice PX0 l0.length qX0, .slice KX0 m0.length rX0] 32)) HC13.out)
  go_wp2_with fail
  refine hto.mono ?_
  rintro e w14 ⟨vX1, SX1, rfl, hL, hS, hb⟩
  have s15 : (w11.alloc (.cells #[.slice PX0 l0.length qX0, .slice KX0 m0.length rX0] 32)).heap.size ≤ w14.heap.size := hb.size
  have KBX0_15 := Lib.hid ((hb.block _ (Args4.box_lt KBX0.out)).trans KBX0.out)
  have SOX0_15 := Lib.hid (SOX0_13.out.below hb)
  have HC15 := Lib.hid (HC13.out.trans (hb.mono HC13.out.size))
  have HTX1 : Hid (∀ b ∈ SX1, (w11.alloc (.cells #[.slice PX0 l0.length qX0, .slice KX0 m0.length rX0] 32)).heap.size ≤ b ∧ b < w14.heap.size) := Lib.hid (fun b hb => ⟨hS b hb, hL.lt b hb⟩)
  have NX1 := Lib.hid hL
  clear hto hb hS KBX0 SOX0_13 HC13 hL
  have hsp := comesOf_impl l0 l1 m0 _ _ w14 (SOX0_15.out) (ownRBindings_in NX1.out) HL0.out HN0.out HM0.out HL1.out HN1.out
  rw [HFL.out] at hsp
  obtain ⟨x00, x01⟩ := SolK.row2 KBX0_15.out
  go_wp2_with fail
  refine hsp.mono ?_
  rintro e w16 ⟨rfl, hb⟩
  have s17 : w14.heap.size ≤ w16.heap.size := hb.size
  have KBX0_17 := Lib.hid ((hb.block _ (Args4.box_lt KBX0_15.out)).trans KBX0_15.out)
  have NX1_17 := Lib.hid (NX1.out.alike (w' := w16) fun bb hbb => hb.block bb (NX1.out.lt bb hbb))
  have SOX0_17 := Lib.hid (SOX0_15.out.below hb)
  have HC17 := Lib.hid (HC15.out.trans (hb.mono HC15.out.size))
  clear hb KBX0_15 NX1 SOX0_15 HC15
  clear hsp x00 x01
  have hdw : Below w16.heap.size w16 w16.drew := ⟨rfl, rfl, rfl, Nat.le_refl _, fun _ _ => rfl⟩
  have s18 : w16.heap.size ≤ w16.drew.heap.size := hdw.size
  have KBX0_18 := Lib.hid ((hdw.block _ (Args4.box_lt KBX0_17.out)).trans KBX0_17.out)
  have NX1_18 := Lib.hid (NX1_17.out.alike (w' := w16.drew) fun bb hbb => hdw.block bb (NX1_17.out.lt bb hbb))
  have SOX0_18 := Lib.hid (SOX0_17.out.below hdw)
  have HC18 := Lib.hid (HC17.out.trans (hdw.mono HC17.out.size))
  clear hdw KBX0_17 NX1_17 SOX0_17 HC17
  have HS := HC18
  have HX := KBX0_18
  obtain ⟨b0, b1⟩ := HB0.out w16.drew HC18.out
  obtain ⟨x0, x1⟩ := SolK.row2 KBX0_18.out
  have hxx := SOX0_18.out
  have hto := toSolution_any l0 m0 HF0.out HL0.out HM0.out w16.drew _ (HI0.out w16.drew HS.out)
  go_wp2
  go_region_held3 (fun w' => w'.cell? ⟨w.heap.size, 0, none⟩ = some (.slice A0 l0.length c0) ∧ w'.cell? ⟨w.heap.size, 1, none⟩ = some (.slice B0 m0.length d0) ∧ w'.cell? ⟨w11.heap.size, 0, none⟩ = some (.slice PX0 l0.length qX0) ∧ w'.cell? ⟨w11.heap.size, 1, none⟩ = some (.slice KX0 m0.length rX0))
    (first | (with_reducible exact ⟨by assumption, by assumption, by assumption, by assumption⟩) | ((try dsimp only); exact ⟨by assumption, by assumption, by assumption, by assumption⟩) | go_keep)
    (first
      | (go_at_call 11; refine hto.mono ?_; rintro e w19 ⟨PZ, qZ, KZ, rZ, rfl, hzz, hb1⟩; have hc1 := HS.out.trans (hb1.mono HS.out.size); have hyy := hxx.below hb1; obtain ⟨e0, e1⟩ := HB0.out w19 hc1; obtain ⟨e2, e3⟩ := SolK.row2 (((hb1).block _ (Args4.box_lt HX.out)).trans HX.out))
      | (go_at_call 14; refine (eqSolution_any l0 m0 HF0.out HL0.out HM0.out _ _ _ hyy hzz).mono ?_; rintro e w20 ⟨rfl, hb2⟩; have hbz := hb1.trans (hb2.mono hb1.size); have hc2 := HS.out.trans (hbz.mono HS.out.size); obtain ⟨g0, g1⟩ := HB0.out w20 hc2; obtain ⟨g2, g3⟩ := SolK.row2 (((hbz).block _ (Args4.box_lt HX.out)).trans HX.out))
      | fail)
  have s21 : w16.drew.heap.size ≤ w20.heap.size := hbz.size
  have KBX0_21 := Lib.hid ((hbz.block _ (Args4.box_lt KBX0_18.out)).trans KBX0_18.out)
  have NX1_21 := Lib.hid (NX1_18.out.alike (w' := w20) fun bb hbb => hbz.block bb (NX1_18.out.lt bb hbb))
  have SOX0_21 := Lib.hid (SOX0_18.out.below hbz)
  have HC21 := Lib.hid (HC18.out.trans (hbz.mono HC18.out.size))
  clear hbz hb1 hb2 hc1 hc2 hzz hyy hxx hto HS HX b0 b1 x0 x1 e0 e1 e2 e3 g0 g1 g2 g3 KBX0_18 NX1_18 SOX0_18 HC18
  have hto := toBindingS_any l1 HF1.out HL1.out w20 _ (HI1.out w20 HC21.out)
  go_wp2_with fail
  refine hto.mono ?_
  rintro e w22 ⟨vv, SS, rfl, hL, _, hb⟩
  have s23 : w20.heap.size ≤ w22.heap.size := hb.size
  have KBX0_23 := Lib.hid ((hb.block _ (Args4.box_lt KBX0_21.out)).trans KBX0_21.out)
  have NX1_23 := Lib.hid (NX1_21.out.alike (w' := w22) fun bb hbb => hb.block bb (NX1_21.out.lt bb hbb))
  have SOX0_23 := Lib.hid (SOX0_21.out.below hb)
  have HC23 := Lib.hid (HC21.out.trans (hb.mono HC21.out.size))
  have heq := eqBindingS_any l1 HF1.out HL1.out w22 _ _ (ownRBindings_in NX1_23.out) (ownRBindings_in hL)
  clear hto hb hL KBX0_21 NX1_21 SOX0_21 HC21
  go_wp2_with fail
  refine heq.mono ?_
  rintro e w24 ⟨rfl, hb⟩
  have s25 : w22.heap.size ≤ w24.heap.size := hb.size
  have KBX0_25 := Lib.hid ((hb.block _ (Args4.box_lt KBX0_23.out)).trans KBX0_23.out)
  have NX1_25 := Lib.hid (NX1_23.out.alike (w' := w24) fun bb hbb => hb.block bb (NX1_23.out.lt bb hbb))
  have SOX0_25 := Lib.hid (SOX0_23.out.below hb)
  have HC25 := Lib.hid (HC23.out.trans (hb.mono HC23.out.size))
  clear heq hb KBX0_23 NX1_23 SOX0_23 HC23
  have hfin := HW0.out.trans (HC25.out.mono HW0.out.size)
  go_wp2
  go_ret
  exact ⟨rfl, hfin⟩

theorem walk (w : World) (x0 : Value) (l0 : List RBinding) (m0 : List (Int × Int)) (hx0 : SolIn w x0 l0 m0) (hs0 : ShortSol l0 m0) (A1 : Option Addr) (c1 : Nat) (l1 : List RBinding) (hA1 : RBindingsIn w (.slice A1 l1.length c1) l1) (hs1 : ShortRBindings l1) (hm1 : l1.length ≤ maxLen) :
    Calls Tryz.prog 3 #[x0, .slice A1 l1.length c1] w fun e w' => e = .returned (.bool true) ∧ Below w.heap.size w w' := by
  by_cases hn0 : ((l0.length + sumRBinding l0 + m0.length : Nat) : Int) ≤ 1048576
  · skip
    by_cases hn1 : ((l1.length + sumRBinding l1 : Nat) : Int) ≤ 1048576 - ((l0.length + sumRBinding l0 + m0.length : Nat) : Int)
    · skip
      exact walk_yes w x0 l0 m0 hx0 hs0 A1 c1 l1 hA1 hs1 hm1 hn0 hn1
    · exact walk_no1 w x0 l0 m0 hx0 hs0 A1 c1 l1 hA1 hs1 hm1 hn0 hn1
  · exact walk_no0 w x0 l0 m0 hx0 hs0 A1 c1 l1 hA1 hs1 hm1 hn0

set_option maxRecDepth 100000 in
theorem lifted (os : Os) (started : os.Started) (H : Type) (enc : TypeId × Value → H) :
    ReturnsInHanded {} Tryz.checked os 3 .any (Rows.fnExactComesOfSpec.pre6 enc Tryz.prog Tryz.f3 Rows.fnExactComesOfRow.domain false) (Rows.fnExactComesOfSpec.post enc Tryz.prog Tryz.f3 false true false false) := by
  refine returnsInHanded_of_change (C := Tryz.checked) own started (by kernel_rfl) Tryz.func3
    (ChangeSpec.witness6 (enc := enc) (C := Tryz.checked) false ⟨#[], #[.agg #[.slice none 0 0, .slice none 0 0], .slice none 0 0], []⟩ 8 (by kernel_rfl) (by kernel_rfl) (by kernel_rfl) (by kernel_rfl)) ?_
  intro W base args ds gs before hval0 hW hcnd _
  have hval : ∀ (j : Nat) t v, Tryz.f3.params[j]? = some t → args[j]? = some v → Value.okWide Tryz.prog W .any base t v := hval0
  have hW' := hW
  obtain ⟨p, q, hA0, hV, rfl, hfz, hnd⟩ := hW
  have hA : DataW.TrodAll enc Tryz.prog W 0 (fun _ => true) true Tryz.f3.params.toList args.toList ds p := hA0
  rw [Tryz.params3] at hA hval
  obtain ⟨v0, vs0, d0, ds0, p0, q0, hargs, rfl, rfl, h0, r0⟩ := trodAll_cons hA
  obtain ⟨v1, vs1, d1, ds1, p1, q1, rfl, rfl, rfl, h1, r1⟩ := trodAll_cons r0
  obtain ⟨rfl, rfl, rfl⟩ := trodAll_nil r1
  obtain rfl : args = #[v0, v1] := by cases args; simp_all
  obtain ⟨rfl, rfl⟩ := trodVars_none hV
  have k0 := h0
  have lt0 : ∀ x ∈ p0, x.block < W.heap.size := by obtain ⟨m, hm⟩ := k0; exact DataW.trod_lt m _ _ _ hm
  have k1 := h1
  have lt1 : ∀ x ∈ p1, x.block < W.heap.size := by obtain ⟨m, hm⟩ := k1; exact DataW.trod_lt m _ _ _ hm
  obtain ⟨l0, m0, tx0, ts0⟩ := open_solution (hval 0 25 v0 rfl rfl) h0
  obtain ⟨A1, n1, c1, rfl⟩ := okWide_slice Tryz.underlying22 (hval 1 22 v1 rfl rfl)
  obtain ⟨l1, rfl, w1, s1, m1⟩ := open_bindings h1
  clear hA0 hval0
  refine (walk W v0 l0 m0 tx0 ts0 A1 c1 l1 w1 s1 m1).mono fun e W' ⟨he, bel⟩ => ?_
  subst he
  exact ⟨_, rfl, _, _, _, [], _, [], hW', trodAll_mk1 (shut_bool Tryz.underlying4 _), (trodAll_cons_mk (Below.trod laidOut (by kernel_rfl) (of_decide_eq_true (by kernel_rfl)) k0 bel lt0) (trodAll_cons_mk (Below.trod laidOut (by kernel_rfl) (of_decide_eq_true (by kernel_rfl)) k1 bel lt1) trodAll_mk0)), rfl, bel.frame _, fun h => by cases h⟩

theorem over : Rows.fnExactComesOfRow.holds Tryz.pinned (OpenSpec.ofChange Rows.fnExactComesOfSpec) :=
  OpenClaim.holds_of_wide 3 Tryz.f3 rfl rfl rfl rfl rfl rfl rfl ⟨rfl, rfl, rfl, rfl, rfl⟩ rfl rfl rfl rfl rfl (by kernel_rfl) Tryz.func3 (by kernel_rfl)
    (of_decide_eq_true (by kernel_rfl)) (by unfold Func.isWrapper; first | (rw [if_pos (by decide +kernel)]; kernel_rfl) | (rw [if_neg (by decide +kernel)]; exact ⟨rfl, rfl⟩))
    (fun os started H enc _ => lifted os started H enc)

theorem proved : Rows.FnExactComesOfSaid := over
#print axioms proved
end Go.Proofs.YtlhjgjfnmejiaaaGreat.fnExactComesOf
