/-
  The law FnExactIsRule returns true for every value: the program decides as the model whether a value is a rule, and leaves its argument as it was. No condition.
-/
import Derived.Test.YtnomidnjglbedaaKIsRule16
import Derived.Test.YtnomidnjglbedaaKIsRule19
import Derived.Test.YtnomidnjglbedaaKIsRule6
namespace Go.Proofs.Ytnomidnjglbedaa.fnExactIsRule
open Go.ChangeShapes Go.WideShapes Go.ChangeAt Go.RowKit
set_option linter.unusedVariables false

namespace Args4
theorem box_lt {w : World} {g : Nat} {o : Obj} (h : w.heap[g]? = some o) : g < w.heap.size := (Array.getElem?_eq_some_iff.1 h).1
theorem row4 {w : World} {g : Nat} {a b c d : Value} {T : TypeId} (h : w.heap[g]? = some (.cells #[a, b, c, d] T (0, 0))) : w.cell? ⟨g, 0, none⟩ = some a ∧ w.cell? ⟨g, 1, none⟩ = some b ∧ w.cell? ⟨g, 2, none⟩ = some c ∧ w.cell? ⟨g, 3, none⟩ = some d := by
  refine ⟨?_, ?_, ?_, ?_⟩ <;> rw [cell_of_row w g _ _ _ _ h] <;> rfl
end Args4
theorem pairsAt_of {w : World} {base n : Nat} {e : TypeId} {B : Option Addr} {d : Nat} {l : List (Int × Int)} (h : w.ownsRow base e 2 (.slice B n d) l.length (cellsOf l)) : PairsAt w B l := by
  obtain ⟨A, c, ee, hp⟩ := own_pairsAt h
  injection ee with e1 e2 e3
  subst e1
  exact hp

set_option maxRecDepth 100000 in
set_option maxHeartbeats 16000000 in
theorem walk_no0 (w : World) (x0 : Value) (m0 : List (Int × Int)) (s0 t0 : Tm) (hx0 : RuleIn w x0 m0 s0 t0) (hs0 : ShortRule m0 s0 t0) (hn0 : ¬ ((m0.length + cntT s0 + cntT t0 : Nat) : Int) ≤ 1048576) :
    Calls Try.prog 11 #[x0] w fun e w' => e = .returned (.bool true) ∧ Below w.heap.size w w' := by
  obtain ⟨C0, k0, A0a, c0a, B0a, d0a, A0b, c0b, B0b, d0b, rfl, hp0, hk0, hj0⟩ := hx0
  have hb0 : Below w.heap.size w (w.alloc (.cells #[.slice C0 m0.length k0, .int .i64 s0.op, .int .i64 s0.num, .slice A0a s0.perm.length c0a, .slice B0a s0.kids.length d0a, .int .i64 t0.op, .int .i64 t0.num, .slice A0b t0.perm.length c0b, .slice B0b t0.kids.length d0b] 63)) := ((Below.refl _ w).alloc (by first | exact Nat.le_refl _ | (simp; done) | (simp; omega)) _)
  have HI0 : Hid (∀ w' : World, Below (w.alloc (.cells #[.slice C0 m0.length k0, .int .i64 s0.op, .int .i64 s0.num, .slice A0a s0.perm.length c0a, .slice B0a s0.kids.length d0a, .int .i64 t0.op, .int .i64 t0.num, .slice A0b t0.perm.length c0b, .slice B0b t0.kids.length d0b] 63)).heap.size (w.alloc (.cells #[.slice C0 m0.length k0, .int .i64 s0.op, .int .i64 s0.num, .slice A0a s0.perm.length c0a, .slice B0a s0.kids.length d0a, .int .i64 t0.op, .int .i64 t0.num, .slice A0b t0.perm.length c0b, .slice B0b t0.kids.length d0b] 63)) w' → RuleIn w' (.agg #[.slice C0 m0.length k0, .int .i64 s0.op, .int .i64 s0.num, .slice A0a s0.perm.length c0a, .slice B0a s0.kids.length d0a, .int .i64 t0.op, .int .i64 t0.num, .slice A0b t0.perm.length c0b, .slice B0b t0.kids.length d0b]) m0 s0 t0) := Lib.hid (fun w' h => ⟨C0, k0, A0a, c0a, B0a, d0a, A0b, c0b, B0b, d0b, rfl, hp0.below (hb0.trans (h.mono hb0.size)), hk0.below (hb0.trans (h.mono hb0.size)), hj0.below (hb0.trans (h.mono hb0.size))⟩)
  have kk0 : (w.alloc (.cells #[.slice C0 m0.length k0, .int .i64 s0.op, .int .i64 s0.num, .slice A0a s0.perm.length c0a, .slice B0a s0.kids.length d0a, .int .i64 t0.op, .int .i64 t0.num, .slice A0b t0.perm.length c0b, .slice B0b t0.kids.length d0b] 63)).heap[w.heap.size]? = some (.cells #[.slice C0 m0.length k0, .int .i64 s0.op, .int .i64 s0.num, .slice A0a s0.perm.length c0a, .slice B0a s0.kids.length d0a, .int .i64 t0.op, .int .i64 t0.num, .slice A0b t0.perm.length c0b, .slice B0b t0.kids.length d0b] 63 (0, 0)) := by
    have h := heap_alloc_new w (.cells #[.slice C0 m0.length k0, .int .i64 s0.op, .int .i64 s0.num, .slice A0a s0.perm.length c0a, .slice B0a s0.kids.length d0a, .int .i64 t0.op, .int .i64 t0.num, .slice A0b t0.perm.length c0b, .slice B0b t0.kids.length d0b] 63)
    exact h
  obtain ⟨b00, b01, b02, b03, b04, b05, b06, b07, b08⟩ := RuleK.row9 kk0
  have lt0 : w.heap.size < (w.alloc (.cells #[.slice C0 m0.length k0, .int .i64 s0.op, .int .i64 s0.num, .slice A0a s0.perm.length c0a, .slice B0a s0.kids.length d0a, .int .i64 t0.op, .int .i64 t0.num, .slice A0b t0.perm.length c0b, .slice B0b t0.kids.length d0b] 63)).heap.size := by first | (simp; done) | (simp; omega)
  have HB0 : Hid (∀ w' : World, Below (w.alloc (.cells #[.slice C0 m0.length k0, .int .i64 s0.op, .int .i64 s0.num, .slice A0a s0.perm.length c0a, .slice B0a s0.kids.length d0a, .int .i64 t0.op, .int .i64 t0.num, .slice A0b t0.perm.length c0b, .slice B0b t0.kids.length d0b] 63)).heap.size (w.alloc (.cells #[.slice C0 m0.length k0, .int .i64 s0.op, .int .i64 s0.num, .slice A0a s0.perm.length c0a, .slice B0a s0.kids.length d0a, .int .i64 t0.op, .int .i64 t0.num, .slice A0b t0.perm.length c0b, .slice B0b t0.kids.length d0b] 63)) w' → w'.cell? ⟨w.heap.size, 0, none⟩ = some (.slice C0 m0.length k0) ∧ w'.cell? ⟨w.heap.size, 1, none⟩ = some (.int .i64 s0.op) ∧ w'.cell? ⟨w.heap.size, 2, none⟩ = some (.int .i64 s0.num) ∧ w'.cell? ⟨w.heap.size, 3, none⟩ = some (.slice A0a s0.perm.length c0a) ∧ w'.cell? ⟨w.heap.size, 4, none⟩ = some (.slice B0a s0.kids.length d0a) ∧ w'.cell? ⟨w.heap.size, 5, none⟩ = some (.int .i64 t0.op) ∧ w'.cell? ⟨w.heap.size, 6, none⟩ = some (.int .i64 t0.num) ∧ w'.cell? ⟨w.heap.size, 7, none⟩ = some (.slice A0b t0.perm.length c0b) ∧ w'.cell? ⟨w.heap.size, 8, none⟩ = some (.slice B0b t0.kids.length d0b)) := Lib.hid (fun w' h => ⟨(h.cell (p := ⟨w.heap.size, 0, none⟩) lt0).trans b00, (h.cell (p := ⟨w.heap.size, 1, none⟩) lt0).trans b01, (h.cell (p := ⟨w.heap.size, 2, none⟩) lt0).trans b02, (h.cell (p := ⟨w.heap.size, 3, none⟩) lt0).trans b03, (h.cell (p := ⟨w.heap.size, 4, none⟩) lt0).trans b04, (h.cell (p := ⟨w.heap.size, 5, none⟩) lt0).trans b05, (h.cell (p := ⟨w.heap.size, 6, none⟩) lt0).trans b06, (h.cell (p := ⟨w.heap.size, 7, none⟩) lt0).trans b07, (h.cell (p := ⟨w.heap.size, 8, none⟩) lt0).trans b08⟩)
  clear hp0 hk0 kk0 lt0 hj0
  have HC0 : Hid (Below (w.alloc (.cells #[.slice C0 m0.length k0, .int .i64 s0.op, .int .i64 s0.num, .slice A0a s0.perm.length c0a, .slice B0a s0.kids.length d0a, .int .i64 t0.op, .int .i64 t0.num, .slice A0b t0.perm.length c0b, .slice B0b t0.kids.length d0b] 63)).heap.size (w.alloc (.cells #[.slice C0 m0.length k0, .int .i64 s0.op, .int .i64 s0.num, .slice A0a s0.perm.length c0a, .slice B0a s0.kids.length d0a, .int .i64 t0.op, .int .i64 t0.num, .slice A0b t0.perm.length c0b, .slice B0b t0.kids.length d0b] 63)) (w.alloc (.cells #[.slice C0 m0.length k0, .int .i64 s0.op, .int .i64 s0.num, .slice A0a s0.perm.length c0a, .slice B0a s0.kids.length d0a, .int .i64 t0.op, .int .i64 t0.num, .slice A0b t0.perm.length c0b, .slice B0b t0.kids.length d0b] 63))) := Lib.hid (Below.refl _ _)
  have HW0 := Lib.hid hb0
  clear hb0
  go_enter Try.func11, Try.ntmps11
  have hsz := szRule_any m0 s0 t0 hs0 (1048576) (w.alloc (.cells #[.slice C0 m0.length k0, .int .i64 s0.op, .int .i64 s0.num, .slice A0a s0.perm.length c0a, .slice B0a s0.kids.length d0a, .int .i64 t0.op, .int .i64 t0.num, .slice A0b t0.perm.length c0b, .slice B0b t0.kids.length d0b] 63)) _ (by omega) (by omega) (HI0.out (w.alloc (.cells #[.slice C0 m0.length k0, .int .i64 s0.op, .int .i64 s0.num, .slice A0a s0.perm.length c0a, .slice B0a s0.kids.length d0a, .int .i64 t0.op, .int .i64 t0.num, .slice A0b t0.perm.length c0b, .slice B0b t0.kids.length d0b] 63)) HC0.out)
  unfold LeftPost at hsz
  rw [leftR_no (by omega)] at hsz
  go_wp2_with fail
  refine hsz.mono ?_
  rintro e u1 ⟨rfl, hb⟩
  clear hsz b00 b01 b02 b03 b04 b05 b06 b07 b08
  have s2 : (w.alloc (.cells #[.slice C0 m0.length k0, .int .i64 s0.op, .int .i64 s0.num, .slice A0a s0.perm.length c0a, .slice B0a s0.kids.length d0a, .int .i64 t0.op, .int .i64 t0.num, .slice A0b t0.perm.length c0b, .slice B0b t0.kids.length d0b] 63)).heap.size ≤ u1.heap.size := hb.size
  have HC2 := Lib.hid (HC0.out.trans (hb.mono HC0.out.size))
  clear hb HC0
  have hfin := HW0.out.trans (HC2.out.mono HW0.out.size)
  go_wp2
  go_ret
  exact ⟨rfl, hfin⟩

set_option maxRecDepth 100000 in
set_option maxHeartbeats 16000000 in
theorem walk_yes (w : World) (x0 : Value) (m0 : List (Int × Int)) (s0 t0 : Tm) (hx0 : RuleIn w x0 m0 s0 t0) (hs0 : ShortRule m0 s0 t0) (hn0 : ((m0.length + cntT s0 + cntT t0 : Nat) : Int) ≤ 1048576) :
    Calls Try.prog 11 #[x0] w fun e w' => e = .returned (.bool true) ∧ Below w.heap.size w w' := by
  have HM0 : Hid (m0.length ≤ 1048576) := Lib.hid (by omega)
  have HN0a : Hid (cntT s0 ≤ 1048576) := Lib.hid (by omega)
  have HF0a := Lib.hid (fit_of s0 HN0a.out)
  have HN0b : Hid (cntT t0 ≤ 1048576) := Lib.hid (by omega)
  have HF0b := Lib.hid (fit_of t0 HN0b.out)
  generalize hFF : ruleB m0 s0 t0 = fl
  have HFL := Lib.hid hFF
  have hfl : (fl != fl) = false := by simp
  clear hFF
  obtain ⟨C0, k0, A0a, c0a, B0a, d0a, A0b, c0b, B0b, d0b, rfl, hp0, hk0, hj0⟩ := hx0
  have hb0 : Below w.heap.size w (w.alloc (.cells #[.slice C0 m0.length k0, .int .i64 s0.op, .int .i64 s0.num, .slice A0a s0.perm.length c0a, .slice B0a s0.kids.length d0a, .int .i64 t0.op, .int .i64 t0.num, .slice A0b t0.perm.length c0b, .slice B0b t0.kids.length d0b] 63)) := ((Below.refl _ w).alloc (by first | exact Nat.le_refl _ | (simp; done) | (simp; omega)) _)
  have HI0 : Hid (∀ w' : World, Below (w.alloc (.cells #[.slice C0 m0.length k0, .int .i64 s0.op, .int .i64 s0.num, .slice A0a s0.perm.length c0a, .slice B0a s0.kids.length d0a, .int .i64 t0.op, .int .i64 t0.num, .slice A0b t0.perm.length c0b, .slice B0b t0.kids.length d0b] 63)).heap.size (w.alloc (.cells #[.slice C0 m0.length k0, .int .i64 s0.op, .int .i64 s0.num, .slice A0a s0.perm.length c0a, .slice B0a s0.kids.length d0a, .int .i64 t0.op, .int .i64 t0.num, .slice A0b t0.perm.length c0b, .slice B0b t0.kids.length d0b] 63)) w' → RuleIn w' (.agg #[.slice C0 m0.length k0, .int .i64 s0.op, .int .i64 s0.num, .slice A0a s0.perm.length c0a, .slice B0a s0.kids.length d0a, .int .i64 t0.op, .int .i64 t0.num, .slice A0b t0.perm.length c0b, .slice B0b t0.kids.length d0b]) m0 s0 t0) := Lib.hid (fun w' h => ⟨C0, k0, A0a, c0a, B0a, d0a, A0b, c0b, B0b, d0b, rfl, hp0.below (hb0.trans (h.mono hb0.size)), hk0.below (hb0.trans (h.mono hb0.size)), hj0.below (hb0.trans (h.mono hb0.size))⟩)
  have kk0 : (w.alloc (.cells #[.slice C0 m0.length k0, .int .i64 s0.op, .int .i64 s0.num, .slice A0a s0.perm.length c0a, .slice B0a s0.kids.length d0a, .int .i64 t0.op, .int .i64 t0.num, .slice A0b t0.perm.length c0b, .slice B0b t0.kids.length d0b] 63)).heap[w.heap.size]? = some (.cells #[.slice C0 m0.length k0, .int .i64 s0.op, .int .i64 s0.num, .slice A0a s0.perm.length c0a, .slice B0a s0.kids.length d0a, .int .i64 t0.op, .int .i64 t0.num, .slice A0b t0.perm.length c0b, .slice B0b t0.kids.length d0b] 63 (0, 0)) := by
    have h := heap_alloc_new w (.cells #[.slice C0 m0.length k0, .int .i64 s0.op, .int .i64 s0.num, .slice A0a s0.perm.length c0a, .slice B0a s0.kids.length d0a, .int .i64 t0.op, .int .i64 t0.num, .slice A0b t0.perm.length c0b, .slice B0b t0.kids.length d0b] 63)
    exact h
  obtain ⟨b00, b01, b02, b03, b04, b05, b06, b07, b08⟩ := RuleK.row9 kk0
  have lt0 : w.heap.size < (w.alloc (.cells #[.slice C0 m0.length k0, .int .i64 s0.op, .int .i64 s0.num, .slice A0a s0.perm.length c0a, .slice B0a s0.kids.length d0a, .int .i64 t0.op, .int .i64 t0.num, .slice A0b t0.perm.length c0b, .slice B0b t0.kids.length d0b] 63)).heap.size := by first | (simp; done) | (simp; omega)
  have HB0 : Hid (∀ w' : World, Below (w.alloc (.cells #[.slice C0 m0.length k0, .int .i64 s0.op, .int .i64 s0.num, .slice A0a s0.perm.length c0a, .slice B0a s0.kids.length d0a, .int .i64 t0.op, .int .i64 t0.num, .slice A0b t0.perm.length c0b, .slice B0b t0.kids.length d0b] 63)).heap.size (w.alloc (.cells #[.slice C0 m0.length k0, .int .i64 s0.op, .int .i64 s0.num, .slice A0a s0.perm.length c0a, .slice B0a s0.kids.length d0a, .int .i64 t0.op, .int .i64 t0.num, .slice A0b t0.perm.length c0b, .slice B0b t0.kids.length d0b] 63)) w' → w'.cell? ⟨w.heap.size, 0, none⟩ = some (.slice C0 m0.length k0) ∧ w'.cell? ⟨w.heap.size, 1, none⟩ = some (.int .i64 s0.op) ∧ w'.cell? ⟨w.heap.size, 2, none⟩ = some (.int .i64 s0.num) ∧ w'.cell? ⟨w.heap.size, 3, none⟩ = some (.slice A0a s0.perm.length c0a) ∧ w'.cell? ⟨w.heap.size, 4, none⟩ = some (.slice B0a s0.kids.length d0a) ∧ w'.cell? ⟨w.heap.size, 5, none⟩ = some (.int .i64 t0.op) ∧ w'.cell? ⟨w.heap.size, 6, none⟩ = some (.int .i64 t0.num) ∧ w'.cell? ⟨w.heap.size, 7, none⟩ = some (.slice A0b t0.perm.length c0b) ∧ w'.cell? ⟨w.heap.size, 8, none⟩ = some (.slice B0b t0.kids.length d0b)) := Lib.hid (fun w' h => ⟨(h.cell (p := ⟨w.heap.size, 0, none⟩) lt0).trans b00, (h.cell (p := ⟨w.heap.size, 1, none⟩) lt0).trans b01, (h.cell (p := ⟨w.heap.size, 2, none⟩) lt0).trans b02, (h.cell (p := ⟨w.heap.size, 3, none⟩) lt0).trans b03, (h.cell (p := ⟨w.heap.size, 4, none⟩) lt0).trans b04, (h.cell (p := ⟨w.heap.size, 5, none⟩) lt0).trans b05, (h.cell (p := ⟨w.heap.size, 6, none⟩) lt0).trans b06, (h.cell (p := ⟨w.heap.size, 7, none⟩) lt0).trans b07, (h.cell (p := ⟨w.heap.size, 8, none⟩) lt0).trans b08⟩)
  clear hp0 hk0 kk0 lt0 hj0
  have HC0 : Hid (Below (w.alloc (.cells #[.slice C0 m0.length k0, .int .i64 s0.op, .int .i64 s0.num, .slice A0a s0.perm.length c0a, .slice B0a s0.kids.length d0a, .int .i64 t0.op, .int .i64 t0.num, .slice A0b t0.perm.length c0b, .slice B0b t0.kids.length d0b] 63)).heap.size (w.alloc (.cells #[.slice C0 m0.length k0, .int .i64 s0.op, .int .i64 s0.num, .slice A0a s0.perm.length c0a, .slice B0a s0.kids.length d0a, .int .i64 t0.op, .int .i64 t0.num, .slice A0b t0.perm.length c0b, .slice B0b t0.kids.length d0b] 63)) (w.alloc (.cells #[.slice C0 m0.length k0, .int .i64 s0.op, .int .i64 s0.num, .slice A0a s0.perm.length c0a, .slice B0a s0.kids.length d0a, .int .i64 t0.op, .int .i64 t0.num, .slice A0b t0.perm.length c0b, .slice B0b t0.kids.length d0b] 63))) := Lib.hid (Below.refl _ _)
  have HW0 := Lib.hid hb0
  clear hb0
  go_enter Try.func11, Try.ntmps11
  have hsz := szRule_any m0 s0 t0 hs0 (1048576) (w.alloc (.cells #[.slice C0 m0.length k0, .int .i64 s0.op, .int .i64 s0.num, .slice A0a s0.perm.length c0a, .slice B0a s0.kids.length d0a, .int .i64 t0.op, .int .i64 t0.num, .slice A0b t0.perm.length c0b, .slice B0b t0.kids.length d0b] 63)) _ (by omega) (by omega) (HI0.out (w.alloc (.cells #[.slice C0 m0.length k0, .int .i64 s0.op, .int .i64 s0.num, .slice A0a s0.perm.length c0a, .slice B0a s0.kids.length d0a, .int .i64 t0.op, .int .i64 t0.num, .slice A0b t0.perm.length c0b, .slice B0b t0.kids.length d0b] 63)) HC0.out)
  unfold LeftPost at hsz
  rw [leftR_yes hn0] at hsz
  have hleft0 : ¬ 1048576 - ((m0.length + cntT s0 + cntT t0 : Nat) : Int) < 0 := by omega
  go_wp2_with fail
  refine hsz.mono ?_
  rintro e u1 ⟨rfl, hb⟩
  clear hsz b00 b01 b02 b03 b04 b05 b06 b07 b08
  have s2 : (w.alloc (.cells #[.slice C0 m0.length k0, .int .i64 s0.op, .int .i64 s0.num, .slice A0a s0.perm.length c0a, .slice B0a s0.kids.length d0a, .int .i64 t0.op, .int .i64 t0.num, .slice A0b t0.perm.length c0b, .slice B0b t0.kids.length d0b] 63)).heap.size ≤ u1.heap.size := hb.size
  have HC2 := Lib.hid (HC0.out.trans (hb.mono HC0.out.size))
  clear hb HC0
  have HZ : Hid ((w.alloc (.cells #[.slice C0 m0.length k0, .int .i64 s0.op, .int .i64 s0.num, .slice A0a s0.perm.length c0a, .slice B0a s0.kids.length d0a, .int .i64 t0.op, .int .i64 t0.num, .slice A0b t0.perm.length c0b, .slice B0b t0.kids.length d0b] 63)).heap.size ≤ u1.heap.size) := Lib.hid HC2.out.size
  obtain ⟨b0, b1, b2, b3, b4, b5, b6, b7, b8⟩ := HB0.out u1 HC2.out
  have hto := toRule_any m0 s0 t0 HM0.out HF0a.out HF0b.out u1 _ (HI0.out u1 HC2.out)
  go_wp2_with fail
  refine hto.mono ?_
  rintro e w3 ⟨zC0, zk0, zA0a, zc0a, zB0a, zd0a, zA0b, zc0b, zB0b, zd0b, rfl, hin, hb⟩
  have hsp := isRule_spec m0 s0 t0 HM0.out HN0a.out HN0b.out _ w3 hin
  rw [HFL.out] at hsp
  have s4 : u1.heap.size ≤ w3.heap.size := hb.size
  have HC4 := Lib.hid (HC2.out.trans (hb.mono HC2.out.size))
  clear hto hb hin b0 b1 b2 b3 b4 b5 b6 b7 b8 HC2
  go_wp2_with fail
  refine hsp.mono ?_
  rintro e w5 ⟨rfl, hb⟩
  have s6 : w3.heap.size ≤ w5.heap.size := hb.size
  have HC6 := Lib.hid (HC4.out.trans (hb.mono HC4.out.size))
  clear hb HC4
  clear hsp
  obtain ⟨b0, b1, b2, b3, b4, b5, b6, b7, b8⟩ := HB0.out w5 HC6.out
  have hto := toRule_any m0 s0 t0 HM0.out HF0a.out HF0b.out w5 _ (HI0.out w5 HC6.out)
  go_wp2_with fail
  refine hto.mono ?_
  rintro e w7 ⟨XC0, Xk0, XA0a, Xc0a, XB0a, Xd0a, XA0b, Xc0b, XB0b, Xd0b, rfl, hin, hb⟩
  have s8 : w5.heap.size ≤ w7.heap.size := hb.size
  have HC8 := Lib.hid (HC6.out.trans (hb.mono HC6.out.size))
  have SO0 := Lib.hid hin
  clear hto hb hin b0 b1 b2 b3 b4 b5 b6 b7 b8 HC6
  have hbx : Below w7.heap.size w7 (w7.alloc (.cells #[.slice XC0 m0.length Xk0, .int .i64 s0.op, .int .i64 s0.num, .slice XA0a s0.perm.length Xc0a, .slice XB0a s0.kids.length Xd0a, .int .i64 t0.op, .int .i64 t0.num, .slice XA0b t0.perm.length Xc0b, .slice XB0b t0.kids.length Xd0b] 68)) := (Below.refl _ _).alloc (Nat.le_refl _) _
  have s9 : w7.heap.size ≤ (w7.alloc (.cells #[.slice XC0 m0.length Xk0, .int .i64 s0.op, .int .i64 s0.num, .slice XA0a s0.perm.length Xc0a, .slice XB0a s0.kids.length Xd0a, .int .i64 t0.op, .int .i64 t0.num, .slice XA0b t0.perm.length Xc0b, .slice XB0b t0.kids.length Xd0b] 68)).heap.size := hbx.size
  have SOX0_9 := Lib.hid (SO0.out.below hbx)
  have HC9 := Lib.hid (HC8.out.trans (hbx.mono HC8.out.size))
  have KBX0 := Lib.hid (heap_alloc_new w7 (.cells #[.slice XC0 m0.length Xk0, .int .i64 s0.op, .int .i64 s0.num, .slice XA0a s0.perm.length Xc0a, .slice XB0a s0.kids.length Xd0a, .int .i64 t0.op, .int .i64 t0.num, .slice XA0b t0.perm.length Xc0b, .slice XB0b t0.kids.length Xd0b] 68))
  clear hbx SO0 HC8
  have lt_X0 : w7.heap.size < (w7.alloc (.cells #[.slice XC0 m0.length Xk0, .int .i64 s0.op, .int .i64 s0.num, .slice XA0a s0.perm.length Xc0a, .slice XB0a s0.kids.length Xd0a, .int .i64 t0.op, .int .i64 t0.num, .slice XA0b t0.perm.length Xc0b, .slice XB0b t0.kids.length Xd0b] 68)).heap.size := by simp
  have hsp := isRule_impl m0 s0 t0 HM0.out HN0a.out HN0b.out _ (w7.alloc (.cells #[.slice XC0 m0.length Xk0, .int .i64 s0.op, .int .i64 s0.num, .slice XA0a s0.perm.length Xc0a, .slice XB0a s0.kids.length Xd0a, .int .i64 t0.op, .int .i64 t0.num, .slice XA0b t0.perm.length Xc0b, .slice XB0b t0.kids.length Xd0b] 68)) (SOX0_9.out)
  rw [HFL.out] at hsp
  obtain ⟨x00, x01, x02, x03, x04, x05, x06, x07, x08⟩ := RuleK.row9 KBX0.out
  go_wp2_with fail
  refine hsp.mono ?_
  rintro e w10 ⟨rfl, hb⟩
  have s11 : (w7.alloc (.cells #[.slice XC0 m0.length Xk0, .int .i64 s0.op, .int .i64 s0.num, .slice XA0a s0.perm.length Xc0a, .slice XB0a s0.kids.length Xd0a, .int .i64 t0.op, .int .i64 t0.num, .slice XA0b t0.perm.length Xc0b, .slice XB0b t0.kids.length Xd0b] 68)).heap.size ≤ w10.heap.size := hb.size
  have KBX0_11 := Lib.hid ((hb.block _ (Args4.box_lt KBX0.out)).trans KBX0.out)
  have SOX0_11 := Lib.hid (SOX0_9.out.below hb)
  have HC11 := Lib.hid (HC9.out.trans (hb.mono HC9.out.size))
  clear hb KBX0 SOX0_9 HC9
  clear hsp x00 x01 x02 x03 x04 x05 x06 x07 x08
  have hdw : Below w10.heap.size w10 w10.drew := ⟨rfl, rfl, rfl, Nat.le_refl _, fun _ _ => rfl⟩
  have s12 : w10.heap.size ≤ w10.drew.heap.size := hdw.size
  have KBX0_12 := Lib.hid ((hdw.block _ (Args4.box_lt KBX0_11.out)).trans KBX0_11.out)
  have SOX0_12 := Lib.hid (SOX0_11.out.below hdw)
  have HC12 := Lib.hid (HC11.out.trans (hdw.mono HC11.out.size))
  clear hdw KBX0_11 SOX0_11 HC11
  have HS := HC12
  have HX := KBX0_12
  obtain ⟨b0, b1, b2, b3, b4, b5, b6, b7, b8⟩ := HB0.out w10.drew HC12.out
  obtain ⟨x0, x1, x2, x3, x4, x5, x6, x7, x8⟩ := RuleK.row9 KBX0_12.out
  have hxx := SOX0_12.out
  have hto := toRule_any m0 s0 t0 HM0.out HF0a.out HF0b.out w10.drew _ (HI0.out w10.drew HS.out)
  go_wp2
  go_region_held3 (fun w' => w'.cell? ⟨w.heap.size, 0, none⟩ = some (.slice C0 m0.length k0) ∧ w'.cell? ⟨w.heap.size, 1, none⟩ = some (.int .i64 s0.op) ∧ w'.cell? ⟨w.heap.size, 2, none⟩ = some (.int .i64 s0.num) ∧ w'.cell? ⟨w.heap.size, 3, none⟩ = some (.slice A0a s0.perm.length c0a) ∧ w'.cell? ⟨w.heap.size, 4, none⟩ = some (.slice B0a s0.kids.length d0a) ∧ w'.cell? ⟨w.heap.size, 5, none⟩ = some (.int .i64 t0.op) ∧ w'.cell? ⟨w.heap.size, 6, none⟩ = some (.int .i64 t0.num) ∧ w'.cell? ⟨w.heap.size, 7, none⟩ = some (.slice A0b t0.perm.length c0b) ∧ w'.cell? ⟨w.heap.size, 8, none⟩ = some (.slice B0b t0.kids.length d0b) ∧ w'.cell? ⟨w7.heap.size, 0, none⟩ = some (.slice XC0 m0.length Xk0) ∧ w'.cell? ⟨w7.heap.size, 1, none⟩ = some (.int .i64 s0.op) ∧ w'.cell? ⟨w7.heap.size, 2, none⟩ = some (.int .i64 s0.num) ∧ w'.cell? ⟨w7.heap.size, 3, none⟩ = some (.slice XA0a s0.perm.length Xc0a) ∧ w'.cell? ⟨w7.heap.size, 4, none⟩ = some (.slice XB0a s0.kids.length Xd0a) ∧ w'.cell? ⟨w7.heap.size, 5, none⟩ = some (.int .i64 t0.op) ∧ w'.cell? ⟨w7.heap.size, 6, none⟩ = some (.int .i64 t0.num) ∧ w'.cell? ⟨w7.heap.size, 7, none⟩ = some (.slice XA0b t0.perm.length Xc0b) ∧ w'.cell? ⟨w7.heap.size, 8, none⟩ = some (.slice XB0b t0.kids.length Xd0b))
    (first | (with_reducible exact ⟨by assumption, by assumption, by assumption, by assumption, by assumption, by assumption, by assumption, by assumption, by assumption, by assumption, by assumption, by assumption, by assumption, by assumption, by assumption, by assumption, by assumption, by assumption⟩) | ((try dsimp only); exact ⟨by assumption, by assumption, by assumption, by assumption, by assumption, by assumption, by assumption, by assumption, by assumption, by assumption, by assumption, by assumption, by assumption, by assumption, by assumption, by assumption, by assumption, by assumption⟩) | go_keep)
    (first
      | (go_at_call 49; refine hto.mono ?_; rintro e w13 ⟨ZC0, Zk0, ZA0a, Zc0a, ZB0a, Zd0a, ZA0b, Zc0b, ZB0b, Zd0b, rfl, hzz, hb1⟩; have hc1 := HS.out.trans (hb1.mono HS.out.size); have hyy := hxx.below hb1; obtain ⟨e0, e1, e2, e3, e4, e5, e6, e7, e8⟩ := HB0.out w13 hc1; obtain ⟨e9, e10, e11, e12, e13, e14, e15, e16, e17⟩ := RuleK.row9 (((hb1).block _ (Args4.box_lt HX.out)).trans HX.out))
      | (go_at_call 51; refine (eqRule_any m0 s0 t0 HM0.out HF0a.out HF0b.out _ _ _ hyy hzz).mono ?_; rintro e w14 ⟨rfl, hb2⟩; have hbz := hb1.trans (hb2.mono hb1.size); have hc2 := HS.out.trans (hbz.mono HS.out.size); obtain ⟨g0, g1, g2, g3, g4, g5, g6, g7, g8⟩ := HB0.out w14 hc2; obtain ⟨g9, g10, g11, g12, g13, g14, g15, g16, g17⟩ := RuleK.row9 (((hbz).block _ (Args4.box_lt HX.out)).trans HX.out))
      | fail)
  have s15 : w10.drew.heap.size ≤ w14.heap.size := hbz.size
  have KBX0_15 := Lib.hid ((hbz.block _ (Args4.box_lt KBX0_12.out)).trans KBX0_12.out)
  have SOX0_15 := Lib.hid (SOX0_12.out.below hbz)
  have HC15 := Lib.hid (HC12.out.trans (hbz.mono HC12.out.size))
  clear hbz hb1 hb2 hc1 hc2 hzz hyy hxx hto HS HX b0 b1 b2 b3 b4 b5 b6 b7 b8 x0 x1 x2 x3 x4 x5 x6 x7 x8 e0 e1 e2 e3 e4 e5 e6 e7 e8 e9 e10 e11 e12 e13 e14 e15 e16 e17 g0 g1 g2 g3 g4 g5 g6 g7 g8 g9 g10 g11 g12 g13 g14 g15 g16 g17 KBX0_12 SOX0_12 HC12
  have hfin := HW0.out.trans (HC15.out.mono HW0.out.size)
  go_wp2
  go_ret
  exact ⟨rfl, hfin⟩

theorem walk (w : World) (x0 : Value) (m0 : List (Int × Int)) (s0 t0 : Tm) (hx0 : RuleIn w x0 m0 s0 t0) (hs0 : ShortRule m0 s0 t0) :
    Calls Try.prog 11 #[x0] w fun e w' => e = .returned (.bool true) ∧ Below w.heap.size w w' := by
  by_cases hn0 : ((m0.length + cntT s0 + cntT t0 : Nat) : Int) ≤ 1048576
  · skip
    exact walk_yes w x0 m0 s0 t0 hx0 hs0 hn0
  · exact walk_no0 w x0 m0 s0 t0 hx0 hs0 hn0

set_option maxRecDepth 100000 in
theorem lifted (os : Os) (started : os.Started) (H : Type) (enc : TypeId × Value → H) :
    ReturnsInHanded {} Try.checked os 11 .any (Rows.fnExactIsRuleSpec.pre6 enc Try.prog Try.f11 Rows.fnExactIsRuleRow.domain false) (Rows.fnExactIsRuleSpec.post enc Try.prog Try.f11 false true false false) := by
  refine returnsInHanded_of_change (C := Try.checked) own started (by kernel_rfl) Try.func11
    (ChangeSpec.witness6 (enc := enc) (C := Try.checked) false ⟨#[], #[.agg #[.slice none 0 0, .int .i64 0, .int .i64 0, .slice none 0 0, .slice none 0 0, .int .i64 0, .int .i64 0, .slice none 0 0, .slice none 0 0]], []⟩ 8 (by kernel_rfl) (by kernel_rfl) (by kernel_rfl) (by kernel_rfl)) ?_
  intro W base args ds gs before hval0 hW hcnd _
  have hval : ∀ (j : Nat) t v, Try.f11.params[j]? = some t → args[j]? = some v → Value.okWide Try.prog W .any base t v := hval0
  have hW' := hW
  obtain ⟨p, q, hA0, hV, rfl, hfz, hnd⟩ := hW
  have hA : DataW.TrodAll enc Try.prog W 0 (fun _ => true) true Try.f11.params.toList args.toList ds p := hA0
  rw [Try.params11] at hA hval
  obtain ⟨v0, vs0, d0, ds0, p0, q0, hargs, rfl, rfl, h0, r0⟩ := trodAll_cons hA
  obtain ⟨rfl, rfl, rfl⟩ := trodAll_nil r0
  obtain rfl : args = #[v0] := by cases args; simp_all
  obtain ⟨rfl, rfl⟩ := trodVars_none hV
  have k0 := h0
  have lt0 : ∀ x ∈ p0, x.block < W.heap.size := by obtain ⟨m, hm⟩ := k0; exact DataW.trod_lt m _ _ _ hm
  obtain ⟨m0, s0, t0, tx0, ts0⟩ := open_rule (hval 0 63 v0 rfl rfl) h0
  clear hA0 hval0
  refine (walk W v0 m0 s0 t0 tx0 ts0).mono fun e W' ⟨he, bel⟩ => ?_
  subst he
  exact ⟨_, rfl, _, _, _, [], _, [], hW', trodAll_mk1 (shut_bool Try.underlying4 _), (trodAll_cons_mk (Below.trod laidOut (by kernel_rfl) (of_decide_eq_true (by kernel_rfl)) k0 bel lt0) trodAll_mk0), rfl, bel.frame _, fun h => by cases h⟩

theorem over : Rows.fnExactIsRuleRow.holds Try.pinned (OpenSpec.ofChange Rows.fnExactIsRuleSpec) :=
  OpenClaim.holds_of_wide 11 Try.f11 rfl rfl rfl rfl rfl rfl rfl ⟨rfl, rfl, rfl, rfl, rfl⟩ rfl rfl rfl rfl rfl (by kernel_rfl) Try.func11 (by kernel_rfl)
    (of_decide_eq_true (by kernel_rfl)) (by unfold Func.isWrapper; first | (rw [if_pos (by decide +kernel)]; kernel_rfl) | (rw [if_neg (by decide +kernel)]; exact ⟨rfl, rfl⟩))
    (fun os started H enc _ => lifted os started H enc)

theorem proved : Rows.FnExactIsRuleSaid := over
#print axioms proved
end Go.Proofs.Ytnomidnjglbedaa.fnExactIsRule
