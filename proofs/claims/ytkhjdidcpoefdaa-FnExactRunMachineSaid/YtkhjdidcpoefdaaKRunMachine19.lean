/-
  The law FnExactRunMachine returns true for every two values: the program gives the last state of a machine over a word, what the registers hold then, and whether both are valid, as the model does, in memory of its own, and leaves its arguments as they were. No condition.
-/
import Derived.Test.YtkhjdidcpoefdaaKRunMachine16
import Derived.Test.YtkhjdidcpoefdaaKRunMachine18
import Derived.Test.YtkhjdidcpoefdaaKRunMachine2
import Derived.Test.YtkhjdidcpoefdaaKRunMachine4
import Derived.Test.YtkhjdidcpoefdaaKRunMachine17
namespace Go.Proofs.Ytkhjdidcpoefdaa.fnExactRunMachine
open Go.ChangeShapes Go.WideShapes Go.ChangeAt Go.RowKit
set_option linter.unusedVariables false

namespace Args4
theorem box_lt {w : World} {g : Nat} {o : Obj} (h : w.heap[g]? = some o) : g < w.heap.size := (Array.getElem?_eq_some_iff.1 h).1
theorem row4 {w : World} {g : Nat} {a b c d : Value} {T : TypeId} (h : w.heap[g]? = some (.cells #[a, b, c, d] T (0, 0))) : w.cell? ⟨g, 0, none⟩ = some a ∧ w.cell? ⟨g, 1, none⟩ = some b ∧ w.cell? ⟨g, 2, none⟩ = some c ∧ w.cell? ⟨g, 3, none⟩ = some d := by
  refine ⟨?_, ?_, ?_, ?_⟩ <;> rw [cell_of_row w g _ _ _ _ h] <;> rfl
end Args4
theorem pairsAt_of {w : World} {base n : Nat} {e : TypeId} {B : Option Addr} {d : Nat} {l : List (Int × Int)} (h : w.ownsRow base e 2 (.slice B n d) l.length (cellsOf l)) : PairsAt w B l := by
  obtain ⟨A, c, ee, hp⟩ := own_pairsAt h
  injection ee with e1 e2 e3
  subst e1
  exact hp

theorem intsAt_of {w : World} {base n : Nat} {e : TypeId} {B : Option Addr} {d : Nat} {l : List Int} (h : w.ownsRow base e 1 (.slice B n d) l.length (icells l)) : IntsAt w B l := by
  obtain ⟨A, c, ee, hp⟩ := own_intsAt h
  injection ee with e1 e2 e3
  subst e1
  exact hp

set_option maxRecDepth 100000 in
set_option maxHeartbeats 16000000 in
theorem walk_big1 (w : World) (x0 : Value) (t0 : Mach) (hx0 : MachIn w x0 t0) (hs0 : ShortM t0) (A1 : Option Addr) (c1 : Nat) (l1 : List Int) (hA1 : IntsAt w A1 l1) (hm1 : l1.length ≤ maxLen) (hn1 : ¬ l1.length ≤ 1048576) :
    Calls Try.prog 4 #[x0, .slice A1 l1.length c1] w fun e w' => e = .returned (.bool true) ∧ Below w.heap.size w w' := by
  unfold maxLen at hm1
  obtain ⟨A0, c0, B0, d0, rfl, hp0, hk0⟩ := hx0
  have hb0 : Below w.heap.size w (w.alloc (.cells #[.int .i64 t0.st, .int .i64 t0.rg, .slice A0 t0.ac.length c0, .slice B0 t0.mv.length d0] 25)) := ((Below.refl _ w).alloc (by first | exact Nat.le_refl _ | (simp; done) | (simp; omega)) _)
  have HI0 : Hid (∀ w' : World, Below (w.alloc (.cells #[.int .i64 t0.st, .int .i64 t0.rg, .slice A0 t0.ac.length c0, .slice B0 t0.mv.length d0] 25)).heap.size (w.alloc (.cells #[.int .i64 t0.st, .int .i64 t0.rg, .slice A0 t0.ac.length c0, .slice B0 t0.mv.length d0] 25)) w' → MachIn w' (.agg #[.int .i64 t0.st, .int .i64 t0.rg, .slice A0 t0.ac.length c0, .slice B0 t0.mv.length d0]) t0) := Lib.hid (fun w' h => ⟨A0, c0, B0, d0, rfl, hp0.below (hb0.trans (h.mono hb0.size)), hk0.below (hb0.trans (h.mono hb0.size))⟩)
  have HI1 : Hid (∀ w' : World, Below (w.alloc (.cells #[.int .i64 t0.st, .int .i64 t0.rg, .slice A0 t0.ac.length c0, .slice B0 t0.mv.length d0] 25)).heap.size (w.alloc (.cells #[.int .i64 t0.st, .int .i64 t0.rg, .slice A0 t0.ac.length c0, .slice B0 t0.mv.length d0] 25)) w' → IntsAt w' A1 l1) := Lib.hid (fun w' h => hA1.below (hb0.trans (h.mono hb0.size)))
  have kk0 : (w.alloc (.cells #[.int .i64 t0.st, .int .i64 t0.rg, .slice A0 t0.ac.length c0, .slice B0 t0.mv.length d0] 25)).heap[w.heap.size]? = some (.cells #[.int .i64 t0.st, .int .i64 t0.rg, .slice A0 t0.ac.length c0, .slice B0 t0.mv.length d0] 25 (0, 0)) := by
    have h := heap_alloc_new w (.cells #[.int .i64 t0.st, .int .i64 t0.rg, .slice A0 t0.ac.length c0, .slice B0 t0.mv.length d0] 25)
    exact h
  obtain ⟨b00, b01, b02, b03⟩ := Args4.row4 kk0
  have lt0 : w.heap.size < (w.alloc (.cells #[.int .i64 t0.st, .int .i64 t0.rg, .slice A0 t0.ac.length c0, .slice B0 t0.mv.length d0] 25)).heap.size := by first | (simp; done) | (simp; omega)
  have HB0 : Hid (∀ w' : World, Below (w.alloc (.cells #[.int .i64 t0.st, .int .i64 t0.rg, .slice A0 t0.ac.length c0, .slice B0 t0.mv.length d0] 25)).heap.size (w.alloc (.cells #[.int .i64 t0.st, .int .i64 t0.rg, .slice A0 t0.ac.length c0, .slice B0 t0.mv.length d0] 25)) w' → w'.cell? ⟨w.heap.size, 0, none⟩ = some (.int .i64 t0.st) ∧ w'.cell? ⟨w.heap.size, 1, none⟩ = some (.int .i64 t0.rg) ∧ w'.cell? ⟨w.heap.size, 2, none⟩ = some (.slice A0 t0.ac.length c0) ∧ w'.cell? ⟨w.heap.size, 3, none⟩ = some (.slice B0 t0.mv.length d0)) := Lib.hid (fun w' h => ⟨(h.cell (p := ⟨w.heap.size, 0, none⟩) lt0).trans b00, (h.cell (p := ⟨w.heap.size, 1, none⟩) lt0).trans b01, (h.cell (p := ⟨w.heap.size, 2, none⟩) lt0).trans b02, (h.cell (p := ⟨w.heap.size, 3, none⟩) lt0).trans b03⟩)
  clear hp0 hk0 kk0 lt0 hA1
  have HC0 : Hid (Below (w.alloc (.cells #[.int .i64 t0.st, .int .i64 t0.rg, .slice A0 t0.ac.length c0, .slice B0 t0.mv.length d0] 25)).heap.size (w.alloc (.cells #[.int .i64 t0.st, .int .i64 t0.rg, .slice A0 t0.ac.length c0, .slice B0 t0.mv.length d0] 25)) (w.alloc (.cells #[.int .i64 t0.st, .int .i64 t0.rg, .slice A0 t0.ac.length c0, .slice B0 t0.mv.length d0] 25))) := Lib.hid (Below.refl _ _)
  have HW0 := Lib.hid hb0
  clear hb0
  go_enter Try.func4, Try.ntmps4
  have hbig : 1048576 < l1.length := by omega
  have hfin := HW0.out
  clear hn1 b00 b01 b02 b03
  go_wp2
  go_ret
  exact ⟨rfl, hfin⟩

set_option maxRecDepth 100000 in
set_option maxHeartbeats 16000000 in
theorem walk_no0 (w : World) (x0 : Value) (t0 : Mach) (hx0 : MachIn w x0 t0) (hs0 : ShortM t0) (A1 : Option Addr) (c1 : Nat) (l1 : List Int) (hA1 : IntsAt w A1 l1) (hm1 : l1.length ≤ maxLen) (hn1 : l1.length ≤ 1048576) (hn0 : ¬ ((t0.ac.length + t0.mv.length : Nat) : Int) ≤ 1048576) :
    Calls Try.prog 4 #[x0, .slice A1 l1.length c1] w fun e w' => e = .returned (.bool true) ∧ Below w.heap.size w w' := by
  unfold maxLen at hm1
  obtain ⟨A0, c0, B0, d0, rfl, hp0, hk0⟩ := hx0
  have hb0 : Below w.heap.size w (w.alloc (.cells #[.int .i64 t0.st, .int .i64 t0.rg, .slice A0 t0.ac.length c0, .slice B0 t0.mv.length d0] 25)) := ((Below.refl _ w).alloc (by first | exact Nat.le_refl _ | (simp; done) | (simp; omega)) _)
  have HI0 : Hid (∀ w' : World, Below (w.alloc (.cells #[.int .i64 t0.st, .int .i64 t0.rg, .slice A0 t0.ac.length c0, .slice B0 t0.mv.length d0] 25)).heap.size (w.alloc (.cells #[.int .i64 t0.st, .int .i64 t0.rg, .slice A0 t0.ac.length c0, .slice B0 t0.mv.length d0] 25)) w' → MachIn w' (.agg #[.int .i64 t0.st, .int .i64 t0.rg, .slice A0 t0.ac.length c0, .slice B0 t0.mv.length d0]) t0) := Lib.hid (fun w' h => ⟨A0, c0, B0, d0, rfl, hp0.below (hb0.trans (h.mono hb0.size)), hk0.below (hb0.trans (h.mono hb0.size))⟩)
  have HI1 : Hid (∀ w' : World, Below (w.alloc (.cells #[.int .i64 t0.st, .int .i64 t0.rg, .slice A0 t0.ac.length c0, .slice B0 t0.mv.length d0] 25)).heap.size (w.alloc (.cells #[.int .i64 t0.st, .int .i64 t0.rg, .slice A0 t0.ac.length c0, .slice B0 t0.mv.length d0] 25)) w' → IntsAt w' A1 l1) := Lib.hid (fun w' h => hA1.below (hb0.trans (h.mono hb0.size)))
  have kk0 : (w.alloc (.cells #[.int .i64 t0.st, .int .i64 t0.rg, .slice A0 t0.ac.length c0, .slice B0 t0.mv.length d0] 25)).heap[w.heap.size]? = some (.cells #[.int .i64 t0.st, .int .i64 t0.rg, .slice A0 t0.ac.length c0, .slice B0 t0.mv.length d0] 25 (0, 0)) := by
    have h := heap_alloc_new w (.cells #[.int .i64 t0.st, .int .i64 t0.rg, .slice A0 t0.ac.length c0, .slice B0 t0.mv.length d0] 25)
    exact h
  obtain ⟨b00, b01, b02, b03⟩ := Args4.row4 kk0
  have lt0 : w.heap.size < (w.alloc (.cells #[.int .i64 t0.st, .int .i64 t0.rg, .slice A0 t0.ac.length c0, .slice B0 t0.mv.length d0] 25)).heap.size := by first | (simp; done) | (simp; omega)
  have HB0 : Hid (∀ w' : World, Below (w.alloc (.cells #[.int .i64 t0.st, .int .i64 t0.rg, .slice A0 t0.ac.length c0, .slice B0 t0.mv.length d0] 25)).heap.size (w.alloc (.cells #[.int .i64 t0.st, .int .i64 t0.rg, .slice A0 t0.ac.length c0, .slice B0 t0.mv.length d0] 25)) w' → w'.cell? ⟨w.heap.size, 0, none⟩ = some (.int .i64 t0.st) ∧ w'.cell? ⟨w.heap.size, 1, none⟩ = some (.int .i64 t0.rg) ∧ w'.cell? ⟨w.heap.size, 2, none⟩ = some (.slice A0 t0.ac.length c0) ∧ w'.cell? ⟨w.heap.size, 3, none⟩ = some (.slice B0 t0.mv.length d0)) := Lib.hid (fun w' h => ⟨(h.cell (p := ⟨w.heap.size, 0, none⟩) lt0).trans b00, (h.cell (p := ⟨w.heap.size, 1, none⟩) lt0).trans b01, (h.cell (p := ⟨w.heap.size, 2, none⟩) lt0).trans b02, (h.cell (p := ⟨w.heap.size, 3, none⟩) lt0).trans b03⟩)
  clear hp0 hk0 kk0 lt0 hA1
  have HC0 : Hid (Below (w.alloc (.cells #[.int .i64 t0.st, .int .i64 t0.rg, .slice A0 t0.ac.length c0, .slice B0 t0.mv.length d0] 25)).heap.size (w.alloc (.cells #[.int .i64 t0.st, .int .i64 t0.rg, .slice A0 t0.ac.length c0, .slice B0 t0.mv.length d0] 25)) (w.alloc (.cells #[.int .i64 t0.st, .int .i64 t0.rg, .slice A0 t0.ac.length c0, .slice B0 t0.mv.length d0] 25))) := Lib.hid (Below.refl _ _)
  have HW0 := Lib.hid hb0
  clear hb0
  go_enter Try.func4, Try.ntmps4
  have hsz := szMachine_any t0 hs0 (1048576) (w.alloc (.cells #[.int .i64 t0.st, .int .i64 t0.rg, .slice A0 t0.ac.length c0, .slice B0 t0.mv.length d0] 25)) _ (by omega) (by omega) (HI0.out (w.alloc (.cells #[.int .i64 t0.st, .int .i64 t0.rg, .slice A0 t0.ac.length c0, .slice B0 t0.mv.length d0] 25)) HC0.out)
  unfold LeftPost at hsz
  rw [leftR_no (by omega)] at hsz
  go_wp2_with fail
  refine hsz.mono ?_
  rintro e u1 ⟨rfl, hb⟩
  clear hsz b00 b01 b02 b03
  have s2 : (w.alloc (.cells #[.int .i64 t0.st, .int .i64 t0.rg, .slice A0 t0.ac.length c0, .slice B0 t0.mv.length d0] 25)).heap.size ≤ u1.heap.size := hb.size
  have HC2 := Lib.hid (HC0.out.trans (hb.mono HC0.out.size))
  clear hb HC0
  have hfin := HW0.out.trans (HC2.out.mono HW0.out.size)
  go_wp2
  go_ret
  exact ⟨rfl, hfin⟩

set_option maxRecDepth 100000 in
set_option maxHeartbeats 16000000 in
theorem walk_yes (w : World) (x0 : Value) (t0 : Mach) (hx0 : MachIn w x0 t0) (hs0 : ShortM t0) (A1 : Option Addr) (c1 : Nat) (l1 : List Int) (hA1 : IntsAt w A1 l1) (hm1 : l1.length ≤ maxLen) (hn1 : l1.length ≤ 1048576) (hn0 : ((t0.ac.length + t0.mv.length : Nat) : Int) ≤ 1048576) :
    Calls Try.prog 4 #[x0, .slice A1 l1.length c1] w fun e w' => e = .returned (.bool true) ∧ Below w.heap.size w w' := by
  have HN0 : Hid ((t0.ac.length + t0.mv.length : Nat) ≤ 1048576) := Lib.hid (by omega)
  have HF0 : Hid (FitM t0) := Lib.hid (fitM_of (by omega))
  have hmk0 : t0.ac.length + t0.mv.length ≤ 1048576 := by omega
  have HN1 : Hid (l1.length ≤ 1048576) := Lib.hid (by omega)
  have hLL : (runV t0 l1).length ≤ 2097152 := by have := runV_len t0 l1; omega
  generalize hL : runV t0 l1 = L at hLL
  have HL := Lib.hid hL
  clear hL
  generalize hFF : runOk t0 l1 = fl
  have HFL := Lib.hid hFF
  have hfl : (fl != fl) = false := by simp
  clear hFF
  generalize hNN : runQ t0 l1 = nq
  have HNQ := Lib.hid hNN
  have hnq : (nq != nq) = false := by simp
  clear hNN
  unfold maxLen at hm1
  obtain ⟨A0, c0, B0, d0, rfl, hp0, hk0⟩ := hx0
  have hb0 : Below w.heap.size w (w.alloc (.cells #[.int .i64 t0.st, .int .i64 t0.rg, .slice A0 t0.ac.length c0, .slice B0 t0.mv.length d0] 25)) := ((Below.refl _ w).alloc (by first | exact Nat.le_refl _ | (simp; done) | (simp; omega)) _)
  have HI0 : Hid (∀ w' : World, Below (w.alloc (.cells #[.int .i64 t0.st, .int .i64 t0.rg, .slice A0 t0.ac.length c0, .slice B0 t0.mv.length d0] 25)).heap.size (w.alloc (.cells #[.int .i64 t0.st, .int .i64 t0.rg, .slice A0 t0.ac.length c0, .slice B0 t0.mv.length d0] 25)) w' → MachIn w' (.agg #[.int .i64 t0.st, .int .i64 t0.rg, .slice A0 t0.ac.length c0, .slice B0 t0.mv.length d0]) t0) := Lib.hid (fun w' h => ⟨A0, c0, B0, d0, rfl, hp0.below (hb0.trans (h.mono hb0.size)), hk0.below (hb0.trans (h.mono hb0.size))⟩)
  have HI1 : Hid (∀ w' : World, Below (w.alloc (.cells #[.int .i64 t0.st, .int .i64 t0.rg, .slice A0 t0.ac.length c0, .slice B0 t0.mv.length d0] 25)).heap.size (w.alloc (.cells #[.int .i64 t0.st, .int .i64 t0.rg, .slice A0 t0.ac.length c0, .slice B0 t0.mv.length d0] 25)) w' → IntsAt w' A1 l1) := Lib.hid (fun w' h => hA1.below (hb0.trans (h.mono hb0.size)))
  have kk0 : (w.alloc (.cells #[.int .i64 t0.st, .int .i64 t0.rg, .slice A0 t0.ac.length c0, .slice B0 t0.mv.length d0] 25)).heap[w.heap.size]? = some (.cells #[.int .i64 t0.st, .int .i64 t0.rg, .slice A0 t0.ac.length c0, .slice B0 t0.mv.length d0] 25 (0, 0)) := by
    have h := heap_alloc_new w (.cells #[.int .i64 t0.st, .int .i64 t0.rg, .slice A0 t0.ac.length c0, .slice B0 t0.mv.length d0] 25)
    exact h
  obtain ⟨b00, b01, b02, b03⟩ := Args4.row4 kk0
  have lt0 : w.heap.size < (w.alloc (.cells #[.int .i64 t0.st, .int .i64 t0.rg, .slice A0 t0.ac.length c0, .slice B0 t0.mv.length d0] 25)).heap.size := by first | (simp; done) | (simp; omega)
  have HB0 : Hid (∀ w' : World, Below (w.alloc (.cells #[.int .i64 t0.st, .int .i64 t0.rg, .slice A0 t0.ac.length c0, .slice B0 t0.mv.length d0] 25)).heap.size (w.alloc (.cells #[.int .i64 t0.st, .int .i64 t0.rg, .slice A0 t0.ac.length c0, .slice B0 t0.mv.length d0] 25)) w' → w'.cell? ⟨w.heap.size, 0, none⟩ = some (.int .i64 t0.st) ∧ w'.cell? ⟨w.heap.size, 1, none⟩ = some (.int .i64 t0.rg) ∧ w'.cell? ⟨w.heap.size, 2, none⟩ = some (.slice A0 t0.ac.length c0) ∧ w'.cell? ⟨w.heap.size, 3, none⟩ = some (.slice B0 t0.mv.length d0)) := Lib.hid (fun w' h => ⟨(h.cell (p := ⟨w.heap.size, 0, none⟩) lt0).trans b00, (h.cell (p := ⟨w.heap.size, 1, none⟩) lt0).trans b01, (h.cell (p := ⟨w.heap.size, 2, none⟩) lt0).trans b02, (h.cell (p := ⟨w.heap.size, 3, none⟩) lt0).trans b03⟩)
  clear hp0 hk0 kk0 lt0 hA1
  have HC0 : Hid (Below (w.alloc (.cells #[.int .i64 t0.st, .int .i64 t0.rg, .slice A0 t0.ac.length c0, .slice B0 t0.mv.length d0] 25)).heap.size (w.alloc (.cells #[.int .i64 t0.st, .int .i64 t0.rg, .slice A0 t0.ac.length c0, .slice B0 t0.mv.length d0] 25)) (w.alloc (.cells #[.int .i64 t0.st, .int .i64 t0.rg, .slice A0 t0.ac.length c0, .slice B0 t0.mv.length d0] 25))) := Lib.hid (Below.refl _ _)
  have HW0 := Lib.hid hb0
  clear hb0
  go_enter Try.func4, Try.ntmps4
  have hsz := szMachine_any t0 hs0 (1048576) (w.alloc (.cells #[.int .i64 t0.st, .int .i64 t0.rg, .slice A0 t0.ac.length c0, .slice B0 t0.mv.length d0] 25)) _ (by omega) (by omega) (HI0.out (w.alloc (.cells #[.int .i64 t0.st, .int .i64 t0.rg, .slice A0 t0.ac.length c0, .slice B0 t0.mv.length d0] 25)) HC0.out)
  unfold LeftPost at hsz
  rw [leftR_yes hn0] at hsz
  have hleft0 : ¬ 1048576 - ((t0.ac.length + t0.mv.length : Nat) : Int) < 0 := by omega
  go_wp2_with fail
  refine hsz.mono ?_
  rintro e u1 ⟨rfl, hb⟩
  clear hsz b00 b01 b02 b03
  have s2 : (w.alloc (.cells #[.int .i64 t0.st, .int .i64 t0.rg, .slice A0 t0.ac.length c0, .slice B0 t0.mv.length d0] 25)).heap.size ≤ u1.heap.size := hb.size
  have HC2 := Lib.hid (HC0.out.trans (hb.mono HC0.out.size))
  clear hb HC0
  have HZ : Hid ((w.alloc (.cells #[.int .i64 t0.st, .int .i64 t0.rg, .slice A0 t0.ac.length c0, .slice B0 t0.mv.length d0] 25)).heap.size ≤ u1.heap.size) := Lib.hid HC2.out.size
  obtain ⟨b0, b1, b2, b3⟩ := HB0.out u1 HC2.out
  have hto := toMachine_any t0 HF0.out u1 _ (HI0.out u1 HC2.out)
  go_wp2_with fail
  (with_reducible refine hto.mono ?_)
  rintro e w3 ⟨v0, q0, K0, r0, S0, rfl, hL0, _, hb⟩
  have hin0 := machOut_ix hL0
  have s4 : u1.heap.size ≤ w3.heap.size := hb.size
  have HC4 := Lib.hid (HC2.out.trans (hb.mono HC2.out.size))
  clear hto hb hL0 b0 b1 b2 b3 HC2
  have hto := toIntS_any A1 c1 l1 w3 (HI1.out w3 HC4.out) (by have := HN1.out; omega)
  go_wp2_with fail
  (with_reducible refine hto.mono ?_)
  rintro e w5 ⟨v1, rfl, ho1, hb⟩
  obtain ⟨Bv1, dv1, rfl, hin1⟩ := own_intsAt ho1
  replace hin0 := hin0.below hb
  have s6 : w3.heap.size ≤ w5.heap.size := hb.size
  have HC6 := Lib.hid (HC4.out.trans (hb.mono HC4.out.size))
  clear hto hb ho1 HC4
  have hsp := runMachine_spec t0 HF0.out _ Bv1 dv1 l1 w5 hin0 hin1 (by have := HN1.out; omega)
  rw [HL.out] at hsp
  rw [HFL.out] at hsp
  rw [HNQ.out] at hsp
  clear hin0 hin1
  go_wp2_with fail
  (with_reducible refine hsp.mono ?_)
  rintro e w7 ⟨vW, rfl, oW, hb⟩
  have s8 : w5.heap.size ≤ w7.heap.size := hb.size
  have HC8 := Lib.hid (HC6.out.trans (hb.mono HC6.out.size))
  have HRW := Lib.hid (show ∀ k, (vW : Value).ownBlock = some k → w5.heap.size ≤ k ∧ k < w7.heap.size from fun k hk => oW.lt k hk)
  have QW := Lib.hid oW
  clear hb HC6 oW
  clear hsp
  obtain ⟨b0, b1, b2, b3⟩ := HB0.out w7 HC8.out
  have hto := toMachine_any t0 HF0.out w7 _ (HI0.out w7 HC8.out)
  go_wp2_with fail
  refine hto.mono ?_
  rintro e w9 ⟨PX0, qX0, KX0, rX0, SX0, rfl, hL, hS, hb⟩
  have s10 : w7.heap.size ≤ w9.heap.size := hb.size
  have QW_10 := Lib.hid (own_below QW.out hb)
  have HC10 := Lib.hid (HC8.out.trans (hb.mono HC8.out.size))
  have HTX0 : Hid (∀ b ∈ SX0, w7.heap.size ≤ b ∧ b < w9.heap.size) := Lib.hid (fun b hb => ⟨hS b hb, hL.lt b hb⟩)
  have NX0 := Lib.hid hL
  clear hto hb hS b0 b1 b2 b3 QW HC8 hL
  have hbx : Below w9.heap.size w9 (w9.alloc (.cells #[.int .i64 t0.st, .int .i64 t0.rg, .slice PX0 t0.ac.length qX0, .slice KX0 t0.mv.length rX0] 30)) := (Below.refl _ _).alloc (Nat.le_refl _) _
  have s11 : w9.heap.size ≤ (w9.alloc (.cells #[.int .i64 t0.st, .int .i64 t0.rg, .slice PX0 t0.ac.length qX0, .slice KX0 t0.mv.length rX0] 30)).heap.size := hbx.size
  have NX0_11 := Lib.hid (NX0.out.alike (w' := (w9.alloc (.cells #[.int .i64 t0.st, .int .i64 t0.rg, .slice PX0 t0.ac.length qX0, .slice KX0 t0.mv.length rX0] 30))) fun bb hbb => hbx.block bb (NX0.out.lt bb hbb))
  have QW_11 := Lib.hid (own_below QW_10.out hbx)
  have HC11 := Lib.hid (HC10.out.trans (hbx.mono HC10.out.size))
  have KBX0 := Lib.hid (heap_alloc_new w9 (.cells #[.int .i64 t0.st, .int .i64 t0.rg, .slice PX0 t0.ac.length qX0, .slice KX0 t0.mv.length rX0] 30))
  clear hbx NX0 QW_10 HC10
  have lt_X0 : w9.heap.size < (w9.alloc (.cells #[.int .i64 t0.st, .int .i64 t0.rg, .slice PX0 t0.ac.length qX0, .slice KX0 t0.mv.length rX0] 30)).heap.size := by simp
  have hto := toIntS_any A1 c1 l1 (w9.alloc (.cells #[.int .i64 t0.st, .int .i64 t0.rg, .slice PX0 t0.ac.length qX0, .slice KX0 t0.mv.length rX0] 30)) (HI1.out (w9.alloc (.cells #[.int .i64 t0.st, .int .i64 t0.rg, .slice PX0 t0.ac.length qX0, .slice KX0 t0.mv.length rX0] 30)) HC11.out) (by have := HN1.out; omega)
  go_wp2_with fail
  refine hto.mono ?_
  rintro e w12 ⟨vX1, rfl, oX1, hb⟩
  obtain ⟨BX1, dX1, rfl, hq⟩ := own_intsAt oX1
  have s13 : (w9.alloc (.cells #[.int .i64 t0.st, .int .i64 t0.rg, .slice PX0 t0.ac.length qX0, .slice KX0 t0.mv.length rX0] 30)).heap.size ≤ w12.heap.size := hb.size
  have KBX0_13 := Lib.hid ((hb.block _ (Args4.box_lt KBX0.out)).trans KBX0.out)
  have NX0_13 := Lib.hid (NX0_11.out.alike (w' := w12) fun bb hbb => hb.block bb (NX0_11.out.lt bb hbb))
  have QW_13 := Lib.hid (own_below QW_11.out hb)
  have HC13 := Lib.hid (HC11.out.trans (hb.mono HC11.out.size))
  have HRX1 := Lib.hid (show ∀ k, (.slice BX1 l1.length dX1 : Value).ownBlock = some k → (w9.alloc (.cells #[.int .i64 t0.st, .int .i64 t0.rg, .slice PX0 t0.ac.length qX0, .slice KX0 t0.mv.length rX0] 30)).heap.size ≤ k ∧ k < w12.heap.size from fun k hk => oX1.lt k hk)
  have QX1 := Lib.hid oX1
  clear hto hb hq KBX0 NX0_11 QW_11 HC11 oX1
  have hsp := runMachine_impl t0 HF0.out _ BX1 dX1 l1 w12 (machOut_ix NX0_13.out) (intsAt_of QX1.out) (by have := HN1.out; omega)
  rw [HL.out] at hsp
  rw [HFL.out] at hsp
  rw [HNQ.out] at hsp
  obtain ⟨x00, x01, x02, x03⟩ := Args4.row4 KBX0_13.out
  go_wp2_with fail
  refine hsp.mono ?_
  rintro e w14 ⟨vG, rfl, oG, hb⟩
  have s15 : w12.heap.size ≤ w14.heap.size := hb.size
  have KBX0_15 := Lib.hid ((hb.block _ (Args4.box_lt KBX0_13.out)).trans KBX0_13.out)
  have NX0_15 := Lib.hid (NX0_13.out.alike (w' := w14) fun bb hbb => hb.block bb (NX0_13.out.lt bb hbb))
  have QW_15 := Lib.hid (own_below QW_13.out hb)
  have QX1_15 := Lib.hid (own_below QX1.out hb)
  have HC15 := Lib.hid (HC13.out.trans (hb.mono HC13.out.size))
  have HRG := Lib.hid (show ∀ k, (vG : Value).ownBlock = some k → w12.heap.size ≤ k ∧ k < w14.heap.size from fun k hk => oG.lt k hk)
  have QG := Lib.hid oG
  clear hb KBX0_13 NX0_13 QW_13 QX1 HC13 oG
  clear hsp x00 x01 x02 x03
  have heq := eqIntS_own _ _ _ _ L L w14 QG.out QW_15.out (by omega)
  rw [decide_eq_true (rfl : L = L)] at heq
  go_wp2_with fail
  refine heq.mono ?_
  rintro e w16 ⟨rfl, hb⟩
  have s17 : w14.heap.size ≤ w16.heap.size := hb.size
  have KBX0_17 := Lib.hid ((hb.block _ (Args4.box_lt KBX0_15.out)).trans KBX0_15.out)
  have NX0_17 := Lib.hid (NX0_15.out.alike (w' := w16) fun bb hbb => hb.block bb (NX0_15.out.lt bb hbb))
  have QW_17 := Lib.hid (own_below QW_15.out hb)
  have QX1_17 := Lib.hid (own_below QX1_15.out hb)
  have QG_17 := Lib.hid (own_below QG.out hb)
  have HC17 := Lib.hid (HC15.out.trans (hb.mono HC15.out.size))
  clear heq hb KBX0_15 NX0_15 QW_15 QX1_15 QG HC15
  have hdw : Below w16.heap.size w16 w16.drew := ⟨rfl, rfl, rfl, Nat.le_refl _, fun _ _ => rfl⟩
  have s18 : w16.heap.size ≤ w16.drew.heap.size := hdw.size
  have KBX0_18 := Lib.hid ((hdw.block _ (Args4.box_lt KBX0_17.out)).trans KBX0_17.out)
  have NX0_18 := Lib.hid (NX0_17.out.alike (w' := w16.drew) fun bb hbb => hdw.block bb (NX0_17.out.lt bb hbb))
  have QW_18 := Lib.hid (own_below QW_17.out hdw)
  have QX1_18 := Lib.hid (own_below QX1_17.out hdw)
  have QG_18 := Lib.hid (own_below QG_17.out hdw)
  have HC18 := Lib.hid (HC17.out.trans (hdw.mono HC17.out.size))
  clear hdw KBX0_17 NX0_17 QW_17 QX1_17 QG_17 HC17
  have HS := HC18
  have HX := KBX0_18
  obtain ⟨b0, b1, b2, b3⟩ := HB0.out w16.drew HC18.out
  obtain ⟨x0, x1, x2, x3⟩ := Args4.row4 KBX0_18.out
  have hxx := machOut_ix NX0_18.out
  have hto := toMachine_any t0 HF0.out w16.drew _ (HI0.out w16.drew HS.out)
  go_wp2
  go_region_held3 (fun w' => w'.cell? ⟨w.heap.size, 0, none⟩ = some (.int .i64 t0.st) ∧ w'.cell? ⟨w.heap.size, 1, none⟩ = some (.int .i64 t0.rg) ∧ w'.cell? ⟨w.heap.size, 2, none⟩ = some (.slice A0 t0.ac.length c0) ∧ w'.cell? ⟨w.heap.size, 3, none⟩ = some (.slice B0 t0.mv.length d0) ∧ w'.cell? ⟨w9.heap.size, 0, none⟩ = some (.int .i64 t0.st) ∧ w'.cell? ⟨w9.heap.size, 1, none⟩ = some (.int .i64 t0.rg) ∧ w'.cell? ⟨w9.heap.size, 2, none⟩ = some (.slice PX0 t0.ac.length qX0) ∧ w'.cell? ⟨w9.heap.size, 3, none⟩ = some (.slice KX0 t0.mv.length rX0))
    (first | (with_reducible exact ⟨by assumption, by assumption, by assumption, by assumption, by assumption, by assumption, by assumption, by assumption⟩) | ((try dsimp only); exact ⟨by assumption, by assumption, by assumption, by assumption, by assumption, by assumption, by assumption, by assumption⟩) | go_keep)
    (first
      | (go_at_call 17; refine hto.mono ?_; rintro e w19 ⟨PZ, qZ, KZ, rZ, SZ, rfl, hLZ, _, hb1⟩; have hc1 := HS.out.trans (hb1.mono HS.out.size); have hzz := machOut_ix hLZ; have hyy := hxx.below hb1; obtain ⟨e0, e1, e2, e3⟩ := HB0.out w19 hc1; obtain ⟨e4, e5, e6, e7⟩ := Args4.row4 (((hb1).block _ (Args4.box_lt HX.out)).trans HX.out))
      | (go_at_call 19; refine (eqMachine_any t0 HF0.out _ _ _ hyy hzz).mono ?_; rintro e w20 ⟨rfl, hb2⟩; have hbz := hb1.trans (hb2.mono hb1.size); have hc2 := HS.out.trans (hbz.mono HS.out.size); obtain ⟨g0, g1, g2, g3⟩ := HB0.out w20 hc2; obtain ⟨g4, g5, g6, g7⟩ := Args4.row4 (((hbz).block _ (Args4.box_lt HX.out)).trans HX.out))
      | fail)
  have s21 : w16.drew.heap.size ≤ w20.heap.size := hbz.size
  have KBX0_21 := Lib.hid ((hbz.block _ (Args4.box_lt KBX0_18.out)).trans KBX0_18.out)
  have NX0_21 := Lib.hid (NX0_18.out.alike (w' := w20) fun bb hbb => hbz.block bb (NX0_18.out.lt bb hbb))
  have QW_21 := Lib.hid (own_below QW_18.out hbz)
  have QX1_21 := Lib.hid (own_below QX1_18.out hbz)
  have QG_21 := Lib.hid (own_below QG_18.out hbz)
  have HC21 := Lib.hid (HC18.out.trans (hbz.mono HC18.out.size))
  clear hbz hb1 hb2 hc1 hc2 hzz hyy hxx hLZ hto HS HX b0 b1 b2 b3 x0 x1 x2 x3 e0 e1 e2 e3 e4 e5 e6 e7 g0 g1 g2 g3 g4 g5 g6 g7 KBX0_18 NX0_18 QW_18 QX1_18 QG_18 HC18
  have hto := toIntS_any A1 c1 l1 w20 (HI1.out w20 HC21.out) (by have := HN1.out; omega)
  go_wp2_with fail
  refine hto.mono ?_
  rintro e w22 ⟨vv, rfl, ho, hb⟩
  have s23 : w20.heap.size ≤ w22.heap.size := hb.size
  have KBX0_23 := Lib.hid ((hb.block _ (Args4.box_lt KBX0_21.out)).trans KBX0_21.out)
  have NX0_23 := Lib.hid (NX0_21.out.alike (w' := w22) fun bb hbb => hb.block bb (NX0_21.out.lt bb hbb))
  have QW_23 := Lib.hid (own_below QW_21.out hb)
  have QX1_23 := Lib.hid (own_below QX1_21.out hb)
  have QG_23 := Lib.hid (own_below QG_21.out hb)
  have HC23 := Lib.hid (HC21.out.trans (hb.mono HC21.out.size))
  have heq := eqIntS_own _ _ _ _ l1 l1 w22 QX1_23.out ho (by have := HN1.out; omega)
  rw [decide_eq_true (rfl : l1 = l1)] at heq
  clear hto hb ho KBX0_21 NX0_21 QW_21 QX1_21 QG_21 HC21
  go_wp2_with fail
  refine heq.mono ?_
  rintro e w24 ⟨rfl, hb⟩
  have s25 : w22.heap.size ≤ w24.heap.size := hb.size
  have KBX0_25 := Lib.hid ((hb.block _ (Args4.box_lt KBX0_23.out)).trans KBX0_23.out)
  have NX0_25 := Lib.hid (NX0_23.out.alike (w' := w24) fun bb hbb => hb.block bb (NX0_23.out.lt bb hbb))
  have QW_25 := Lib.hid (own_below QW_23.out hb)
  have QX1_25 := Lib.hid (own_below QX1_23.out hb)
  have QG_25 := Lib.hid (own_below QG_23.out hb)
  have HC25 := Lib.hid (HC23.out.trans (hb.mono HC23.out.size))
  clear heq hb KBX0_23 NX0_23 QW_23 QX1_23 QG_23 HC23
  obtain ⟨x0, x1, x2, x3⟩ := Args4.row4 KBX0_25.out
  have hmk := markMachine_any t0 HF0.out SX0 PX0 KX0 qX0 rX0 (1) w24 (by omega) (by omega) NX0_25.out
  go_wp2_with fail
  (with_reducible refine hmk.mono ?_)
  rintro e w26 ⟨rfl, _, hon⟩
  have s27 : w24.heap.size ≤ w26.heap.size := hon.size
  have QW_27 := Lib.hid (own_only QW_25.out hon (fun k e hm => by have h1 := HTX0.out _ hm; have h2 := HRW.out _ e; omega))
  have QX1_27 := Lib.hid (own_only QX1_25.out hon (fun k e hm => by have h1 := HTX0.out _ hm; have h2 := HRX1.out _ e; omega))
  have QG_27 := Lib.hid (own_only QG_25.out hon (fun k e hm => by have h1 := HTX0.out _ hm; have h2 := HRG.out _ e; omega))
  have HC27 := Lib.hid (Only.below HC25.out hon HC25.out.size (fun b hb => by have := HTX0.out _ hb; have := HZ.out; omega))
  clear hmk hon x0 x1 x2 x3 NX0_25 KBX0_25 QW_25 QX1_25 QG_25 HC25
  have hmk := markIntS_own _ l1.length (.slice BX1 l1.length dX1) _ (1 + (t0.ac.length : Int) + (t0.mv.length : Int) * 2) w26 QX1_27.out (by omega) (by have := HN1.out; omega)
  go_wp2_with fail
  (with_reducible refine hmk.mono ?_)
  rintro e w28 ⟨rfl, _, hg⟩
  have hon : Only (.slice BX1 l1.length dX1 : Value).ownBlock.toList w26 w28 := Only.of_grown hg (fun b e => by rw [e]; simp)
  have HTM1 : Hid (∀ b ∈ (.slice BX1 l1.length dX1 : Value).ownBlock.toList, _ ∧ _) := Lib.hid (fun b hb => HRX1.out b (by simpa using hb))
  have s29 : w26.heap.size ≤ w28.heap.size := hon.size
  have QW_29 := Lib.hid (own_only QW_27.out hon (fun k e hm => by have h1 := HTM1.out _ hm; have h2 := HRW.out _ e; omega))
  have QG_29 := Lib.hid (own_only QG_27.out hon (fun k e hm => by have h1 := HTM1.out _ hm; have h2 := HRG.out _ e; omega))
  have HC29 := Lib.hid (Only.below HC27.out hon HC27.out.size (fun b hb => by have := HTM1.out _ hb; have := HZ.out; omega))
  clear hmk hg hon QX1_27 QW_27 QG_27 HC27
  have tk : ¬ 1 + (t0.ac.length : Int) + (t0.mv.length : Int) * 2 + (l1.length : Int) < 0 := by omega
  have heq := eqIntS_own _ _ _ _ L L w28 QG_29.out QW_29.out (by omega)
  rw [decide_eq_true (rfl : L = L)] at heq
  go_wp2_with fail
  refine heq.mono ?_
  rintro e w30 ⟨rfl, hb⟩
  have s31 : w28.heap.size ≤ w30.heap.size := hb.size
  have QW_31 := Lib.hid (own_below QW_29.out hb)
  have QG_31 := Lib.hid (own_below QG_29.out hb)
  have HC31 := Lib.hid (HC29.out.trans (hb.mono HC29.out.size))
  clear heq hb QW_29 QG_29 HC29
  have hmi := markIntS_own _ L.length vG _ 1 w30 QG_31.out (by omega) (by omega)
  go_wp2_with fail
  refine hmi.mono ?_
  rintro e w32 ⟨rfl, om, hg⟩
  have hon : Only vG.ownBlock.toList w30 w32 := Only.of_grown hg (fun b e => by rw [e]; simp)
  have HTG : Hid (∀ b ∈ vG.ownBlock.toList, _ ∧ _) := Lib.hid (fun b hb => HRG.out b (by simpa using hb))
  have s33 : w30.heap.size ≤ w32.heap.size := hon.size
  have QW_33 := Lib.hid (own_only QW_31.out hon (fun k e hm => by have h1 := HTG.out _ hm; have h2 := HRW.out _ e; omega))
  have HC33 := Lib.hid (Only.below HC31.out hon HC31.out.size (fun b hb => by have := HTG.out _ hb; have := HZ.out; omega))
  have QM := Lib.hid om
  clear hmi hg hon om QG_31 QW_31 HC31
  have tm : ¬ 1 + (L.length : Int) < 0 := by omega
  have tq : (1 + (L.length : Int) != 1 + (L.length : Int)) = false := by simp
  have hhi := heldIntS_own _ L.length vG 1 w32 QM.out (by omega) (by omega)
  go_wp2_with fail
  refine hhi.mono ?_
  rintro e w' ⟨rfl, rfl⟩
  clear hhi
  obtain ⟨b0, b1, b2, b3⟩ := HB0.out w32 HC33.out
  have hto := toMachine_any t0 HF0.out w32 _ (HI0.out w32 HC33.out)
  go_wp2_with fail
  (with_reducible refine hto.mono ?_)
  rintro e w34 ⟨v0, q0, K0, r0, S0, rfl, hL0, _, hb⟩
  have hin0 := machOut_ix hL0
  have s35 : w32.heap.size ≤ w34.heap.size := hb.size
  have QW_35 := Lib.hid (own_below QW_33.out hb)
  have QM_35 := Lib.hid (own_below QM.out hb)
  have HC35 := Lib.hid (HC33.out.trans (hb.mono HC33.out.size))
  clear hto hb hL0 b0 b1 b2 b3 QW_33 QM HC33
  have hto := toIntS_any A1 c1 l1 w34 (HI1.out w34 HC35.out) (by have := HN1.out; omega)
  go_wp2_with fail
  (with_reducible refine hto.mono ?_)
  rintro e w36 ⟨v1, rfl, ho1, hb⟩
  obtain ⟨Bv1, dv1, rfl, hin1⟩ := own_intsAt ho1
  replace hin0 := hin0.below hb
  have s37 : w34.heap.size ≤ w36.heap.size := hb.size
  have QW_37 := Lib.hid (own_below QW_35.out hb)
  have QM_37 := Lib.hid (own_below QM_35.out hb)
  have HC37 := Lib.hid (HC35.out.trans (hb.mono HC35.out.size))
  clear hto hb ho1 QW_35 QM_35 HC35
  have hsp := runMachine_impl t0 HF0.out _ Bv1 dv1 l1 w36 hin0 hin1 (by have := HN1.out; omega)
  rw [HL.out] at hsp
  rw [HFL.out] at hsp
  rw [HNQ.out] at hsp
  clear hin0 hin1
  go_wp2_with fail
  (with_reducible refine hsp.mono ?_)
  rintro e w38 ⟨vH, rfl, oH, hb⟩
  have s39 : w36.heap.size ≤ w38.heap.size := hb.size
  have QW_39 := Lib.hid (own_below QW_37.out hb)
  have QM_39 := Lib.hid (own_below QM_37.out hb)
  have HC39 := Lib.hid (HC37.out.trans (hb.mono HC37.out.size))
  have HRH := Lib.hid (show ∀ k, (vH : Value).ownBlock = some k → w36.heap.size ≤ k ∧ k < w38.heap.size from fun k hk => oH.lt k hk)
  have QH := Lib.hid oH
  clear hb QW_37 QM_37 HC37 oH
  clear hsp
  have heq := eqIntS_own _ _ _ _ L L w38 QH.out QW_39.out (by omega)
  rw [decide_eq_true (rfl : L = L)] at heq
  go_wp2_with fail
  refine heq.mono ?_
  rintro e w40 ⟨rfl, hb⟩
  have s41 : w38.heap.size ≤ w40.heap.size := hb.size
  have QW_41 := Lib.hid (own_below QW_39.out hb)
  have QM_41 := Lib.hid (own_below QM_39.out hb)
  have QH_41 := Lib.hid (own_below QH.out hb)
  have HC41 := Lib.hid (HC39.out.trans (hb.mono HC39.out.size))
  clear heq hb QW_39 QM_39 QH HC39
  have hhi := heldIntS_own _ L.length vG 1 w40 QM_41.out (by omega) (by omega)
  go_wp2_with fail
  refine hhi.mono ?_
  rintro e w' ⟨rfl, rfl⟩
  clear hhi
  have hfin := HW0.out.trans (HC41.out.mono HW0.out.size)
  go_wp2
  go_ret
  exact ⟨rfl, hfin⟩

theorem walk (w : World) (x0 : Value) (t0 : Mach) (hx0 : MachIn w x0 t0) (hs0 : ShortM t0) (A1 : Option Addr) (c1 : Nat) (l1 : List Int) (hA1 : IntsAt w A1 l1) (hm1 : l1.length ≤ maxLen) :
    Calls Try.prog 4 #[x0, .slice A1 l1.length c1] w fun e w' => e = .returned (.bool true) ∧ Below w.heap.size w w' := by
  by_cases hn1 : l1.length ≤ 1048576
  · skip
    by_cases hn0 : ((t0.ac.length + t0.mv.length : Nat) : Int) ≤ 1048576
    · skip
      exact walk_yes w x0 t0 hx0 hs0 A1 c1 l1 hA1 hm1 hn1 hn0
    · exact walk_no0 w x0 t0 hx0 hs0 A1 c1 l1 hA1 hm1 hn1 hn0
  · exact walk_big1 w x0 t0 hx0 hs0 A1 c1 l1 hA1 hm1 hn1

set_option maxRecDepth 100000 in
theorem lifted (os : Os) (started : os.Started) (H : Type) (enc : TypeId × Value → H) :
    ReturnsInHanded {} Try.checked os 4 .any (Rows.fnExactRunMachineSpec.pre6 enc Try.prog Try.f4 Rows.fnExactRunMachineRow.domain false) (Rows.fnExactRunMachineSpec.post enc Try.prog Try.f4 false true false false) := by
  refine returnsInHanded_of_change (C := Try.checked) own started (by kernel_rfl) Try.func4
    (ChangeSpec.witness6 (enc := enc) (C := Try.checked) false ⟨#[], #[.agg #[.int .i64 0, .int .i64 0, .slice none 0 0, .slice none 0 0], .slice none 0 0], []⟩ 8 (by kernel_rfl) (by kernel_rfl) (by kernel_rfl) (by kernel_rfl)) ?_
  intro W base args ds gs before hval0 hW hcnd _
  have hval : ∀ (j : Nat) t v, Try.f4.params[j]? = some t → args[j]? = some v → Value.okWide Try.prog W .any base t v := hval0
  have hW' := hW
  obtain ⟨p, q, hA0, hV, rfl, hfz, hnd⟩ := hW
  have hA : DataW.TrodAll enc Try.prog W 0 (fun _ => true) true Try.f4.params.toList args.toList ds p := hA0
  rw [Try.params4] at hA hval
  obtain ⟨v0, vs0, d0, ds0, p0, q0, hargs, rfl, rfl, h0, r0⟩ := trodAll_cons hA
  obtain ⟨v1, vs1, d1, ds1, p1, q1, rfl, rfl, rfl, h1, r1⟩ := trodAll_cons r0
  obtain ⟨rfl, rfl, rfl⟩ := trodAll_nil r1
  obtain rfl : args = #[v0, v1] := by cases args; simp_all
  obtain ⟨rfl, rfl⟩ := trodVars_none hV
  have k0 := h0
  have lt0 : ∀ x ∈ p0, x.block < W.heap.size := by obtain ⟨m, hm⟩ := k0; exact DataW.trod_lt m _ _ _ hm
  have k1 := h1
  have lt1 : ∀ x ∈ p1, x.block < W.heap.size := by obtain ⟨m, hm⟩ := k1; exact DataW.trod_lt m _ _ _ hm
  obtain ⟨t0, tx0, ts0⟩ := open_machine (hval 0 25 v0 rfl rfl) h0
  obtain ⟨A1, n1, c1, rfl⟩ := okWide_slice Try.underlying34 (hval 1 34 v1 rfl rfl)
  obtain ⟨l1, rfl, w1, m1⟩ := open_intsL h1
  clear hA0 hval0
  refine (walk W v0 t0 tx0 ts0 A1 c1 l1 w1 m1).mono fun e W' ⟨he, bel⟩ => ?_
  subst he
  exact ⟨_, rfl, _, _, _, [], _, [], hW', trodAll_mk1 (shut_bool Try.underlying4 _), (trodAll_cons_mk (Below.trod laidOut (by kernel_rfl) (of_decide_eq_true (by kernel_rfl)) k0 bel lt0) (trodAll_cons_mk (Below.trod laidOut (by kernel_rfl) (of_decide_eq_true (by kernel_rfl)) k1 bel lt1) trodAll_mk0)), rfl, bel.frame _, fun h => by cases h⟩

theorem over : Rows.fnExactRunMachineRow.holds Try.pinned (OpenSpec.ofChange Rows.fnExactRunMachineSpec) :=
  OpenClaim.holds_of_wide 4 Try.f4 rfl rfl rfl rfl rfl rfl rfl ⟨rfl, rfl, rfl, rfl, rfl⟩ rfl rfl rfl rfl rfl (by kernel_rfl) Try.func4 (by kernel_rfl)
    (of_decide_eq_true (by kernel_rfl)) (by unfold Func.isWrapper; first | (rw [if_pos (by decide +kernel)]; kernel_rfl) | (rw [if_neg (by decide +kernel)]; exact ⟨rfl, rfl⟩))
    (fun os started H enc _ => lifted os started H enc)

theorem proved : Rows.FnExactRunMachineSaid := over
#print axioms proved
end Go.Proofs.Ytkhjdidcpoefdaa.fnExactRunMachine
