/-
  The law FnExactPutAt returns true for every three values: the program puts a term at a path, and tells whether it could, as the model does, in memory of its own, and leaves its arguments as they were. No condition.
-/
import Derived.Test.YtnomidnjglbedaaKPutAt8
import Derived.Test.YtnomidnjglbedaaKPutAt6
import Derived.Test.YtnomidnjglbedaaKPutAt9
import Derived.Test.YtnomidnjglbedaaKPutAt5
import Derived.Test.YtnomidnjglbedaaKPutAt16
import Derived.Test.YtnomidnjglbedaaKPutAt4
import Derived.Test.YtnomidnjglbedaaKPutAt17
import Derived.Test.YtnomidnjglbedaaKPutAt24
import Derived.Test.YtnomidnjglbedaaKPutAt7
namespace Go.Proofs.Ytnomidnjglbedaa.fnExactPutAt
open Go.ChangeShapes Go.WideShapes Go.ChangeAt Go.RowKit
set_option linter.unusedVariables false

namespace Args4
theorem box_lt {w : World} {g : Nat} {o : Obj} (h : w.heap[g]? = some o) : g < w.heap.size := (Array.getElem?_eq_some_iff.1 h).1
theorem row4 {w : World} {g : Nat} {a b c d : Value} {T : TypeId} (h : w.heap[g]? = some (.cells #[a, b, c, d] T (0, 0))) : w.cell? ⟨g, 0, none⟩ = some a ∧ w.cell? ⟨g, 1, none⟩ = some b ∧ w.cell? ⟨g, 2, none⟩ = some c ∧ w.cell? ⟨g, 3, none⟩ = some d := by
  refine ⟨?_, ?_, ?_, ?_⟩ <;> rw [cell_of_row w g _ _ _ _ h] <;> rfl
end Args4
theorem pairsAt_of {w : World} {base n : Nat} {e : TypeId} {B : Option Addr} {d : Nat} {l : List (Int × Int)} (h : w.ownsRow base e 2 (.slice B n d) l.length (cellsOf l)) : PairsAt w B l := by
  obtain ⟨A, c, ee, hp⟩ := own_pairsAt h
  injection ee with e1 e2 e3
  subst e1
  exact hp

theorem intsAt_of {w : World} {base n : Nat} {e : TypeId} {B : Option Addr} {d : Nat} {l : List Int} (h : w.ownsRow base e 1 (.slice B n d) l.length (icells l)) : IntsAt w B l := by
  obtain ⟨A, c, ee, hp⟩ := own_intsAt h
  injection ee with e1 e2 e3
  subst e1
  exact hp

set_option maxRecDepth 100000 in
set_option maxHeartbeats 16000000 in
theorem walk_big1 (w : World) (x0 : Value) (t0 : Tm) (hx0 : TmIn w x0 t0) (hs0 : Short t0) (A1 : Option Addr) (c1 : Nat) (l1 : List Int) (hA1 : IntsAt w A1 l1) (hm1 : l1.length ≤ maxLen) (x2 : Value) (t2 : Tm) (hx2 : TmIn w x2 t2) (hs2 : Short t2) (hn1 : ¬ l1.length ≤ 1048576) :
    Calls Try.prog 13 #[x0, .slice A1 l1.length c1, x2] w fun e w' => e = .returned (.bool true) ∧ Below w.heap.size w w' := by
  unfold maxLen at hm1
  obtain ⟨A0, c0, kv0, rfl, hp0, hk0⟩ := hx0
  obtain ⟨B0, d0, rfl⟩ := hk0.form
  have hsh0 := (short_eq t0).1 hs0
  obtain ⟨A2, c2, kv2, rfl, hp2, hk2⟩ := hx2
  obtain ⟨B2, d2, rfl⟩ := hk2.form
  have hsh2 := (short_eq t2).1 hs2
  have hb0 : Below w.heap.size w ((w.alloc (.cells #[.int .i64 t0.op, .int .i64 t0.num, .slice A0 t0.perm.length c0, .slice B0 t0.kids.length d0] 25)).alloc (.cells #[.int .i64 t2.op, .int .i64 t2.num, .slice A2 t2.perm.length c2, .slice B2 t2.kids.length d2] 25)) := (((Below.refl _ w).alloc (by first | exact Nat.le_refl _ | (simp; done) | (simp; omega)) _).alloc (by first | exact Nat.le_refl _ | (simp; done) | (simp; omega)) _)
  have HI0 : Hid (∀ w' : World, Below ((w.alloc (.cells #[.int .i64 t0.op, .int .i64 t0.num, .slice A0 t0.perm.length c0, .slice B0 t0.kids.length d0] 25)).alloc (.cells #[.int .i64 t2.op, .int .i64 t2.num, .slice A2 t2.perm.length c2, .slice B2 t2.kids.length d2] 25)).heap.size ((w.alloc (.cells #[.int .i64 t0.op, .int .i64 t0.num, .slice A0 t0.perm.length c0, .slice B0 t0.kids.length d0] 25)).alloc (.cells #[.int .i64 t2.op, .int .i64 t2.num, .slice A2 t2.perm.length c2, .slice B2 t2.kids.length d2] 25)) w' → TmIn w' (.agg #[.int .i64 t0.op, .int .i64 t0.num, .slice A0 t0.perm.length c0, .slice B0 t0.kids.length d0]) t0) := Lib.hid (fun w' h => ⟨A0, c0, _, rfl, hp0.below (hb0.trans (h.mono hb0.size)), hk0.below (hb0.trans (h.mono hb0.size))⟩)
  have HI2 : Hid (∀ w' : World, Below ((w.alloc (.cells #[.int .i64 t0.op, .int .i64 t0.num, .slice A0 t0.perm.length c0, .slice B0 t0.kids.length d0] 25)).alloc (.cells #[.int .i64 t2.op, .int .i64 t2.num, .slice A2 t2.perm.length c2, .slice B2 t2.kids.length d2] 25)).heap.size ((w.alloc (.cells #[.int .i64 t0.op, .int .i64 t0.num, .slice A0 t0.perm.length c0, .slice B0 t0.kids.length d0] 25)).alloc (.cells #[.int .i64 t2.op, .int .i64 t2.num, .slice A2 t2.perm.length c2, .slice B2 t2.kids.length d2] 25)) w' → TmIn w' (.agg #[.int .i64 t2.op, .int .i64 t2.num, .slice A2 t2.perm.length c2, .slice B2 t2.kids.length d2]) t2) := Lib.hid (fun w' h => ⟨A2, c2, _, rfl, hp2.below (hb0.trans (h.mono hb0.size)), hk2.below (hb0.trans (h.mono hb0.size))⟩)
  have HI1 : Hid (∀ w' : World, Below ((w.alloc (.cells #[.int .i64 t0.op, .int .i64 t0.num, .slice A0 t0.perm.length c0, .slice B0 t0.kids.length d0] 25)).alloc (.cells #[.int .i64 t2.op, .int .i64 t2.num, .slice A2 t2.perm.length c2, .slice B2 t2.kids.length d2] 25)).heap.size ((w.alloc (.cells #[.int .i64 t0.op, .int .i64 t0.num, .slice A0 t0.perm.length c0, .slice B0 t0.kids.length d0] 25)).alloc (.cells #[.int .i64 t2.op, .int .i64 t2.num, .slice A2 t2.perm.length c2, .slice B2 t2.kids.length d2] 25)) w' → IntsAt w' A1 l1) := Lib.hid (fun w' h => hA1.below (hb0.trans (h.mono hb0.size)))
  have kk0 : ((w.alloc (.cells #[.int .i64 t0.op, .int .i64 t0.num, .slice A0 t0.perm.length c0, .slice B0 t0.kids.length d0] 25)).alloc (.cells #[.int .i64 t2.op, .int .i64 t2.num, .slice A2 t2.perm.length c2, .slice B2 t2.kids.length d2] 25)).heap[w.heap.size]? = some (.cells #[.int .i64 t0.op, .int .i64 t0.num, .slice A0 t0.perm.length c0, .slice B0 t0.kids.length d0] 25 (0, 0)) := by
    have h := heap_alloc_new w (.cells #[.int .i64 t0.op, .int .i64 t0.num, .slice A0 t0.perm.length c0, .slice B0 t0.kids.length d0] 25)
    exact ((Below.heap_alloc _ _ _ (by first | (simp; done) | (simp; omega))).trans h)
  obtain ⟨b00, b01, b02, b03⟩ := Args4.row4 kk0
  have lt0 : w.heap.size < ((w.alloc (.cells #[.int .i64 t0.op, .int .i64 t0.num, .slice A0 t0.perm.length c0, .slice B0 t0.kids.length d0] 25)).alloc (.cells #[.int .i64 t2.op, .int .i64 t2.num, .slice A2 t2.perm.length c2, .slice B2 t2.kids.length d2] 25)).heap.size := by first | (simp; done) | (simp; omega)
  have kk2 : ((w.alloc (.cells #[.int .i64 t0.op, .int .i64 t0.num, .slice A0 t0.perm.length c0, .slice B0 t0.kids.length d0] 25)).alloc (.cells #[.int .i64 t2.op, .int .i64 t2.num, .slice A2 t2.perm.length c2, .slice B2 t2.kids.length d2] 25)).heap[w.heap.size + 1]? = some (.cells #[.int .i64 t2.op, .int .i64 t2.num, .slice A2 t2.perm.length c2, .slice B2 t2.kids.length d2] 25 (0, 0)) := by
    have h := heap_alloc_new (w.alloc (.cells #[.int .i64 t0.op, .int .i64 t0.num, .slice A0 t0.perm.length c0, .slice B0 t0.kids.length d0] 25)) (.cells #[.int .i64 t2.op, .int .i64 t2.num, .slice A2 t2.perm.length c2, .slice B2 t2.kids.length d2] 25)
    simp only [World.size_alloc] at h
    exact h
  obtain ⟨b20, b21, b22, b23⟩ := Args4.row4 kk2
  have lt2 : w.heap.size + 1 < ((w.alloc (.cells #[.int .i64 t0.op, .int .i64 t0.num, .slice A0 t0.perm.length c0, .slice B0 t0.kids.length d0] 25)).alloc (.cells #[.int .i64 t2.op, .int .i64 t2.num, .slice A2 t2.perm.length c2, .slice B2 t2.kids.length d2] 25)).heap.size := by first | (simp; done) | (simp; omega)
  have HB0 : Hid (∀ w' : World, Below ((w.alloc (.cells #[.int .i64 t0.op, .int .i64 t0.num, .slice A0 t0.perm.length c0, .slice B0 t0.kids.length d0] 25)).alloc (.cells #[.int .i64 t2.op, .int .i64 t2.num, .slice A2 t2.perm.length c2, .slice B2 t2.kids.length d2] 25)).heap.size ((w.alloc (.cells #[.int .i64 t0.op, .int .i64 t0.num, .slice A0 t0.perm.length c0, .slice B0 t0.kids.length d0] 25)).alloc (.cells #[.int .i64 t2.op, .int .i64 t2.num, .slice A2 t2.perm.length c2, .slice B2 t2.kids.length d2] 25)) w' → w'.cell? ⟨w.heap.size, 0, none⟩ = some (.int .i64 t0.op) ∧ w'.cell? ⟨w.heap.size, 1, none⟩ = some (.int .i64 t0.num) ∧ w'.cell? ⟨w.heap.size, 2, none⟩ = some (.slice A0 t0.perm.length c0) ∧ w'.cell? ⟨w.heap.size, 3, none⟩ = some (.slice B0 t0.kids.length d0)) := Lib.hid (fun w' h => ⟨(h.cell (p := ⟨w.heap.size, 0, none⟩) lt0).trans b00, (h.cell (p := ⟨w.heap.size, 1, none⟩) lt0).trans b01, (h.cell (p := ⟨w.heap.size, 2, none⟩) lt0).trans b02, (h.cell (p := ⟨w.heap.size, 3, none⟩) lt0).trans b03⟩)
  have HB2 : Hid (∀ w' : World, Below ((w.alloc (.cells #[.int .i64 t0.op, .int .i64 t0.num, .slice A0 t0.perm.length c0, .slice B0 t0.kids.length d0] 25)).alloc (.cells #[.int .i64 t2.op, .int .i64 t2.num, .slice A2 t2.perm.length c2, .slice B2 t2.kids.length d2] 25)).heap.size ((w.alloc (.cells #[.int .i64 t0.op, .int .i64 t0.num, .slice A0 t0.perm.length c0, .slice B0 t0.kids.length d0] 25)).alloc (.cells #[.int .i64 t2.op, .int .i64 t2.num, .slice A2 t2.perm.length c2, .slice B2 t2.kids.length d2] 25)) w' → w'.cell? ⟨w.heap.size + 1, 0, none⟩ = some (.int .i64 t2.op) ∧ w'.cell? ⟨w.heap.size + 1, 1, none⟩ = some (.int .i64 t2.num) ∧ w'.cell? ⟨w.heap.size + 1, 2, none⟩ = some (.slice A2 t2.perm.length c2) ∧ w'.cell? ⟨w.heap.size + 1, 3, none⟩ = some (.slice B2 t2.kids.length d2)) := Lib.hid (fun w' h => ⟨(h.cell (p := ⟨w.heap.size + 1, 0, none⟩) lt2).trans b20, (h.cell (p := ⟨w.heap.size + 1, 1, none⟩) lt2).trans b21, (h.cell (p := ⟨w.heap.size + 1, 2, none⟩) lt2).trans b22, (h.cell (p := ⟨w.heap.size + 1, 3, none⟩) lt2).trans b23⟩)
  clear hp0 hk0 kk0 lt0 hs0 hp2 hk2 kk2 lt2 hs2 hA1
  have HC0 : Hid (Below ((w.alloc (.cells #[.int .i64 t0.op, .int .i64 t0.num, .slice A0 t0.perm.length c0, .slice B0 t0.kids.length d0] 25)).alloc (.cells #[.int .i64 t2.op, .int .i64 t2.num, .slice A2 t2.perm.length c2, .slice B2 t2.kids.length d2] 25)).heap.size ((w.alloc (.cells #[.int .i64 t0.op, .int .i64 t0.num, .slice A0 t0.perm.length c0, .slice B0 t0.kids.length d0] 25)).alloc (.cells #[.int .i64 t2.op, .int .i64 t2.num, .slice A2 t2.perm.length c2, .slice B2 t2.kids.length d2] 25)) ((w.alloc (.cells #[.int .i64 t0.op, .int .i64 t0.num, .slice A0 t0.perm.length c0, .slice B0 t0.kids.length d0] 25)).alloc (.cells #[.int .i64 t2.op, .int .i64 t2.num, .slice A2 t2.perm.length c2, .slice B2 t2.kids.length d2] 25))) := Lib.hid (Below.refl _ _)
  have HW0 := Lib.hid hb0
  clear hb0
  go_enter Try.func13, Try.ntmps13
  have hbig : 1048576 < l1.length := by omega
  have hfin := HW0.out
  clear hn1 b00 b01 b02 b03 b20 b21 b22 b23
  go_wp2
  go_ret
  exact ⟨rfl, hfin⟩

set_option maxRecDepth 100000 in
set_option maxHeartbeats 16000000 in
theorem walk_no0 (w : World) (x0 : Value) (t0 : Tm) (hx0 : TmIn w x0 t0) (hs0 : Short t0) (A1 : Option Addr) (c1 : Nat) (l1 : List Int) (hA1 : IntsAt w A1 l1) (hm1 : l1.length ≤ maxLen) (x2 : Value) (t2 : Tm) (hx2 : TmIn w x2 t2) (hs2 : Short t2) (hn1 : l1.length ≤ 1048576) (hn0 : ¬ (cntT t0 : Int) ≤ 1048576) :
    Calls Try.prog 13 #[x0, .slice A1 l1.length c1, x2] w fun e w' => e = .returned (.bool true) ∧ Below w.heap.size w w' := by
  unfold maxLen at hm1
  obtain ⟨A0, c0, kv0, rfl, hp0, hk0⟩ := hx0
  obtain ⟨B0, d0, rfl⟩ := hk0.form
  have hsh0 := (short_eq t0).1 hs0
  obtain ⟨A2, c2, kv2, rfl, hp2, hk2⟩ := hx2
  obtain ⟨B2, d2, rfl⟩ := hk2.form
  have hsh2 := (short_eq t2).1 hs2
  have hb0 : Below w.heap.size w ((w.alloc (.cells #[.int .i64 t0.op, .int .i64 t0.num, .slice A0 t0.perm.length c0, .slice B0 t0.kids.length d0] 25)).alloc (.cells #[.int .i64 t2.op, .int .i64 t2.num, .slice A2 t2.perm.length c2, .slice B2 t2.kids.length d2] 25)) := (((Below.refl _ w).alloc (by first | exact Nat.le_refl _ | (simp; done) | (simp; omega)) _).alloc (by first | exact Nat.le_refl _ | (simp; done) | (simp; omega)) _)
  have HI0 : Hid (∀ w' : World, Below ((w.alloc (.cells #[.int .i64 t0.op, .int .i64 t0.num, .slice A0 t0.perm.length c0, .slice B0 t0.kids.length d0] 25)).alloc (.cells #[.int .i64 t2.op, .int .i64 t2.num, .slice A2 t2.perm.length c2, .slice B2 t2.kids.length d2] 25)).heap.size ((w.alloc (.cells #[.int .i64 t0.op, .int .i64 t0.num, .slice A0 t0.perm.length c0, .slice B0 t0.kids.length d0] 25)).alloc (.cells #[.int .i64 t2.op, .int .i64 t2.num, .slice A2 t2.perm.length c2, .slice B2 t2.kids.length d2] 25)) w' → TmIn w' (.agg #[.int .i64 t0.op, .int .i64 t0.num, .slice A0 t0.perm.length c0, .slice B0 t0.kids.length d0]) t0) := Lib.hid (fun w' h => ⟨A0, c0, _, rfl, hp0.below (hb0.trans (h.mono hb0.size)), hk0.below (hb0.trans (h.mono hb0.size))⟩)
  have HI2 : Hid (∀ w' : World, Below ((w.alloc (.cells #[.int .i64 t0.op, .int .i64 t0.num, .slice A0 t0.perm.length c0, .slice B0 t0.kids.length d0] 25)).alloc (.cells #[.int .i64 t2.op, .int .i64 t2.num, .slice A2 t2.perm.length c2, .slice B2 t2.kids.length d2] 25)).heap.size ((w.alloc (.cells #[.int .i64 t0.op, .int .i64 t0.num, .slice A0 t0.perm.length c0, .slice B0 t0.kids.length d0] 25)).alloc (.cells #[.int .i64 t2.op, .int .i64 t2.num, .slice A2 t2.perm.length c2, .slice B2 t2.kids.length d2] 25)) w' → TmIn w' (.agg #[.int .i64 t2.op, .int .i64 t2.num, .slice A2 t2.perm.length c2, .slice B2 t2.kids.length d2]) t2) := Lib.hid (fun w' h => ⟨A2, c2, _, rfl, hp2.below (hb0.trans (h.mono hb0.size)), hk2.below (hb0.trans (h.mono hb0.size))⟩)
  have HI1 : Hid (∀ w' : World, Below ((w.alloc (.cells #[.int .i64 t0.op, .int .i64 t0.num, .slice A0 t0.perm.length c0, .slice B0 t0.kids.length d0] 25)).alloc (.cells #[.int .i64 t2.op, .int .i64 t2.num, .slice A2 t2.perm.length c2, .slice B2 t2.kids.length d2] 25)).heap.size ((w.alloc (.cells #[.int .i64 t0.op, .int .i64 t0.num, .slice A0 t0.perm.length c0, .slice B0 t0.kids.length d0] 25)).alloc (.cells #[.int .i64 t2.op, .int .i64 t2.num, .slice A2 t2.perm.length c2, .slice B2 t2.kids.length d2] 25)) w' → IntsAt w' A1 l1) := Lib.hid (fun w' h => hA1.below (hb0.trans (h.mono hb0.size)))
  have kk0 : ((w.alloc (.cells #[.int .i64 t0.op, .int .i64 t0.num, .slice A0 t0.perm.length c0, .slice B0 t0.kids.length d0] 25)).alloc (.cells #[.int .i64 t2.op, .int .i64 t2.num, .slice A2 t2.perm.length c2, .slice B2 t2.kids.length d2] 25)).heap[w.heap.size]? = some (.cells #[.int .i64 t0.op, .int .i64 t0.num, .slice A0 t0.perm.length c0, .slice B0 t0.kids.length d0] 25 (0, 0)) := by
    have h := heap_alloc_new w (.cells #[.int .i64 t0.op, .int .i64 t0.num, .slice A0 t0.perm.length c0, .slice B0 t0.kids.length d0] 25)
    exact ((Below.heap_alloc _ _ _ (by first | (simp; done) | (simp; omega))).trans h)
  obtain ⟨b00, b01, b02, b03⟩ := Args4.row4 kk0
  have lt0 : w.heap.size < ((w.alloc (.cells #[.int .i64 t0.op, .int .i64 t0.num, .slice A0 t0.perm.length c0, .slice B0 t0.kids.length d0] 25)).alloc (.cells #[.int .i64 t2.op, .int .i64 t2.num, .slice A2 t2.perm.length c2, .slice B2 t2.kids.length d2] 25)).heap.size := by first | (simp; done) | (simp; omega)
  have kk2 : ((w.alloc (.cells #[.int .i64 t0.op, .int .i64 t0.num, .slice A0 t0.perm.length c0, .slice B0 t0.kids.length d0] 25)).alloc (.cells #[.int .i64 t2.op, .int .i64 t2.num, .slice A2 t2.perm.length c2, .slice B2 t2.kids.length d2] 25)).heap[w.heap.size + 1]? = some (.cells #[.int .i64 t2.op, .int .i64 t2.num, .slice A2 t2.perm.length c2, .slice B2 t2.kids.length d2] 25 (0, 0)) := by
    have h := heap_alloc_new (w.alloc (.cells #[.int .i64 t0.op, .int .i64 t0.num, .slice A0 t0.perm.length c0, .slice B0 t0.kids.length d0] 25)) (.cells #[.int .i64 t2.op, .int .i64 t2.num, .slice A2 t2.perm.length c2, .slice B2 t2.kids.length d2] 25)
    simp only [World.size_alloc] at h
    exact h
  obtain ⟨b20, b21, b22, b23⟩ := Args4.row4 kk2
  have lt2 : w.heap.size + 1 < ((w.alloc (.cells #[.int .i64 t0.op, .int .i64 t0.num, .slice A0 t0.perm.length c0, .slice B0 t0.kids.length d0] 25)).alloc (.cells #[.int .i64 t2.op, .int .i64 t2.num, .slice A2 t2.perm.length c2, .slice B2 t2.kids.length d2] 25)).heap.size := by first | (simp; done) | (simp; omega)
  have HB0 : Hid (∀ w' : World, Below ((w.alloc (.cells #[.int .i64 t0.op, .int .i64 t0.num, .slice A0 t0.perm.length c0, .slice B0 t0.kids.length d0] 25)).alloc (.cells #[.int .i64 t2.op, .int .i64 t2.num, .slice A2 t2.perm.length c2, .slice B2 t2.kids.length d2] 25)).heap.size ((w.alloc (.cells #[.int .i64 t0.op, .int .i64 t0.num, .slice A0 t0.perm.length c0, .slice B0 t0.kids.length d0] 25)).alloc (.cells #[.int .i64 t2.op, .int .i64 t2.num, .slice A2 t2.perm.length c2, .slice B2 t2.kids.length d2] 25)) w' → w'.cell? ⟨w.heap.size, 0, none⟩ = some (.int .i64 t0.op) ∧ w'.cell? ⟨w.heap.size, 1, none⟩ = some (.int .i64 t0.num) ∧ w'.cell? ⟨w.heap.size, 2, none⟩ = some (.slice A0 t0.perm.length c0) ∧ w'.cell? ⟨w.heap.size, 3, none⟩ = some (.slice B0 t0.kids.length d0)) := Lib.hid (fun w' h => ⟨(h.cell (p := ⟨w.heap.size, 0, none⟩) lt0).trans b00, (h.cell (p := ⟨w.heap.size, 1, none⟩) lt0).trans b01, (h.cell (p := ⟨w.heap.size, 2, none⟩) lt0).trans b02, (h.cell (p := ⟨w.heap.size, 3, none⟩) lt0).trans b03⟩)
  have HB2 : Hid (∀ w' : World, Below ((w.alloc (.cells #[.int .i64 t0.op, .int .i64 t0.num, .slice A0 t0.perm.length c0, .slice B0 t0.kids.length d0] 25)).alloc (.cells #[.int .i64 t2.op, .int .i64 t2.num, .slice A2 t2.perm.length c2, .slice B2 t2.kids.length d2] 25)).heap.size ((w.alloc (.cells #[.int .i64 t0.op, .int .i64 t0.num, .slice A0 t0.perm.length c0, .slice B0 t0.kids.length d0] 25)).alloc (.cells #[.int .i64 t2.op, .int .i64 t2.num, .slice A2 t2.perm.length c2, .slice B2 t2.kids.length d2] 25)) w' → w'.cell? ⟨w.heap.size + 1, 0, none⟩ = some (.int .i64 t2.op) ∧ w'.cell? ⟨w.heap.size + 1, 1, none⟩ = some (.int .i64 t2.num) ∧ w'.cell? ⟨w.heap.size + 1, 2, none⟩ = some (.slice A2 t2.perm.length c2) ∧ w'.cell? ⟨w.heap.size + 1, 3, none⟩ = some (.slice B2 t2.kids.length d2)) := Lib.hid (fun w' h => ⟨(h.cell (p := ⟨w.heap.size + 1, 0, none⟩) lt2).trans b20, (h.cell (p := ⟨w.heap.size + 1, 1, none⟩) lt2).trans b21, (h.cell (p := ⟨w.heap.size + 1, 2, none⟩) lt2).trans b22, (h.cell (p := ⟨w.heap.size + 1, 3, none⟩) lt2).trans b23⟩)
  clear hp0 hk0 kk0 lt0 hs0 hp2 hk2 kk2 lt2 hs2 hA1
  have HC0 : Hid (Below ((w.alloc (.cells #[.int .i64 t0.op, .int .i64 t0.num, .slice A0 t0.perm.length c0, .slice B0 t0.kids.length d0] 25)).alloc (.cells #[.int .i64 t2.op, .int .i64 t2.num, .slice A2 t2.perm.length c2, .slice B2 t2.kids.length d2] 25)).heap.size ((w.alloc (.cells #[.int .i64 t0.op, .int .i64 t0.num, .slice A0 t0.perm.length c0, .slice B0 t0.kids.length d0] 25)).alloc (.cells #[.int .i64 t2.op, .int .i64 t2.num, .slice A2 t2.perm.length c2, .slice B2 t2.kids.length d2] 25)) ((w.alloc (.cells #[.int .i64 t0.op, .int .i64 t0.num, .slice A0 t0.perm.length c0, .slice B0 t0.kids.length d0] 25)).alloc (.cells #[.int .i64 t2.op, .int .i64 t2.num, .slice A2 t2.perm.length c2, .slice B2 t2.kids.length d2] 25))) := Lib.hid (Below.refl _ _)
  have HW0 := Lib.hid hb0
  clear hb0
  go_enter Try.func13, Try.ntmps13
  have hsz := szTerm_of t0 _ _ (1048576) (by omega) (by omega) (HI0.out ((w.alloc (.cells #[.int .i64 t0.op, .int .i64 t0.num, .slice A0 t0.perm.length c0, .slice B0 t0.kids.length d0] 25)).alloc (.cells #[.int .i64 t2.op, .int .i64 t2.num, .slice A2 t2.perm.length c2, .slice B2 t2.kids.length d2] 25)) HC0.out) hsh0.1 fun l' w' y g0 g1 hy => szTermS_any _ t0.kids (Nat.le_refl _) hsh0.2.2 hsh0.2.1 l' w' y g0 g1 hy
  unfold LeftPost at hsz
  rw [leftR_no (by omega)] at hsz
  go_wp2_with fail
  refine hsz.mono ?_
  rintro e u1 ⟨rfl, hb⟩
  clear hsz b00 b01 b02 b03 b20 b21 b22 b23
  have s2 : ((w.alloc (.cells #[.int .i64 t0.op, .int .i64 t0.num, .slice A0 t0.perm.length c0, .slice B0 t0.kids.length d0] 25)).alloc (.cells #[.int .i64 t2.op, .int .i64 t2.num, .slice A2 t2.perm.length c2, .slice B2 t2.kids.length d2] 25)).heap.size ≤ u1.heap.size := hb.size
  have HC2 := Lib.hid (HC0.out.trans (hb.mono HC0.out.size))
  clear hb HC0
  have hfin := HW0.out.trans (HC2.out.mono HW0.out.size)
  go_wp2
  go_ret
  exact ⟨rfl, hfin⟩

set_option maxRecDepth 100000 in
set_option maxHeartbeats 16000000 in
theorem walk_no2 (w : World) (x0 : Value) (t0 : Tm) (hx0 : TmIn w x0 t0) (hs0 : Short t0) (A1 : Option Addr) (c1 : Nat) (l1 : List Int) (hA1 : IntsAt w A1 l1) (hm1 : l1.length ≤ maxLen) (x2 : Value) (t2 : Tm) (hx2 : TmIn w x2 t2) (hs2 : Short t2) (hn1 : l1.length ≤ 1048576) (hn0 : (cntT t0 : Int) ≤ 1048576) (hn2 : ¬ (cntT t2 : Int) ≤ 1048576 - (cntT t0 : Int)) :
    Calls Try.prog 13 #[x0, .slice A1 l1.length c1, x2] w fun e w' => e = .returned (.bool true) ∧ Below w.heap.size w w' := by
  unfold maxLen at hm1
  obtain ⟨A0, c0, kv0, rfl, hp0, hk0⟩ := hx0
  obtain ⟨B0, d0, rfl⟩ := hk0.form
  have hsh0 := (short_eq t0).1 hs0
  obtain ⟨A2, c2, kv2, rfl, hp2, hk2⟩ := hx2
  obtain ⟨B2, d2, rfl⟩ := hk2.form
  have hsh2 := (short_eq t2).1 hs2
  have hb0 : Below w.heap.size w ((w.alloc (.cells #[.int .i64 t0.op, .int .i64 t0.num, .slice A0 t0.perm.length c0, .slice B0 t0.kids.length d0] 25)).alloc (.cells #[.int .i64 t2.op, .int .i64 t2.num, .slice A2 t2.perm.length c2, .slice B2 t2.kids.length d2] 25)) := (((Below.refl _ w).alloc (by first | exact Nat.le_refl _ | (simp; done) | (simp; omega)) _).alloc (by first | exact Nat.le_refl _ | (simp; done) | (simp; omega)) _)
  have HI0 : Hid (∀ w' : World, Below ((w.alloc (.cells #[.int .i64 t0.op, .int .i64 t0.num, .slice A0 t0.perm.length c0, .slice B0 t0.kids.length d0] 25)).alloc (.cells #[.int .i64 t2.op, .int .i64 t2.num, .slice A2 t2.perm.length c2, .slice B2 t2.kids.length d2] 25)).heap.size ((w.alloc (.cells #[.int .i64 t0.op, .int .i64 t0.num, .slice A0 t0.perm.length c0, .slice B0 t0.kids.length d0] 25)).alloc (.cells #[.int .i64 t2.op, .int .i64 t2.num, .slice A2 t2.perm.length c2, .slice B2 t2.kids.length d2] 25)) w' → TmIn w' (.agg #[.int .i64 t0.op, .int .i64 t0.num, .slice A0 t0.perm.length c0, .slice B0 t0.kids.length d0]) t0) := Lib.hid (fun w' h => ⟨A0, c0, _, rfl, hp0.below (hb0.trans (h.mono hb0.size)), hk0.below (hb0.trans (h.mono hb0.size))⟩)
  have HI2 : Hid (∀ w' : World, Below ((w.alloc (.cells #[.int .i64 t0.op, .int .i64 t0.num, .slice A0 t0.perm.length c0, .slice B0 t0.kids.length d0] 25)).alloc (.cells #[.int .i64 t2.op, .int .i64 t2.num, .slice A2 t2.perm.length c2, .slice B2 t2.kids.length d2] 25)).heap.size ((w.alloc (.cells #[.int .i64 t0.op, .int .i64 t0.num, .slice A0 t0.perm.length c0, .slice B0 t0.kids.length d0] 25)).alloc (.cells #[.int .i64 t2.op, .int .i64 t2.num, .slice A2 t2.perm.length c2, .slice B2 t2.kids.length d2] 25)) w' → TmIn w' (.agg #[.int .i64 t2.op, .int .i64 t2.num, .slice A2 t2.perm.length c2, .slice B2 t2.kids.length d2]) t2) := Lib.hid (fun w' h => ⟨A2, c2, _, rfl, hp2.below (hb0.trans (h.mono hb0.size)), hk2.below (hb0.trans (h.mono hb0.size))⟩)
  have HI1 : Hid (∀ w' : World, Below ((w.alloc (.cells #[.int .i64 t0.op, .int .i64 t0.num, .slice A0 t0.perm.length c0, .slice B0 t0.kids.length d0] 25)).alloc (.cells #[.int .i64 t2.op, .int .i64 t2.num, .slice A2 t2.perm.length c2, .slice B2 t2.kids.length d2] 25)).heap.size ((w.alloc (.cells #[.int .i64 t0.op, .int .i64 t0.num, .slice A0 t0.perm.length c0, .slice B0 t0.kids.length d0] 25)).alloc (.cells #[.int .i64 t2.op, .int .i64 t2.num, .slice A2 t2.perm.length c2, .slice B2 t2.kids.length d2] 25)) w' → IntsAt w' A1 l1) := Lib.hid (fun w' h => hA1.below (hb0.trans (h.mono hb0.size)))
  have kk0 : ((w.alloc (.cells #[.int .i64 t0.op, .int .i64 t0.num, .slice A0 t0.perm.length c0, .slice B0 t0.kids.length d0] 25)).alloc (.cells #[.int .i64 t2.op, .int .i64 t2.num, .slice A2 t2.perm.length c2, .slice B2 t2.kids.length d2] 25)).heap[w.heap.size]? = some (.cells #[.int .i64 t0.op, .int .i64 t0.num, .slice A0 t0.perm.length c0, .slice B0 t0.kids.length d0] 25 (0, 0)) := by
    have h := heap_alloc_new w (.cells #[.int .i64 t0.op, .int .i64 t0.num, .slice A0 t0.perm.length c0, .slice B0 t0.kids.length d0] 25)
    exact ((Below.heap_alloc _ _ _ (by first | (simp; done) | (simp; omega))).trans h)
  obtain ⟨b00, b01, b02, b03⟩ := Args4.row4 kk0
  have lt0 : w.heap.size < ((w.alloc (.cells #[.int .i64 t0.op, .int .i64 t0.num, .slice A0 t0.perm.length c0, .slice B0 t0.kids.length d0] 25)).alloc (.cells #[.int .i64 t2.op, .int .i64 t2.num, .slice A2 t2.perm.length c2, .slice B2 t2.kids.length d2] 25)).heap.size := by first | (simp; done) | (simp; omega)
  have kk2 : ((w.alloc (.cells #[.int .i64 t0.op, .int .i64 t0.num, .slice A0 t0.perm.length c0, .slice B0 t0.kids.length d0] 25)).alloc (.cells #[.int .i64 t2.op, .int .i64 t2.num, .slice A2 t2.perm.length c2, .slice B2 t2.kids.length d2] 25)).heap[w.heap.size + 1]? = some (.cells #[.int .i64 t2.op, .int .i64 t2.num, .slice A2 t2.perm.length c2, .slice B2 t2.kids.length d2] 25 (0, 0)) := by
    have h := heap_alloc_new (w.alloc (.cells #[.int .i64 t0.op, .int .i64 t0.num, .slice A0 t0.perm.length c0, .slice B0 t0.kids.length d0] 25)) (.cells #[.int .i64 t2.op, .int .i64 t2.num, .slice A2 t2.perm.length c2, .slice B2 t2.kids.length d2] 25)
    simp only [World.size_alloc] at h
    exact h
  obtain ⟨b20, b21, b22, b23⟩ := Args4.row4 kk2
  have lt2 : w.heap.size + 1 < ((w.alloc (.cells #[.int .i64 t0.op, .int .i64 t0.num, .slice A0 t0.perm.length c0, .slice B0 t0.kids.length d0] 25)).alloc (.cells #[.int .i64 t2.op, .int .i64 t2.num, .slice A2 t2.perm.length c2, .slice B2 t2.kids.length d2] 25)).heap.size := by first | (simp; done) | (simp; omega)
  have HB0 : Hid (∀ w' : World, Below ((w.alloc (.cells #[.int .i64 t0.op, .int .i64 t0.num, .slice A0 t0.perm.length c0, .slice B0 t0.kids.length d0] 25)).alloc (.cells #[.int .i64 t2.op, .int .i64 t2.num, .slice A2 t2.perm.length c2, .slice B2 t2.kids.length d2] 25)).heap.size ((w.alloc (.cells #[.int .i64 t0.op, .int .i64 t0.num, .slice A0 t0.perm.length c0, .slice B0 t0.kids.length d0] 25)).alloc (.cells #[.int .i64 t2.op, .int .i64 t2.num, .slice A2 t2.perm.length c2, .slice B2 t2.kids.length d2] 25)) w' → w'.cell? ⟨w.heap.size, 0, none⟩ = some (.int .i64 t0.op) ∧ w'.cell? ⟨w.heap.size, 1, none⟩ = some (.int .i64 t0.num) ∧ w'.cell? ⟨w.heap.size, 2, none⟩ = some (.slice A0 t0.perm.length c0) ∧ w'.cell? ⟨w.heap.size, 3, none⟩ = some (.slice B0 t0.kids.length d0)) := Lib.hid (fun w' h => ⟨(h.cell (p := ⟨w.heap.size, 0, none⟩) lt0).trans b00, (h.cell (p := ⟨w.heap.size, 1, none⟩) lt0).trans b01, (h.cell (p := ⟨w.heap.size, 2, none⟩) lt0).trans b02, (h.cell (p := ⟨w.heap.size, 3, none⟩) lt0).trans b03⟩)
  have HB2 : Hid (∀ w' : World, Below ((w.alloc (.cells #[.int .i64 t0.op, .int .i64 t0.num, .slice A0 t0.perm.length c0, .slice B0 t0.kids.length d0] 25)).alloc (.cells #[.int .i64 t2.op, .int .i64 t2.num, .slice A2 t2.perm.length c2, .slice B2 t2.kids.length d2] 25)).heap.size ((w.alloc (.cells #[.int .i64 t0.op, .int .i64 t0.num, .slice A0 t0.perm.length c0, .slice B0 t0.kids.length d0] 25)).alloc (.cells #[.int .i64 t2.op, .int .i64 t2.num, .slice A2 t2.perm.length c2, .slice B2 t2.kids.length d2] 25)) w' → w'.cell? ⟨w.heap.size + 1, 0, none⟩ = some (.int .i64 t2.op) ∧ w'.cell? ⟨w.heap.size + 1, 1, none⟩ = some (.int .i64 t2.num) ∧ w'.cell? ⟨w.heap.size + 1, 2, none⟩ = some (.slice A2 t2.perm.length c2) ∧ w'.cell? ⟨w.heap.size + 1, 3, none⟩ = some (.slice B2 t2.kids.length d2)) := Lib.hid (fun w' h => ⟨(h.cell (p := ⟨w.heap.size + 1, 0, none⟩) lt2).trans b20, (h.cell (p := ⟨w.heap.size + 1, 1, none⟩) lt2).trans b21, (h.cell (p := ⟨w.heap.size + 1, 2, none⟩) lt2).trans b22, (h.cell (p := ⟨w.heap.size + 1, 3, none⟩) lt2).trans b23⟩)
  clear hp0 hk0 kk0 lt0 hs0 hp2 hk2 kk2 lt2 hs2 hA1
  have HC0 : Hid (Below ((w.alloc (.cells #[.int .i64 t0.op, .int .i64 t0.num, .slice A0 t0.perm.length c0, .slice B0 t0.kids.length d0] 25)).alloc (.cells #[.int .i64 t2.op, .int .i64 t2.num, .slice A2 t2.perm.length c2, .slice B2 t2.kids.length d2] 25)).heap.size ((w.alloc (.cells #[.int .i64 t0.op, .int .i64 t0.num, .slice A0 t0.perm.length c0, .slice B0 t0.kids.length d0] 25)).alloc (.cells #[.int .i64 t2.op, .int .i64 t2.num, .slice A2 t2.perm.length c2, .slice B2 t2.kids.length d2] 25)) ((w.alloc (.cells #[.int .i64 t0.op, .int .i64 t0.num, .slice A0 t0.perm.length c0, .slice B0 t0.kids.length d0] 25)).alloc (.cells #[.int .i64 t2.op, .int .i64 t2.num, .slice A2 t2.perm.length c2, .slice B2 t2.kids.length d2] 25))) := Lib.hid (Below.refl _ _)
  have HW0 := Lib.hid hb0
  clear hb0
  go_enter Try.func13, Try.ntmps13
  have hsz := szTerm_of t0 _ _ (1048576) (by omega) (by omega) (HI0.out ((w.alloc (.cells #[.int .i64 t0.op, .int .i64 t0.num, .slice A0 t0.perm.length c0, .slice B0 t0.kids.length d0] 25)).alloc (.cells #[.int .i64 t2.op, .int .i64 t2.num, .slice A2 t2.perm.length c2, .slice B2 t2.kids.length d2] 25)) HC0.out) hsh0.1 fun l' w' y g0 g1 hy => szTermS_any _ t0.kids (Nat.le_refl _) hsh0.2.2 hsh0.2.1 l' w' y g0 g1 hy
  unfold LeftPost at hsz
  rw [leftR_yes hn0] at hsz
  have hleft0 : ¬ 1048576 - (cntT t0 : Int) < 0 := by omega
  go_wp2_with fail
  refine hsz.mono ?_
  rintro e u1 ⟨rfl, hb⟩
  clear hsz b00 b01 b02 b03 b20 b21 b22 b23
  have s2 : ((w.alloc (.cells #[.int .i64 t0.op, .int .i64 t0.num, .slice A0 t0.perm.length c0, .slice B0 t0.kids.length d0] 25)).alloc (.cells #[.int .i64 t2.op, .int .i64 t2.num, .slice A2 t2.perm.length c2, .slice B2 t2.kids.length d2] 25)).heap.size ≤ u1.heap.size := hb.size
  have HC2 := Lib.hid (HC0.out.trans (hb.mono HC0.out.size))
  clear hb HC0
  obtain ⟨b20, b21, b22, b23⟩ := HB2.out u1 HC2.out
  have hsz := szTerm_of t2 _ _ (1048576 - (cntT t0 : Int)) (by omega) (by omega) (HI2.out u1 HC2.out) hsh2.1 fun l' w' y g0 g1 hy => szTermS_any _ t2.kids (Nat.le_refl _) hsh2.2.2 hsh2.2.1 l' w' y g0 g1 hy
  unfold LeftPost at hsz
  rw [leftR_no (by omega)] at hsz
  go_wp2_with fail
  refine hsz.mono ?_
  rintro e u3 ⟨rfl, hb⟩
  clear hsz b20 b21 b22 b23
  have s4 : u1.heap.size ≤ u3.heap.size := hb.size
  have HC4 := Lib.hid (HC2.out.trans (hb.mono HC2.out.size))
  clear hb HC2
  have hfin := HW0.out.trans (HC4.out.mono HW0.out.size)
  go_wp2
  go_ret
  exact ⟨rfl, hfin⟩

set_option maxRecDepth 100000 in
set_option maxHeartbeats 16000000 in
theorem walk_yes (w : World) (x0 : Value) (t0 : Tm) (hx0 : TmIn w x0 t0) (hs0 : Short t0) (A1 : Option Addr) (c1 : Nat) (l1 : List Int) (hA1 : IntsAt w A1 l1) (hm1 : l1.length ≤ maxLen) (x2 : Value) (t2 : Tm) (hx2 : TmIn w x2 t2) (hs2 : Short t2) (hn1 : l1.length ≤ 1048576) (hn0 : (cntT t0 : Int) ≤ 1048576) (hn2 : (cntT t2 : Int) ≤ 1048576 - (cntT t0 : Int)) :
    Calls Try.prog 13 #[x0, .slice A1 l1.length c1, x2] w fun e w' => e = .returned (.bool true) ∧ Below w.heap.size w w' := by
  have HN0 : Hid (cntT t0 ≤ 1048576) := Lib.hid (by omega)
  have HF0 := Lib.hid (fit_of t0 HN0.out)
  have hmk0 : t0.perm.length * 2 + mcTs t0.kids ≤ 2097152 := by
    have h1 := mcTs_le t0.kids
    have h2 := cntT_eq t0
    omega
  have HN1 : Hid (l1.length ≤ 1048576) := Lib.hid (by omega)
  have HN2 : Hid (cntT t2 ≤ 1048576) := Lib.hid (by omega)
  have HF2 := Lib.hid (fit_of t2 HN2.out)
  have hmk2 : t2.perm.length * 2 + mcTs t2.kids ≤ 2097152 := by
    have h1 := mcTs_le t2.kids
    have h2 := cntT_eq t2
    omega
  have HFR := Lib.hid (show Fit (orT (putT t0 l1 t2) (putB t0 l1 t2)) from fit_put)
  have hmR : mcR (orT (putT t0 l1 t2) (putB t0 l1 t2)) ≤ 2097152 := mc_put
  generalize hL : orT (putT t0 l1 t2) (putB t0 l1 t2) = R at HFR hmR
  have HL := Lib.hid hL
  clear hL
  generalize hFF : putB t0 l1 t2 = fl
  have HFL := Lib.hid hFF
  have hfl : (fl != fl) = false := by simp
  clear hFF
  unfold maxLen at hm1
  obtain ⟨A0, c0, kv0, rfl, hp0, hk0⟩ := hx0
  obtain ⟨B0, d0, rfl⟩ := hk0.form
  have hsh0 := (short_eq t0).1 hs0
  obtain ⟨A2, c2, kv2, rfl, hp2, hk2⟩ := hx2
  obtain ⟨B2, d2, rfl⟩ := hk2.form
  have hsh2 := (short_eq t2).1 hs2
  have hb0 : Below w.heap.size w ((w.alloc (.cells #[.int .i64 t0.op, .int .i64 t0.num, .slice A0 t0.perm.length c0, .slice B0 t0.kids.length d0] 25)).alloc (.cells #[.int .i64 t2.op, .int .i64 t2.num, .slice A2 t2.perm.length c2, .slice B2 t2.kids.length d2] 25)) := (((Below.refl _ w).alloc (by first | exact Nat.le_refl _ | (simp; done) | (simp; omega)) _).alloc (by first | exact Nat.le_refl _ | (simp; done) | (simp; omega)) _)
  have HI0 : Hid (∀ w' : World, Below ((w.alloc (.cells #[.int .i64 t0.op, .int .i64 t0.num, .slice A0 t0.perm.length c0, .slice B0 t0.kids.length d0] 25)).alloc (.cells #[.int .i64 t2.op, .int .i64 t2.num, .slice A2 t2.perm.length c2, .slice B2 t2.kids.length d2] 25)).heap.size ((w.alloc (.cells #[.int .i64 t0.op, .int .i64 t0.num, .slice A0 t0.perm.length c0, .slice B0 t0.kids.length d0] 25)).alloc (.cells #[.int .i64 t2.op, .int .i64 t2.num, .slice A2 t2.perm.length c2, .slice B2 t2.kids.length d2] 25)) w' → TmIn w' (.agg #[.int .i64 t0.op, .int .i64 t0.num, .slice A0 t0.perm.length c0, .slice B0 t0.kids.length d0]) t0) := Lib.hid (fun w' h => ⟨A0, c0, _, rfl, hp0.below (hb0.trans (h.mono hb0.size)), hk0.below (hb0.trans (h.mono hb0.size))⟩)
  have HI2 : Hid (∀ w' : World, Below ((w.alloc (.cells #[.int .i64 t0.op, .int .i64 t0.num, .slice A0 t0.perm.length c0, .slice B0 t0.kids.length d0] 25)).alloc (.cells #[.int .i64 t2.op, .int .i64 t2.num, .slice A2 t2.perm.length c2, .slice B2 t2.kids.length d2] 25)).heap.size ((w.alloc (.cells #[.int .i64 t0.op, .int .i64 t0.num, .slice A0 t0.perm.length c0, .slice B0 t0.kids.length d0] 25)).alloc (.cells #[.int .i64 t2.op, .int .i64 t2.num, .slice A2 t2.perm.length c2, .slice B2 t2.kids.length d2] 25)) w' → TmIn w' (.agg #[.int .i64 t2.op, .int .i64 t2.num, .slice A2 t2.perm.length c2, .slice B2 t2.kids.length d2]) t2) := Lib.hid (fun w' h => ⟨A2, c2, _, rfl, hp2.below (hb0.trans (h.mono hb0.size)), hk2.below (hb0.trans (h.mono hb0.size))⟩)
  have HI1 : Hid (∀ w' : World, Below ((w.alloc (.cells #[.int .i64 t0.op, .int .i64 t0.num, .slice A0 t0.perm.length c0, .slice B0 t0.kids.length d0] 25)).alloc (.cells #[.int .i64 t2.op, .int .i64 t2.num, .slice A2 t2.perm.length c2, .slice B2 t2.kids.length d2] 25)).heap.size ((w.alloc (.cells #[.int .i64 t0.op, .int .i64 t0.num, .slice A0 t0.perm.length c0, .slice B0 t0.kids.length d0] 25)).alloc (.cells #[.int .i64 t2.op, .int .i64 t2.num, .slice A2 t2.perm.length c2, .slice B2 t2.kids.length d2] 25)) w' → IntsAt w' A1 l1) := Lib.hid (fun w' h => hA1.below (hb0.trans (h.mono hb0.size)))
  have kk0 : ((w.alloc (.cells #[.int .i64 t0.op, .int .i64 t0.num, .slice A0 t0.perm.length c0, .slice B0 t0.kids.length d0] 25)).alloc (.cells #[.int .i64 t2.op, .int .i64 t2.num, .slice A2 t2.perm.length c2, .slice B2 t2.kids.length d2] 25)).heap[w.heap.size]? = some (.cells #[.int .i64 t0.op, .int .i64 t0.num, .slice A0 t0.perm.length c0, .slice B0 t0.kids.length d0] 25 (0, 0)) := by
    have h := heap_alloc_new w (.cells #[.int .i64 t0.op, .int .i64 t0.num, .slice A0 t0.perm.length c0, .slice B0 t0.kids.length d0] 25)
    exact ((Below.heap_alloc _ _ _ (by first | (simp; done) | (simp; omega))).trans h)
  obtain ⟨b00, b01, b02, b03⟩ := Args4.row4 kk0
  have lt0 : w.heap.size < ((w.alloc (.cells #[.int .i64 t0.op, .int .i64 t0.num, .slice A0 t0.perm.length c0, .slice B0 t0.kids.length d0] 25)).alloc (.cells #[.int .i64 t2.op, .int .i64 t2.num, .slice A2 t2.perm.length c2, .slice B2 t2.kids.length d2] 25)).heap.size := by first | (simp; done) | (simp; omega)
  have kk2 : ((w.alloc (.cells #[.int .i64 t0.op, .int .i64 t0.num, .slice A0 t0.perm.length c0, .slice B0 t0.kids.length d0] 25)).alloc (.cells #[.int .i64 t2.op, .int .i64 t2.num, .slice A2 t2.perm.length c2, .slice B2 t2.kids.length d2] 25)).heap[w.heap.size + 1]? = some (.cells #[.int .i64 t2.op, .int .i64 t2.num, .slice A2 t2.perm.length c2, .slice B2 t2.kids.length d2] 25 (0, 0)) := by
    have h := heap_alloc_new (w.alloc (.cells #[.int .i64 t0.op, .int .i64 t0.num, .slice A0 t0.perm.length c0, .slice B0 t0.kids.length d0] 25)) (.cells #[.int .i64 t2.op, .int .i64 t2.num, .slice A2 t2.perm.length c2, .slice B2 t2.kids.length d2] 25)
    simp only [World.size_alloc] at h
    exact h
  obtain ⟨b20, b21, b22, b23⟩ := Args4.row4 kk2
  have lt2 : w.heap.size + 1 < ((w.alloc (.cells #[.int .i64 t0.op, .int .i64 t0.num, .slice A0 t0.perm.length c0, .slice B0 t0.kids.length d0] 25)).alloc (.cells #[.int .i64 t2.op, .int .i64 t2.num, .slice A2 t2.perm.length c2, .slice B2 t2.kids.length d2] 25)).heap.size := by first | (simp; done) | (simp; omega)
  have HB0 : Hid (∀ w' : World, Below ((w.alloc (.cells #[.int .i64 t0.op, .int .i64 t0.num, .slice A0 t0.perm.length c0, .slice B0 t0.kids.length d0] 25)).alloc (.cells #[.int .i64 t2.op, .int .i64 t2.num, .slice A2 t2.perm.length c2, .slice B2 t2.kids.length d2] 25)).heap.size ((w.alloc (.cells #[.int .i64 t0.op, .int .i64 t0.num, .slice A0 t0.perm.length c0, .slice B0 t0.kids.length d0] 25)).alloc (.cells #[.int .i64 t2.op, .int .i64 t2.num, .slice A2 t2.perm.length c2, .slice B2 t2.kids.length d2] 25)) w' → w'.cell? ⟨w.heap.size, 0, none⟩ = some (.int .i64 t0.op) ∧ w'.cell? ⟨w.heap.size, 1, none⟩ = some (.int .i64 t0.num) ∧ w'.cell? ⟨w.heap.size, 2, none⟩ = some (.slice A0 t0.perm.length c0) ∧ w'.cell? ⟨w.heap.size, 3, none⟩ = some (.slice B0 t0.kids.length d0)) := Lib.hid (fun w' h => ⟨(h.cell (p := ⟨w.heap.size, 0, none⟩) lt0).trans b00, (h.cell (p := ⟨w.heap.size, 1, none⟩) lt0).trans b01, (h.cell (p := ⟨w.heap.size, 2, none⟩) lt0).trans b02, (h.cell (p := ⟨w.heap.size, 3, none⟩) lt0).trans b03⟩)
  have HB2 : Hid (∀ w' : World, Below ((w.alloc (.cells #[.int .i64 t0.op, .int .i64 t0.num, .slice A0 t0.perm.length c0, .slice B0 t0.kids.length d0] 25)).alloc (.cells #[.int .i64 t2.op, .int .i64 t2.num, .slice A2 t2.perm.length c2, .slice B2 t2.kids.length d2] 25)).heap.size ((w.alloc (.cells #[.int .i64 t0.op, .int .i64 t0.num, .slice A0 t0.perm.length c0, .slice B0 t0.kids.length d0] 25)).alloc (.cells #[.int .i64 t2.op, .int .i64 t2.num, .slice A2 t2.perm.length c2, .slice B2 t2.kids.length d2] 25)) w' → w'.cell? ⟨w.heap.size + 1, 0, none⟩ = some (.int .i64 t2.op) ∧ w'.cell? ⟨w.heap.size + 1, 1, none⟩ = some (.int .i64 t2.num) ∧ w'.cell? ⟨w.heap.size + 1, 2, none⟩ = some (.slice A2 t2.perm.length c2) ∧ w'.cell? ⟨w.heap.size + 1, 3, none⟩ = some (.slice B2 t2.kids.length d2)) := Lib.hid (fun w' h => ⟨(h.cell (p := ⟨w.heap.size + 1, 0, none⟩) lt2).trans b20, (h.cell (p := ⟨w.heap.size + 1, 1, none⟩) lt2).trans b21, (h.cell (p := ⟨w.heap.size + 1, 2, none⟩) lt2).trans b22, (h.cell (p := ⟨w.heap.size + 1, 3, none⟩) lt2).trans b23⟩)
  clear hp0 hk0 kk0 lt0 hs0 hp2 hk2 kk2 lt2 hs2 hA1
  have HC0 : Hid (Below ((w.alloc (.cells #[.int .i64 t0.op, .int .i64 t0.num, .slice A0 t0.perm.length c0, .slice B0 t0.kids.length d0] 25)).alloc (.cells #[.int .i64 t2.op, .int .i64 t2.num, .slice A2 t2.perm.length c2, .slice B2 t2.kids.length d2] 25)).heap.size ((w.alloc (.cells #[.int .i64 t0.op, .int .i64 t0.num, .slice A0 t0.perm.length c0, .slice B0 t0.kids.length d0] 25)).alloc (.cells #[.int .i64 t2.op, .int .i64 t2.num, .slice A2 t2.perm.length c2, .slice B2 t2.kids.length d2] 25)) ((w.alloc (.cells #[.int .i64 t0.op, .int .i64 t0.num, .slice A0 t0.perm.length c0, .slice B0 t0.kids.length d0] 25)).alloc (.cells #[.int .i64 t2.op, .int .i64 t2.num, .slice A2 t2.perm.length c2, .slice B2 t2.kids.length d2] 25))) := Lib.hid (Below.refl _ _)
  have HW0 := Lib.hid hb0
  clear hb0
  go_enter Try.func13, Try.ntmps13
  have hsz := szTerm_of t0 _ _ (1048576) (by omega) (by omega) (HI0.out ((w.alloc (.cells #[.int .i64 t0.op, .int .i64 t0.num, .slice A0 t0.perm.length c0, .slice B0 t0.kids.length d0] 25)).alloc (.cells #[.int .i64 t2.op, .int .i64 t2.num, .slice A2 t2.perm.length c2, .slice B2 t2.kids.length d2] 25)) HC0.out) hsh0.1 fun l' w' y g0 g1 hy => szTermS_any _ t0.kids (Nat.le_refl _) hsh0.2.2 hsh0.2.1 l' w' y g0 g1 hy
  unfold LeftPost at hsz
  rw [leftR_yes hn0] at hsz
  have hleft0 : ¬ 1048576 - (cntT t0 : Int) < 0 := by omega
  go_wp2_with fail
  refine hsz.mono ?_
  rintro e u1 ⟨rfl, hb⟩
  clear hsz b00 b01 b02 b03 b20 b21 b22 b23
  have s2 : ((w.alloc (.cells #[.int .i64 t0.op, .int .i64 t0.num, .slice A0 t0.perm.length c0, .slice B0 t0.kids.length d0] 25)).alloc (.cells #[.int .i64 t2.op, .int .i64 t2.num, .slice A2 t2.perm.length c2, .slice B2 t2.kids.length d2] 25)).heap.size ≤ u1.heap.size := hb.size
  have HC2 := Lib.hid (HC0.out.trans (hb.mono HC0.out.size))
  clear hb HC0
  obtain ⟨b20, b21, b22, b23⟩ := HB2.out u1 HC2.out
  have hsz := szTerm_of t2 _ _ (1048576 - (cntT t0 : Int)) (by omega) (by omega) (HI2.out u1 HC2.out) hsh2.1 fun l' w' y g0 g1 hy => szTermS_any _ t2.kids (Nat.le_refl _) hsh2.2.2 hsh2.2.1 l' w' y g0 g1 hy
  unfold LeftPost at hsz
  rw [leftR_yes hn2] at hsz
  have hleft2 : ¬ 1048576 - (cntT t0 : Int) - (cntT t2 : Int) < 0 := by omega
  go_wp2_with fail
  refine hsz.mono ?_
  rintro e u3 ⟨rfl, hb⟩
  clear hsz b20 b21 b22 b23
  have s4 : u1.heap.size ≤ u3.heap.size := hb.size
  have HC4 := Lib.hid (HC2.out.trans (hb.mono HC2.out.size))
  clear hb HC2
  have HZ : Hid (((w.alloc (.cells #[.int .i64 t0.op, .int .i64 t0.num, .slice A0 t0.perm.length c0, .slice B0 t0.kids.length d0] 25)).alloc (.cells #[.int .i64 t2.op, .int .i64 t2.num, .slice A2 t2.perm.length c2, .slice B2 t2.kids.length d2] 25)).heap.size ≤ u3.heap.size) := Lib.hid HC4.out.size
  have HQ := HC4
  have lt0 : w.heap.size < u3.heap.size := by have h := HQ.out.size; simp only [World.size_alloc] at h; omega
  have lt1 : w.heap.size + 1 < u3.heap.size := by have h := HQ.out.size; simp only [World.size_alloc] at h; omega
  have HCC : Hid (∀ w' : World, Below u3.heap.size u3 w' → w'.cell? ⟨w.heap.size, 0, none⟩ = some (.int .i64 t0.op) ∧ w'.cell? ⟨w.heap.size, 1, none⟩ = some (.int .i64 t0.num) ∧ w'.cell? ⟨w.heap.size, 2, none⟩ = some (.slice A0 t0.perm.length c0) ∧ w'.cell? ⟨w.heap.size, 3, none⟩ = some (.slice B0 t0.kids.length d0) ∧ w'.cell? ⟨w.heap.size + 1, 0, none⟩ = some (.int .i64 t2.op) ∧ w'.cell? ⟨w.heap.size + 1, 1, none⟩ = some (.int .i64 t2.num) ∧ w'.cell? ⟨w.heap.size + 1, 2, none⟩ = some (.slice A2 t2.perm.length c2) ∧ w'.cell? ⟨w.heap.size + 1, 3, none⟩ = some (.slice B2 t2.kids.length d2)) := Lib.hid (fun w' h => ⟨(HB0.out w' (HQ.out.trans (h.mono HQ.out.size))).1, (HB0.out w' (HQ.out.trans (h.mono HQ.out.size))).2.1, (HB0.out w' (HQ.out.trans (h.mono HQ.out.size))).2.2.1, (HB0.out w' (HQ.out.trans (h.mono HQ.out.size))).2.2.2, (HB2.out w' (HQ.out.trans (h.mono HQ.out.size))).1, (HB2.out w' (HQ.out.trans (h.mono HQ.out.size))).2.1, (HB2.out w' (HQ.out.trans (h.mono HQ.out.size))).2.2.1, (HB2.out w' (HQ.out.trans (h.mono HQ.out.size))).2.2.2⟩)
  go_upto_region 10 with fail
  go_cut [8, 9] (fun s t wx => BoxR.Rel u3 R s wx ∧ t = .bool fl)
  case first =>
    have hdw : Below u3.heap.size u3 u3.drew := ⟨rfl, rfl, rfl, Nat.le_refl _, fun _ _ => rfl⟩
    have hal : Below u3.heap.size u3 (u3.alloc (.cells #[.int .i64 0, .int .i64 0, .slice none 0 0, .slice none 0 0] 31)).drew := by
      have h : Below u3.heap.size u3 (u3.alloc (.cells #[.int .i64 0, .int .i64 0, .slice none 0 0, .slice none 0 0] 31)) := (Below.refl _ _).alloc (Nat.le_refl _) _
      exact ⟨h.os, h.tape, h.output, h.size, h.block⟩
    obtain ⟨cu0, cu1, cu2, cu3, cu4, cu5, cu6, cu7⟩ := HCC.out u3.drew (hdw)
    obtain ⟨cx0, cx1, cx2, cx3, cx4, cx5, cx6, cx7⟩ := HCC.out (u3.alloc (.cells #[.int .i64 0, .int .i64 0, .slice none 0 0, .slice none 0 0] 31)).drew (hal)
    have ne0_0 : w.heap.size ≠ u3.heap.size := Nat.ne_of_lt lt0
    have ne1_0 : w.heap.size + 1 ≠ u3.heap.size := Nat.ne_of_lt lt1
    have h0a := toTerm_any t0 HF0.out (u3.drew) _ (HI0.out (u3.drew) (HQ.out.trans ((hdw).mono HQ.out.size)))
    have h0b := toTerm_any t0 HF0.out ((u3.alloc (.cells #[.int .i64 0, .int .i64 0, .slice none 0 0, .slice none 0 0] 31)).drew) _ (HI0.out ((u3.alloc (.cells #[.int .i64 0, .int .i64 0, .slice none 0 0, .slice none 0 0] 31)).drew) (HQ.out.trans ((hal).mono HQ.out.size)))
    go_region_held3 (fun w' => w'.cell? ⟨w.heap.size, 0, none⟩ = some (.int .i64 t0.op) ∧ w'.cell? ⟨w.heap.size, 1, none⟩ = some (.int .i64 t0.num) ∧ w'.cell? ⟨w.heap.size, 2, none⟩ = some (.slice A0 t0.perm.length c0) ∧ w'.cell? ⟨w.heap.size, 3, none⟩ = some (.slice B0 t0.kids.length d0) ∧ w'.cell? ⟨w.heap.size + 1, 0, none⟩ = some (.int .i64 t2.op) ∧ w'.cell? ⟨w.heap.size + 1, 1, none⟩ = some (.int .i64 t2.num) ∧ w'.cell? ⟨w.heap.size + 1, 2, none⟩ = some (.slice A2 t2.perm.length c2) ∧ w'.cell? ⟨w.heap.size + 1, 3, none⟩ = some (.slice B2 t2.kids.length d2))
      (first | ((try dsimp only); (with_reducible exact ⟨by assumption, by assumption, by assumption, by assumption, by assumption, by assumption, by assumption, by assumption⟩)) | (with_reducible exact ⟨BoxR.set4_keep (by assumption) (by assumption), BoxR.set4_keep (by assumption) (by assumption), BoxR.set4_keep (by assumption) (by assumption), BoxR.set4_keep (by assumption) (by assumption), BoxR.set4_keep (by assumption) (by assumption), BoxR.set4_keep (by assumption) (by assumption), BoxR.set4_keep (by assumption) (by assumption), BoxR.set4_keep (by assumption) (by assumption)⟩) | go_keep)
      (first
        | (go_at_call_of 17 A0; (first | (with_reducible refine h0a.mono ?_) | (with_reducible refine h0b.mono ?_)); rintro e wq0 ⟨P0, q0, K0, r0, S0, rfl, hL0, _, hb0⟩; have fr0 : Below u3.heap.size u3 wq0 := (by first | (with_reducible exact hdw.trans (hb0.mono hdw.size)) | (with_reducible exact hal.trans (hb0.mono hal.size))); (try (have z0 : wq0.heap[u3.heap.size]? = some (.cells #[.int .i64 0, .int .i64 0, .slice none 0 0, .slice none 0 0] 31) := (hb0.block u3.heap.size (by simp)).trans (heap_alloc_new u3 (.cells #[.int .i64 0, .int .i64 0, .slice none 0 0, .slice none 0 0] 31)))); have hin0 := tmOut_in hL0; obtain ⟨ca0, ca1, ca2, ca3, ca4, ca5, ca6, ca7⟩ := HCC.out wq0 (fr0); have ne0_1 : w.heap.size ≠ wq0.heap.size := Nat.ne_of_lt (Nat.lt_of_lt_of_le lt0 fr0.size); have ne1_1 : w.heap.size + 1 ≠ wq0.heap.size := Nat.ne_of_lt (Nat.lt_of_lt_of_le lt1 fr0.size); have al0 : Below wq0.heap.size wq0 (wq0.alloc (.cells #[.int .i64 0, .int .i64 0, .slice none 0 0, .slice none 0 0] 31)) := (Below.refl _ _).alloc (Nat.le_refl _) _; have h1a := toIntS_any A1 c1 l1 (wq0) (HI1.out (wq0) (HQ.out.trans ((fr0).mono HQ.out.size))) (by have := HN1.out; omega); have h1b := toIntS_any A1 c1 l1 ((wq0.alloc (.cells #[.int .i64 0, .int .i64 0, .slice none 0 0, .slice none 0 0] 31))) (HI1.out ((wq0.alloc (.cells #[.int .i64 0, .int .i64 0, .slice none 0 0, .slice none 0 0] 31))) (HQ.out.trans (((fr0.trans (al0.mono fr0.size))).mono HQ.out.size))) (by have := HN1.out; omega))
        | (go_at_call 44; (first | (with_reducible refine h1a.mono ?_) | (with_reducible refine h1b.mono ?_)); rintro e wq1 ⟨v1, rfl, ho1, hb1⟩; obtain ⟨Bv1, dv1, rfl, hin1⟩ := own_intsAt ho1; have HCAPv1 := Lib.hid (own_capI ho1); have bx1 : Below wq0.heap.size wq0 wq1 := (by first | (with_reducible exact hb1) | (with_reducible exact al0.trans (hb1.mono al0.size))); have fr1 := fr0.trans (bx1.mono fr0.size); (try (have z1 := (bx1.block _ (BoxR.box_lt z0)).trans z0)); (try (have z1 : wq1.heap[wq0.heap.size]? = some (.cells #[.int .i64 0, .int .i64 0, .slice none 0 0, .slice none 0 0] 31) := (hb1.block _ (by simp)).trans (heap_alloc_new wq0 (.cells #[.int .i64 0, .int .i64 0, .slice none 0 0, .slice none 0 0] 31)))); have hin0 := hin0.below bx1; obtain ⟨cb0, cb1, cb2, cb3, cb4, cb5, cb6, cb7⟩ := HCC.out wq1 (fr1); have ne0_2 : w.heap.size ≠ wq1.heap.size := Nat.ne_of_lt (Nat.lt_of_lt_of_le lt0 fr1.size); have ne1_2 : w.heap.size + 1 ≠ wq1.heap.size := Nat.ne_of_lt (Nat.lt_of_lt_of_le lt1 fr1.size); have al1 : Below wq1.heap.size wq1 (wq1.alloc (.cells #[.int .i64 0, .int .i64 0, .slice none 0 0, .slice none 0 0] 31)) := (Below.refl _ _).alloc (Nat.le_refl _) _; have h2a := toTerm_any t2 HF2.out (wq1) _ (HI2.out (wq1) (HQ.out.trans ((fr1).mono HQ.out.size))); have h2b := toTerm_any t2 HF2.out ((wq1.alloc (.cells #[.int .i64 0, .int .i64 0, .slice none 0 0, .slice none 0 0] 31))) _ (HI2.out ((wq1.alloc (.cells #[.int .i64 0, .int .i64 0, .slice none 0 0, .slice none 0 0] 31))) (HQ.out.trans (((fr1.trans (al1.mono fr1.size))).mono HQ.out.size))))
        | (go_at_call_of 17 A2; (first | (with_reducible refine h2a.mono ?_) | (with_reducible refine h2b.mono ?_)); rintro e wq2 ⟨P2, q2, K2, r2, S2, rfl, hL2, _, hb2⟩; have bx2 : Below wq1.heap.size wq1 wq2 := (by first | (with_reducible exact hb2) | (with_reducible exact al1.trans (hb2.mono al1.size))); have fr2 := fr1.trans (bx2.mono fr1.size); (try (have z2 := (bx2.block _ (BoxR.box_lt z1)).trans z1)); (try (have z2 : wq2.heap[wq1.heap.size]? = some (.cells #[.int .i64 0, .int .i64 0, .slice none 0 0, .slice none 0 0] 31) := (hb2.block _ (by simp)).trans (heap_alloc_new wq1 (.cells #[.int .i64 0, .int .i64 0, .slice none 0 0, .slice none 0 0] 31)))); have hin2 := tmOut_in hL2; have hin0 := hin0.below bx2; have hin1 := hin1.below bx2; obtain ⟨cc0, cc1, cc2, cc3, cc4, cc5, cc6, cc7⟩ := HCC.out wq2 (fr2); have ne0_3 : w.heap.size ≠ wq2.heap.size := Nat.ne_of_lt (Nat.lt_of_lt_of_le lt0 fr2.size); have ne1_3 : w.heap.size + 1 ≠ wq2.heap.size := Nat.ne_of_lt (Nat.lt_of_lt_of_le lt1 fr2.size); have al2 : Below wq2.heap.size wq2 (wq2.alloc (.cells #[.int .i64 0, .int .i64 0, .slice none 0 0, .slice none 0 0] 31)) := (Below.refl _ _).alloc (Nat.le_refl _) _; have h3a := putAt_spec t0 t2 l1 Bv1 dv1 _ _ (wq2) (hin0) (hin2) (hin1) (by have := HN1.out; omega) (HCAPv1.out) HN0.out HN2.out; have h3b := putAt_spec t0 t2 l1 Bv1 dv1 _ _ ((wq2.alloc (.cells #[.int .i64 0, .int .i64 0, .slice none 0 0, .slice none 0 0] 31))) (hin0.below al2) (hin2.below al2) (hin1.below al2) (by have := HN1.out; omega) (HCAPv1.out) HN0.out HN2.out; rw [HL.out] at h3a h3b; rw [HFL.out] at h3a h3b)
        | (go_at_call 57; (first | (with_reducible refine h3a.mono ?_) | (with_reducible refine h3b.mono ?_)); rintro e wq3 ⟨Aw, cw, Bw, dw, Sw, rfl, hLw, hSw, hb3⟩; have bx3 : Below wq2.heap.size wq2 wq3 := (by first | (with_reducible exact hb3) | (with_reducible exact al2.trans (hb3.mono al2.size))); have fr3 := fr2.trans (bx3.mono fr2.size); (try (have z3 := (bx3.block _ (BoxR.box_lt z2)).trans z2)); (try (have z3 : wq3.heap[wq2.heap.size]? = some (.cells #[.int .i64 0, .int .i64 0, .slice none 0 0, .slice none 0 0] 31) := (hb3.block _ (by simp)).trans (heap_alloc_new wq2 (.cells #[.int .i64 0, .int .i64 0, .slice none 0 0, .slice none 0 0] 31)))); obtain ⟨cd0, cd1, cd2, cd3, cd4, cd5, cd6, cd7⟩ := HCC.out wq3 (fr3); have ne0_4 : w.heap.size ≠ wq3.heap.size := Nat.ne_of_lt (Nat.lt_of_lt_of_le lt0 fr3.size); have ne1_4 : w.heap.size + 1 ≠ wq3.heap.size := Nat.ne_of_lt (Nat.lt_of_lt_of_le lt1 fr3.size); (try (obtain ⟨q0, q1, q2, q3⟩ := BoxR.row4 z3; have y0 := frozen_of_row _ _ 0 _ _ z3; have y1 := frozen_of_row _ _ 1 _ _ z3; have y2 := frozen_of_row _ _ 2 _ _ z3; have y3 := frozen_of_row _ _ 3 _ _ z3)))
        | fail)
    all_goals
      have sz0 : u3.heap.size ≤ wq0.heap.size := fr0.size
      have sz1 : u3.heap.size ≤ wq1.heap.size := fr1.size
      have sz2 : u3.heap.size ≤ wq2.heap.size := fr2.size
      go_wp2_with fail
      go_meet
      first | (with_reducible exact ⟨BoxR.rel_set z3 hLw (fun b hb => Nat.le_trans (by omega) (hSw b hb)) (fun b hb => Nat.ne_of_gt (Nat.lt_of_lt_of_le (BoxR.box_lt z2) (hSw b hb))) (by omega) fr3, rfl⟩) | (with_reducible exact ⟨BoxR.rel_set z3 hLw (fun b hb => Nat.le_trans (by simp; omega) (hSw b hb)) (fun b hb => Nat.ne_of_gt (Nat.lt_of_lt_of_le (by simp) (hSw b hb))) (by omega) fr3, rfl⟩) | (with_reducible exact ⟨BoxR.rel_new hLw (fun b hb => Nat.le_trans (by omega) (hSw b hb)) fr3, rfl⟩)
  case rest =>
    obtain ⟨⟨gW, AW, cW, BW, dW, SW, rfl, hbox, hLb, hgS, hSb, hgb, hgz⟩, rfl⟩ := hcut
    have s5 : u3.heap.size ≤ wc.heap.size := hgz.size
    have HC5 := Lib.hid (HC4.out.trans (hgz.mono HC4.out.size))
    have lt_W : gW < wc.heap.size := BoxR.box_lt hbox
    have HTW : Hid (∀ b ∈ SW, u3.heap.size ≤ b ∧ b < wc.heap.size) := Lib.hid (fun b hb => ⟨hSb b hb, hLb.lt b hb⟩)
    have NW := Lib.hid hLb
    have KBW := Lib.hid hbox
    clear hbox hgS hSb hgb hgz HQ HCC lt0 lt1 HC4 hLb
    obtain ⟨w6, rfl⟩ : ∃ x : World, x = wc := ⟨_, rfl⟩
    obtain ⟨b0, b1, b2, b3⟩ := HB0.out w6 HC5.out
    have hto := toTerm_any t0 HF0.out w6 _ (HI0.out w6 HC5.out)
    go_wp2_with fail
    refine hto.mono ?_
    rintro e w7 ⟨PX0, qX0, KX0, rX0, SX0, rfl, hL, hS, hb⟩
    have s8 : w6.heap.size ≤ w7.heap.size := hb.size
    have KBW_8 := Lib.hid ((hb.block _ (Args4.box_lt KBW.out)).trans KBW.out)
    have NW_8 := Lib.hid (NW.out.alike (w' := w7) fun bb hbb => hb.block bb (NW.out.lt bb hbb))
    have HC8 := Lib.hid (HC5.out.trans (hb.mono HC5.out.size))
    have HTX0 : Hid (∀ b ∈ SX0, w6.heap.size ≤ b ∧ b < w7.heap.size) := Lib.hid (fun b hb => ⟨hS b hb, hL.lt b hb⟩)
    have NX0 := Lib.hid hL
    clear hto hb hS b0 b1 b2 b3 KBW NW HC5 hL
    have hbx : Below w7.heap.size w7 (w7.alloc (.cells #[.int .i64 t0.op, .int .i64 t0.num, .slice PX0 t0.perm.length qX0, .slice KX0 t0.kids.length rX0] 31)) := (Below.refl _ _).alloc (Nat.le_refl _) _
    have s9 : w7.heap.size ≤ (w7.alloc (.cells #[.int .i64 t0.op, .int .i64 t0.num, .slice PX0 t0.perm.length qX0, .slice KX0 t0.kids.length rX0] 31)).heap.size := hbx.size
    have KBW_9 := Lib.hid ((hbx.block _ (Args4.box_lt KBW_8.out)).trans KBW_8.out)
    have NW_9 := Lib.hid (NW_8.out.alike (w' := (w7.alloc (.cells #[.int .i64 t0.op, .int .i64 t0.num, .slice PX0 t0.perm.length qX0, .slice KX0 t0.kids.length rX0] 31))) fun bb hbb => hbx.block bb (NW_8.out.lt bb hbb))
    have NX0_9 := Lib.hid (NX0.out.alike (w' := (w7.alloc (.cells #[.int .i64 t0.op, .int .i64 t0.num, .slice PX0 t0.perm.length qX0, .slice KX0 t0.kids.length rX0] 31))) fun bb hbb => hbx.block bb (NX0.out.lt bb hbb))
    have HC9 := Lib.hid (HC8.out.trans (hbx.mono HC8.out.size))
    have KBX0 := Lib.hid (heap_alloc_new w7 (.cells #[.int .i64 t0.op, .int .i64 t0.num, .slice PX0 t0.perm.length qX0, .slice KX0 t0.kids.length rX0] 31))
    clear hbx KBW_8 NW_8 NX0 HC8
    have lt_X0 : w7.heap.size < (w7.alloc (.cells #[.int .i64 t0.op, .int .i64 t0.num, .slice PX0 t0.perm.length qX0, .slice KX0 t0.kids.length rX0] 31)).heap.size := by simp
    have hto := toIntS_any A1 c1 l1 (w7.alloc (.cells #[.int .i64 t0.op, .int .i64 t0.num, .slice PX0 t0.perm.length qX0, .slice KX0 t0.kids.length rX0] 31)) (HI1.out (w7.alloc (.cells #[.int .i64 t0.op, .int .i64 t0.num, .slice PX0 t0.perm.length qX0, .slice KX0 t0.kids.length rX0] 31)) HC9.out) (by have := HN1.out; omega)
    go_wp2_with fail
    refine hto.mono ?_
    rintro e w10 ⟨vX1, rfl, oX1, hb⟩
    obtain ⟨BX1, dX1, rfl, hq⟩ := own_intsAt oX1
    have HCAPX1 := Lib.hid (own_capI oX1)
    have s11 : (w7.alloc (.cells #[.int .i64 t0.op, .int .i64 t0.num, .slice PX0 t0.perm.length qX0, .slice KX0 t0.kids.length rX0] 31)).heap.size ≤ w10.heap.size := hb.size
    have KBW_11 := Lib.hid ((hb.block _ (Args4.box_lt KBW_9.out)).trans KBW_9.out)
    have KBX0_11 := Lib.hid ((hb.block _ (Args4.box_lt KBX0.out)).trans KBX0.out)
    have NW_11 := Lib.hid (NW_9.out.alike (w' := w10) fun bb hbb => hb.block bb (NW_9.out.lt bb hbb))
    have NX0_11 := Lib.hid (NX0_9.out.alike (w' := w10) fun bb hbb => hb.block bb (NX0_9.out.lt bb hbb))
    have HC11 := Lib.hid (HC9.out.trans (hb.mono HC9.out.size))
    have HRX1 := Lib.hid (show ∀ k, (.slice BX1 l1.length dX1 : Value).ownBlock = some k → (w7.alloc (.cells #[.int .i64 t0.op, .int .i64 t0.num, .slice PX0 t0.perm.length qX0, .slice KX0 t0.kids.length rX0] 31)).heap.size ≤ k ∧ k < w10.heap.size from fun k hk => oX1.lt k hk)
    have QX1 := Lib.hid oX1
    clear hto hb hq KBW_9 KBX0 NW_9 NX0_9 HC9 oX1
    obtain ⟨b0, b1, b2, b3⟩ := HB2.out w10 HC11.out
    have hto := toTerm_any t2 HF2.out w10 _ (HI2.out w10 HC11.out)
    go_wp2_with fail
    refine hto.mono ?_
    rintro e w12 ⟨PX2, qX2, KX2, rX2, SX2, rfl, hL, hS, hb⟩
    have s13 : w10.heap.size ≤ w12.heap.size := hb.size
    have KBW_13 := Lib.hid ((hb.block _ (Args4.box_lt KBW_11.out)).trans KBW_11.out)
    have KBX0_13 := Lib.hid ((hb.block _ (Args4.box_lt KBX0_11.out)).trans KBX0_11.out)
    have NW_13 := Lib.hid (NW_11.out.alike (w' := w12) fun bb hbb => hb.block bb (NW_11.out.lt bb hbb))
    have NX0_13 := Lib.hid (NX0_11.out.alike (w' := w12) fun bb hbb => hb.block bb (NX0_11.out.lt bb hbb))
    have QX1_13 := Lib.hid (own_below QX1.out hb)
    have HC13 := Lib.hid (HC11.out.trans (hb.mono HC11.out.size))
    have HTX2 : Hid (∀ b ∈ SX2, w10.heap.size ≤ b ∧ b < w12.heap.size) := Lib.hid (fun b hb => ⟨hS b hb, hL.lt b hb⟩)
    have NX2 := Lib.hid hL
    clear hto hb hS b0 b1 b2 b3 KBW_11 KBX0_11 NW_11 NX0_11 QX1 HC11 hL
    have hbx : Below w12.heap.size w12 (w12.alloc (.cells #[.int .i64 t2.op, .int .i64 t2.num, .slice PX2 t2.perm.length qX2, .slice KX2 t2.kids.length rX2] 31)) := (Below.refl _ _).alloc (Nat.le_refl _) _
    have s14 : w12.heap.size ≤ (w12.alloc (.cells #[.int .i64 t2.op, .int .i64 t2.num, .slice PX2 t2.perm.length qX2, .slice KX2 t2.kids.length rX2] 31)).heap.size := hbx.size
    have KBW_14 := Lib.hid ((hbx.block _ (Args4.box_lt KBW_13.out)).trans KBW_13.out)
    have KBX0_14 := Lib.hid ((hbx.block _ (Args4.box_lt KBX0_13.out)).trans KBX0_13.out)
    have NW_14 := Lib.hid (NW_13.out.alike (w' := (w12.alloc (.cells #[.int .i64 t2.op, .int .i64 t2.num, .slice PX2 t2.perm.length qX2, .slice KX2 t2.kids.length rX2] 31))) fun bb hbb => hbx.block bb (NW_13.out.lt bb hbb))
    have NX0_14 := Lib.hid (NX0_13.out.alike (w' := (w12.alloc (.cells #[.int .i64 t2.op, .int .i64 t2.num, .slice PX2 t2.perm.length qX2, .slice KX2 t2.kids.length rX2] 31))) fun bb hbb => hbx.block bb (NX0_13.out.lt bb hbb))
    have NX2_14 := Lib.hid (NX2.out.alike (w' := (w12.alloc (.cells #[.int .i64 t2.op, .int .i64 t2.num, .slice PX2 t2.perm.length qX2, .slice KX2 t2.kids.length rX2] 31))) fun bb hbb => hbx.block bb (NX2.out.lt bb hbb))
    have QX1_14 := Lib.hid (own_below QX1_13.out hbx)
    have HC14 := Lib.hid (HC13.out.trans (hbx.mono HC13.out.size))
    have KBX2 := Lib.hid (heap_alloc_new w12 (.cells #[.int .i64 t2.op, .int .i64 t2.num, .slice PX2 t2.perm.length qX2, .slice KX2 t2.kids.length rX2] 31))
    clear hbx KBW_13 KBX0_13 NW_13 NX0_13 NX2 QX1_13 HC13
    have lt_X2 : w12.heap.size < (w12.alloc (.cells #[.int .i64 t2.op, .int .i64 t2.num, .slice PX2 t2.perm.length qX2, .slice KX2 t2.kids.length rX2] 31)).heap.size := by simp
    have hsp := putAt_impl t0 t2 l1 BX1 dX1 _ _ (w12.alloc (.cells #[.int .i64 t2.op, .int .i64 t2.num, .slice PX2 t2.perm.length qX2, .slice KX2 t2.kids.length rX2] 31)) (tmOut_in NX0_14.out) (tmOut_in NX2_14.out) (intsAt_of QX1_14.out) (by have := HN1.out; omega) (HCAPX1.out) HN0.out HN2.out
    rw [HL.out] at hsp
    rw [HFL.out] at hsp
    obtain ⟨x00, x01, x02, x03⟩ := Args4.row4 KBX0_14.out
    obtain ⟨x20, x21, x22, x23⟩ := Args4.row4 KBX2.out
    go_wp2_with fail
    refine hsp.mono ?_
    rintro e w15 ⟨AG, cG, BG, dG, SG, rfl, hL, hS, hb⟩
    have s16 : (w12.alloc (.cells #[.int .i64 t2.op, .int .i64 t2.num, .slice PX2 t2.perm.length qX2, .slice KX2 t2.kids.length rX2] 31)).heap.size ≤ w15.heap.size := hb.size
    have KBW_16 := Lib.hid ((hb.block _ (Args4.box_lt KBW_14.out)).trans KBW_14.out)
    have KBX0_16 := Lib.hid ((hb.block _ (Args4.box_lt KBX0_14.out)).trans KBX0_14.out)
    have KBX2_16 := Lib.hid ((hb.block _ (Args4.box_lt KBX2.out)).trans KBX2.out)
    have NW_16 := Lib.hid (NW_14.out.alike (w' := w15) fun bb hbb => hb.block bb (NW_14.out.lt bb hbb))
    have NX0_16 := Lib.hid (NX0_14.out.alike (w' := w15) fun bb hbb => hb.block bb (NX0_14.out.lt bb hbb))
    have NX2_16 := Lib.hid (NX2_14.out.alike (w' := w15) fun bb hbb => hb.block bb (NX2_14.out.lt bb hbb))
    have QX1_16 := Lib.hid (own_below QX1_14.out hb)
    have HC16 := Lib.hid (HC14.out.trans (hb.mono HC14.out.size))
    have HTG : Hid (∀ b ∈ SG, (w12.alloc (.cells #[.int .i64 t2.op, .int .i64 t2.num, .slice PX2 t2.perm.length qX2, .slice KX2 t2.kids.length rX2] 31)).heap.size ≤ b ∧ b < w15.heap.size) := Lib.hid (fun b hb => ⟨hS b hb, hL.lt b hb⟩)
    have NG := Lib.hid hL
    clear hb hS KBW_14 KBX0_14 KBX2 NW_14 NX0_14 NX2_14 QX1_14 HC14 hL
    have hbx : Below w15.heap.size w15 (w15.alloc (.cells #[.int .i64 R.op, .int .i64 R.num, .slice AG R.perm.length cG, .slice BG R.kids.length dG] 31)) := (Below.refl _ _).alloc (Nat.le_refl _) _
    have s17 : w15.heap.size ≤ (w15.alloc (.cells #[.int .i64 R.op, .int .i64 R.num, .slice AG R.perm.length cG, .slice BG R.kids.length dG] 31)).heap.size := hbx.size
    have KBW_17 := Lib.hid ((hbx.block _ (Args4.box_lt KBW_16.out)).trans KBW_16.out)
    have KBX0_17 := Lib.hid ((hbx.block _ (Args4.box_lt KBX0_16.out)).trans KBX0_16.out)
    have KBX2_17 := Lib.hid ((hbx.block _ (Args4.box_lt KBX2_16.out)).trans KBX2_16.out)
    have NW_17 := Lib.hid (NW_16.out.alike (w' := (w15.alloc (.cells #[.int .i64 R.op, .int .i64 R.num, .slice AG R.perm.length cG, .slice BG R.kids.length dG] 31))) fun bb hbb => hbx.block bb (NW_16.out.lt bb hbb))
    have NX0_17 := Lib.hid (NX0_16.out.alike (w' := (w15.alloc (.cells #[.int .i64 R.op, .int .i64 R.num, .slice AG R.perm.length cG, .slice BG R.kids.length dG] 31))) fun bb hbb => hbx.block bb (NX0_16.out.lt bb hbb))
    have NX2_17 := Lib.hid (NX2_16.out.alike (w' := (w15.alloc (.cells #[.int .i64 R.op, .int .i64 R.num, .slice AG R.perm.length cG, .slice BG R.kids.length dG] 31))) fun bb hbb => hbx.block bb (NX2_16.out.lt bb hbb))
    have NG_17 := Lib.hid (NG.out.alike (w' := (w15.alloc (.cells #[.int .i64 R.op, .int .i64 R.num, .slice AG R.perm.length cG, .slice BG R.kids.length dG] 31))) fun bb hbb => hbx.block bb (NG.out.lt bb hbb))
    have QX1_17 := Lib.hid (own_below QX1_16.out hbx)
    have HC17 := Lib.hid (HC16.out.trans (hbx.mono HC16.out.size))
    have KBG := Lib.hid (heap_alloc_new w15 (.cells #[.int .i64 R.op, .int .i64 R.num, .slice AG R.perm.length cG, .slice BG R.kids.length dG] 31))
    clear hbx KBW_16 KBX0_16 KBX2_16 NW_16 NX0_16 NX2_16 NG QX1_16 HC16
    have lt_G : w15.heap.size < (w15.alloc (.cells #[.int .i64 R.op, .int .i64 R.num, .slice AG R.perm.length cG, .slice BG R.kids.length dG] 31)).heap.size := by simp
    clear hsp x00 x01 x02 x03 x20 x21 x22 x23
    have heq := eqTerm_any R HFR.out (w15.alloc (.cells #[.int .i64 R.op, .int .i64 R.num, .slice AG R.perm.length cG, .slice BG R.kids.length dG] 31)) _ _ (tmOut_in NG_17.out) (tmOut_in NW_17.out)
    obtain ⟨ya0, ya1, ya2, ya3⟩ := Args4.row4 KBG.out
    obtain ⟨yb0, yb1, yb2, yb3⟩ := Args4.row4 KBW_17.out
    go_wp2_with fail
    refine heq.mono ?_
    rintro e w18 ⟨rfl, hb⟩
    have s19 : (w15.alloc (.cells #[.int .i64 R.op, .int .i64 R.num, .slice AG R.perm.length cG, .slice BG R.kids.length dG] 31)).heap.size ≤ w18.heap.size := hb.size
    have KBW_19 := Lib.hid ((hb.block _ (Args4.box_lt KBW_17.out)).trans KBW_17.out)
    have KBX0_19 := Lib.hid ((hb.block _ (Args4.box_lt KBX0_17.out)).trans KBX0_17.out)
    have KBX2_19 := Lib.hid ((hb.block _ (Args4.box_lt KBX2_17.out)).trans KBX2_17.out)
    have KBG_19 := Lib.hid ((hb.block _ (Args4.box_lt KBG.out)).trans KBG.out)
    have NW_19 := Lib.hid (NW_17.out.alike (w' := w18) fun bb hbb => hb.block bb (NW_17.out.lt bb hbb))
    have NX0_19 := Lib.hid (NX0_17.out.alike (w' := w18) fun bb hbb => hb.block bb (NX0_17.out.lt bb hbb))
    have NX2_19 := Lib.hid (NX2_17.out.alike (w' := w18) fun bb hbb => hb.block bb (NX2_17.out.lt bb hbb))
    have NG_19 := Lib.hid (NG_17.out.alike (w' := w18) fun bb hbb => hb.block bb (NG_17.out.lt bb hbb))
    have QX1_19 := Lib.hid (own_below QX1_17.out hb)
    have HC19 := Lib.hid (HC17.out.trans (hb.mono HC17.out.size))
    clear heq hb ya0 ya1 ya2 ya3 yb0 yb1 yb2 yb3 KBW_17 KBX0_17 KBX2_17 KBG NW_17 NX0_17 NX2_17 NG_17 QX1_17 HC17
    have hdw : Below w18.heap.size w18 w18.drew := ⟨rfl, rfl, rfl, Nat.le_refl _, fun _ _ => rfl⟩
    have s20 : w18.heap.size ≤ w18.drew.heap.size := hdw.size
    have KBW_20 := Lib.hid ((hdw.block _ (Args4.box_lt KBW_19.out)).trans KBW_19.out)
    have KBX0_20 := Lib.hid ((hdw.block _ (Args4.box_lt KBX0_19.out)).trans KBX0_19.out)
    have KBX2_20 := Lib.hid ((hdw.block _ (Args4.box_lt KBX2_19.out)).trans KBX2_19.out)
    have KBG_20 := Lib.hid ((hdw.block _ (Args4.box_lt KBG_19.out)).trans KBG_19.out)
    have NW_20 := Lib.hid (NW_19.out.alike (w' := w18.drew) fun bb hbb => hdw.block bb (NW_19.out.lt bb hbb))
    have NX0_20 := Lib.hid (NX0_19.out.alike (w' := w18.drew) fun bb hbb => hdw.block bb (NX0_19.out.lt bb hbb))
    have NX2_20 := Lib.hid (NX2_19.out.alike (w' := w18.drew) fun bb hbb => hdw.block bb (NX2_19.out.lt bb hbb))
    have NG_20 := Lib.hid (NG_19.out.alike (w' := w18.drew) fun bb hbb => hdw.block bb (NG_19.out.lt bb hbb))
    have QX1_20 := Lib.hid (own_below QX1_19.out hdw)
    have HC20 := Lib.hid (HC19.out.trans (hdw.mono HC19.out.size))
    clear hdw KBW_19 KBX0_19 KBX2_19 KBG_19 NW_19 NX0_19 NX2_19 NG_19 QX1_19 HC19
    have HS := HC20
    have HX := KBX0_20
    obtain ⟨b0, b1, b2, b3⟩ := HB0.out w18.drew HC20.out
    obtain ⟨x0, x1, x2, x3⟩ := Args4.row4 KBX0_20.out
    have hxx := tmOut_in NX0_20.out
    have hto := toTerm_any t0 HF0.out w18.drew _ (HI0.out w18.drew HS.out)
    go_wp2
    go_region_held3 (fun w' => w'.cell? ⟨w.heap.size, 0, none⟩ = some (.int .i64 t0.op) ∧ w'.cell? ⟨w.heap.size, 1, none⟩ = some (.int .i64 t0.num) ∧ w'.cell? ⟨w.heap.size, 2, none⟩ = some (.slice A0 t0.perm.length c0) ∧ w'.cell? ⟨w.heap.size, 3, none⟩ = some (.slice B0 t0.kids.length d0) ∧ w'.cell? ⟨w7.heap.size, 0, none⟩ = some (.int .i64 t0.op) ∧ w'.cell? ⟨w7.heap.size, 1, none⟩ = some (.int .i64 t0.num) ∧ w'.cell? ⟨w7.heap.size, 2, none⟩ = some (.slice PX0 t0.perm.length qX0) ∧ w'.cell? ⟨w7.heap.size, 3, none⟩ = some (.slice KX0 t0.kids.length rX0))
      (first | (with_reducible exact ⟨by assumption, by assumption, by assumption, by assumption, by assumption, by assumption, by assumption, by assumption⟩) | ((try dsimp only); exact ⟨by assumption, by assumption, by assumption, by assumption, by assumption, by assumption, by assumption, by assumption⟩) | go_keep)
      (first
        | (go_at_call 17; refine hto.mono ?_; rintro e w21 ⟨PZ, qZ, KZ, rZ, SZ, rfl, hLZ, _, hb1⟩; have hc1 := HS.out.trans (hb1.mono HS.out.size); have hzz := tmOut_in hLZ; have hyy := hxx.below hb1; obtain ⟨e0, e1, e2, e3⟩ := HB0.out w21 hc1; obtain ⟨e4, e5, e6, e7⟩ := Args4.row4 (((hb1).block _ (Args4.box_lt HX.out)).trans HX.out))
        | (go_at_call 19; refine (eqTerm_any t0 HF0.out _ _ _ hyy hzz).mono ?_; rintro e w22 ⟨rfl, hb2⟩; have hbz := hb1.trans (hb2.mono hb1.size); have hc2 := HS.out.trans (hbz.mono HS.out.size); obtain ⟨g0, g1, g2, g3⟩ := HB0.out w22 hc2; obtain ⟨g4, g5, g6, g7⟩ := Args4.row4 (((hbz).block _ (Args4.box_lt HX.out)).trans HX.out))
        | fail)
    have s23 : w18.drew.heap.size ≤ w22.heap.size := hbz.size
    have KBW_23 := Lib.hid ((hbz.block _ (Args4.box_lt KBW_20.out)).trans KBW_20.out)
    have KBX0_23 := Lib.hid ((hbz.block _ (Args4.box_lt KBX0_20.out)).trans KBX0_20.out)
    have KBX2_23 := Lib.hid ((hbz.block _ (Args4.box_lt KBX2_20.out)).trans KBX2_20.out)
    have KBG_23 := Lib.hid ((hbz.block _ (Args4.box_lt KBG_20.out)).trans KBG_20.out)
    have NW_23 := Lib.hid (NW_20.out.alike (w' := w22) fun bb hbb => hbz.block bb (NW_20.out.lt bb hbb))
    have NX0_23 := Lib.hid (NX0_20.out.alike (w' := w22) fun bb hbb => hbz.block bb (NX0_20.out.lt bb hbb))
    have NX2_23 := Lib.hid (NX2_20.out.alike (w' := w22) fun bb hbb => hbz.block bb (NX2_20.out.lt bb hbb))
    have NG_23 := Lib.hid (NG_20.out.alike (w' := w22) fun bb hbb => hbz.block bb (NG_20.out.lt bb hbb))
    have QX1_23 := Lib.hid (own_below QX1_20.out hbz)
    have HC23 := Lib.hid (HC20.out.trans (hbz.mono HC20.out.size))
    clear hbz hb1 hb2 hc1 hc2 hzz hyy hxx hLZ hto HS HX b0 b1 b2 b3 x0 x1 x2 x3 e0 e1 e2 e3 e4 e5 e6 e7 g0 g1 g2 g3 g4 g5 g6 g7 KBW_20 KBX0_20 KBX2_20 KBG_20 NW_20 NX0_20 NX2_20 NG_20 QX1_20 HC20
    have hto := toIntS_any A1 c1 l1 w22 (HI1.out w22 HC23.out) (by have := HN1.out; omega)
    go_wp2_with fail
    refine hto.mono ?_
    rintro e w24 ⟨vv, rfl, ho, hb⟩
    have s25 : w22.heap.size ≤ w24.heap.size := hb.size
    have KBW_25 := Lib.hid ((hb.block _ (Args4.box_lt KBW_23.out)).trans KBW_23.out)
    have KBX0_25 := Lib.hid ((hb.block _ (Args4.box_lt KBX0_23.out)).trans KBX0_23.out)
    have KBX2_25 := Lib.hid ((hb.block _ (Args4.box_lt KBX2_23.out)).trans KBX2_23.out)
    have KBG_25 := Lib.hid ((hb.block _ (Args4.box_lt KBG_23.out)).trans KBG_23.out)
    have NW_25 := Lib.hid (NW_23.out.alike (w' := w24) fun bb hbb => hb.block bb (NW_23.out.lt bb hbb))
    have NX0_25 := Lib.hid (NX0_23.out.alike (w' := w24) fun bb hbb => hb.block bb (NX0_23.out.lt bb hbb))
    have NX2_25 := Lib.hid (NX2_23.out.alike (w' := w24) fun bb hbb => hb.block bb (NX2_23.out.lt bb hbb))
    have NG_25 := Lib.hid (NG_23.out.alike (w' := w24) fun bb hbb => hb.block bb (NG_23.out.lt bb hbb))
    have QX1_25 := Lib.hid (own_below QX1_23.out hb)
    have HC25 := Lib.hid (HC23.out.trans (hb.mono HC23.out.size))
    have heq := eqIntS_own _ _ _ _ l1 l1 w24 QX1_25.out ho (by have := HN1.out; omega)
    rw [decide_eq_true (rfl : l1 = l1)] at heq
    clear hto hb ho KBW_23 KBX0_23 KBX2_23 KBG_23 NW_23 NX0_23 NX2_23 NG_23 QX1_23 HC23
    go_wp2_with fail
    refine heq.mono ?_
    rintro e w26 ⟨rfl, hb⟩
    have s27 : w24.heap.size ≤ w26.heap.size := hb.size
    have KBW_27 := Lib.hid ((hb.block _ (Args4.box_lt KBW_25.out)).trans KBW_25.out)
    have KBX0_27 := Lib.hid ((hb.block _ (Args4.box_lt KBX0_25.out)).trans KBX0_25.out)
    have KBX2_27 := Lib.hid ((hb.block _ (Args4.box_lt KBX2_25.out)).trans KBX2_25.out)
    have KBG_27 := Lib.hid ((hb.block _ (Args4.box_lt KBG_25.out)).trans KBG_25.out)
    have NW_27 := Lib.hid (NW_25.out.alike (w' := w26) fun bb hbb => hb.block bb (NW_25.out.lt bb hbb))
    have NX0_27 := Lib.hid (NX0_25.out.alike (w' := w26) fun bb hbb => hb.block bb (NX0_25.out.lt bb hbb))
    have NX2_27 := Lib.hid (NX2_25.out.alike (w' := w26) fun bb hbb => hb.block bb (NX2_25.out.lt bb hbb))
    have NG_27 := Lib.hid (NG_25.out.alike (w' := w26) fun bb hbb => hb.block bb (NG_25.out.lt bb hbb))
    have QX1_27 := Lib.hid (own_below QX1_25.out hb)
    have HC27 := Lib.hid (HC25.out.trans (hb.mono HC25.out.size))
    clear heq hb KBW_25 KBX0_25 KBX2_25 KBG_25 NW_25 NX0_25 NX2_25 NG_25 QX1_25 HC25
    have hdw : Below w26.heap.size w26 w26.drew := ⟨rfl, rfl, rfl, Nat.le_refl _, fun _ _ => rfl⟩
    have s28 : w26.heap.size ≤ w26.drew.heap.size := hdw.size
    have KBW_28 := Lib.hid ((hdw.block _ (Args4.box_lt KBW_27.out)).trans KBW_27.out)
    have KBX0_28 := Lib.hid ((hdw.block _ (Args4.box_lt KBX0_27.out)).trans KBX0_27.out)
    have KBX2_28 := Lib.hid ((hdw.block _ (Args4.box_lt KBX2_27.out)).trans KBX2_27.out)
    have KBG_28 := Lib.hid ((hdw.block _ (Args4.box_lt KBG_27.out)).trans KBG_27.out)
    have NW_28 := Lib.hid (NW_27.out.alike (w' := w26.drew) fun bb hbb => hdw.block bb (NW_27.out.lt bb hbb))
    have NX0_28 := Lib.hid (NX0_27.out.alike (w' := w26.drew) fun bb hbb => hdw.block bb (NX0_27.out.lt bb hbb))
    have NX2_28 := Lib.hid (NX2_27.out.alike (w' := w26.drew) fun bb hbb => hdw.block bb (NX2_27.out.lt bb hbb))
    have NG_28 := Lib.hid (NG_27.out.alike (w' := w26.drew) fun bb hbb => hdw.block bb (NG_27.out.lt bb hbb))
    have QX1_28 := Lib.hid (own_below QX1_27.out hdw)
    have HC28 := Lib.hid (HC27.out.trans (hdw.mono HC27.out.size))
    clear hdw KBW_27 KBX0_27 KBX2_27 KBG_27 NW_27 NX0_27 NX2_27 NG_27 QX1_27 HC27
    have HS := HC28
    have HX := KBX2_28
    obtain ⟨b0, b1, b2, b3⟩ := HB2.out w26.drew HC28.out
    obtain ⟨x0, x1, x2, x3⟩ := Args4.row4 KBX2_28.out
    have hxx := tmOut_in NX2_28.out
    have hto := toTerm_any t2 HF2.out w26.drew _ (HI2.out w26.drew HS.out)
    go_wp2
    go_region_held3 (fun w' => w'.cell? ⟨w.heap.size + 1, 0, none⟩ = some (.int .i64 t2.op) ∧ w'.cell? ⟨w.heap.size + 1, 1, none⟩ = some (.int .i64 t2.num) ∧ w'.cell? ⟨w.heap.size + 1, 2, none⟩ = some (.slice A2 t2.perm.length c2) ∧ w'.cell? ⟨w.heap.size + 1, 3, none⟩ = some (.slice B2 t2.kids.length d2) ∧ w'.cell? ⟨w12.heap.size, 0, none⟩ = some (.int .i64 t2.op) ∧ w'.cell? ⟨w12.heap.size, 1, none⟩ = some (.int .i64 t2.num) ∧ w'.cell? ⟨w12.heap.size, 2, none⟩ = some (.slice PX2 t2.perm.length qX2) ∧ w'.cell? ⟨w12.heap.size, 3, none⟩ = some (.slice KX2 t2.kids.length rX2))
      (first | (with_reducible exact ⟨by assumption, by assumption, by assumption, by assumption, by assumption, by assumption, by assumption, by assumption⟩) | ((try dsimp only); exact ⟨by assumption, by assumption, by assumption, by assumption, by assumption, by assumption, by assumption, by assumption⟩) | go_keep)
      (first
        | (go_at_call 17; refine hto.mono ?_; rintro e w29 ⟨PZ, qZ, KZ, rZ, SZ, rfl, hLZ, _, hb1⟩; have hc1 := HS.out.trans (hb1.mono HS.out.size); have hzz := tmOut_in hLZ; have hyy := hxx.below hb1; obtain ⟨e0, e1, e2, e3⟩ := HB2.out w29 hc1; obtain ⟨e4, e5, e6, e7⟩ := Args4.row4 (((hb1).block _ (Args4.box_lt HX.out)).trans HX.out))
        | (go_at_call 19; refine (eqTerm_any t2 HF2.out _ _ _ hyy hzz).mono ?_; rintro e w30 ⟨rfl, hb2⟩; have hbz := hb1.trans (hb2.mono hb1.size); have hc2 := HS.out.trans (hbz.mono HS.out.size); obtain ⟨g0, g1, g2, g3⟩ := HB2.out w30 hc2; obtain ⟨g4, g5, g6, g7⟩ := Args4.row4 (((hbz).block _ (Args4.box_lt HX.out)).trans HX.out))
        | fail)
    have s31 : w26.drew.heap.size ≤ w30.heap.size := hbz.size
    have KBW_31 := Lib.hid ((hbz.block _ (Args4.box_lt KBW_28.out)).trans KBW_28.out)
    have KBX0_31 := Lib.hid ((hbz.block _ (Args4.box_lt KBX0_28.out)).trans KBX0_28.out)
    have KBX2_31 := Lib.hid ((hbz.block _ (Args4.box_lt KBX2_28.out)).trans KBX2_28.out)
    have KBG_31 := Lib.hid ((hbz.block _ (Args4.box_lt KBG_28.out)).trans KBG_28.out)
    have NW_31 := Lib.hid (NW_28.out.alike (w' := w30) fun bb hbb => hbz.block bb (NW_28.out.lt bb hbb))
    have NX0_31 := Lib.hid (NX0_28.out.alike (w' := w30) fun bb hbb => hbz.block bb (NX0_28.out.lt bb hbb))
    have NX2_31 := Lib.hid (NX2_28.out.alike (w' := w30) fun bb hbb => hbz.block bb (NX2_28.out.lt bb hbb))
    have NG_31 := Lib.hid (NG_28.out.alike (w' := w30) fun bb hbb => hbz.block bb (NG_28.out.lt bb hbb))
    have QX1_31 := Lib.hid (own_below QX1_28.out hbz)
    have HC31 := Lib.hid (HC28.out.trans (hbz.mono HC28.out.size))
    clear hbz hb1 hb2 hc1 hc2 hzz hyy hxx hLZ hto HS HX b0 b1 b2 b3 x0 x1 x2 x3 e0 e1 e2 e3 e4 e5 e6 e7 g0 g1 g2 g3 g4 g5 g6 g7 KBW_28 KBX0_28 KBX2_28 KBG_28 NW_28 NX0_28 NX2_28 NG_28 QX1_28 HC28
    obtain ⟨x0, x1, x2, x3⟩ := Args4.row4 KBX0_31.out
    have hmk := markTerm_any t0 HF0.out SX0 PX0 KX0 qX0 rX0 (1) w30 (by omega) (by omega) NX0_31.out
    go_wp2_with fail
    (with_reducible refine hmk.mono ?_)
    rintro e w32 ⟨rfl, hon⟩
    have s33 : w30.heap.size ≤ w32.heap.size := hon.size
    have KBW_33 := Lib.hid ((hon.block _ (Args4.box_lt KBW_31.out) (fun hm => by have := HTX0.out _ hm; omega)).trans KBW_31.out)
    have KBX2_33 := Lib.hid ((hon.block _ (Args4.box_lt KBX2_31.out) (fun hm => by have := HTX0.out _ hm; omega)).trans KBX2_31.out)
    have KBG_33 := Lib.hid ((hon.block _ (Args4.box_lt KBG_31.out) (fun hm => by have := HTX0.out _ hm; omega)).trans KBG_31.out)
    have NW_33 := Lib.hid (NW_31.out.alike (w' := w32) fun bb hbb => hon.block bb (NW_31.out.lt bb hbb) (fun hm => by have h1 := HTX0.out _ hm; have h2 := HTW.out _ hbb; omega))
    have NX2_33 := Lib.hid (NX2_31.out.alike (w' := w32) fun bb hbb => hon.block bb (NX2_31.out.lt bb hbb) (fun hm => by have h1 := HTX0.out _ hm; have h2 := HTX2.out _ hbb; omega))
    have NG_33 := Lib.hid (NG_31.out.alike (w' := w32) fun bb hbb => hon.block bb (NG_31.out.lt bb hbb) (fun hm => by have h1 := HTX0.out _ hm; have h2 := HTG.out _ hbb; omega))
    have QX1_33 := Lib.hid (own_only QX1_31.out hon (fun k e hm => by have h1 := HTX0.out _ hm; have h2 := HRX1.out _ e; omega))
    have HC33 := Lib.hid (Only.below HC31.out hon HC31.out.size (fun b hb => by have := HTX0.out _ hb; have := HZ.out; omega))
    clear hmk hon x0 x1 x2 x3 NX0_31 KBX0_31 KBW_31 KBX2_31 KBG_31 NW_31 NX2_31 NG_31 QX1_31 HC31
    have hmk := markIntS_own _ l1.length (.slice BX1 l1.length dX1) _ (1 + (t0.perm.length : Int) * 2 + (mcTs t0.kids : Int)) w32 QX1_33.out (by omega) (by have := HN1.out; omega)
    go_wp2_with fail
    (with_reducible refine hmk.mono ?_)
    rintro e w34 ⟨rfl, _, hg⟩
    have hon : Only (.slice BX1 l1.length dX1 : Value).ownBlock.toList w32 w34 := Only.of_grown hg (fun b e => by rw [e]; simp)
    have HTM1 : Hid (∀ b ∈ (.slice BX1 l1.length dX1 : Value).ownBlock.toList, _ ∧ _) := Lib.hid (fun b hb => HRX1.out b (by simpa using hb))
    have s35 : w32.heap.size ≤ w34.heap.size := hon.size
    have KBW_35 := Lib.hid ((hon.block _ (Args4.box_lt KBW_33.out) (fun hm => by have := HTM1.out _ hm; omega)).trans KBW_33.out)
    have KBX2_35 := Lib.hid ((hon.block _ (Args4.box_lt KBX2_33.out) (fun hm => by have := HTM1.out _ hm; omega)).trans KBX2_33.out)
    have KBG_35 := Lib.hid ((hon.block _ (Args4.box_lt KBG_33.out) (fun hm => by have := HTM1.out _ hm; omega)).trans KBG_33.out)
    have NW_35 := Lib.hid (NW_33.out.alike (w' := w34) fun bb hbb => hon.block bb (NW_33.out.lt bb hbb) (fun hm => by have h1 := HTM1.out _ hm; have h2 := HTW.out _ hbb; omega))
    have NX2_35 := Lib.hid (NX2_33.out.alike (w' := w34) fun bb hbb => hon.block bb (NX2_33.out.lt bb hbb) (fun hm => by have h1 := HTM1.out _ hm; have h2 := HTX2.out _ hbb; omega))
    have NG_35 := Lib.hid (NG_33.out.alike (w' := w34) fun bb hbb => hon.block bb (NG_33.out.lt bb hbb) (fun hm => by have h1 := HTM1.out _ hm; have h2 := HTG.out _ hbb; omega))
    have HC35 := Lib.hid (Only.below HC33.out hon HC33.out.size (fun b hb => by have := HTM1.out _ hb; have := HZ.out; omega))
    clear hmk hg hon QX1_33 KBW_33 KBX2_33 KBG_33 NW_33 NX2_33 NG_33 HC33
    obtain ⟨x0, x1, x2, x3⟩ := Args4.row4 KBX2_35.out
    have hmk := markTerm_any t2 HF2.out SX2 PX2 KX2 qX2 rX2 (1 + (t0.perm.length : Int) * 2 + (mcTs t0.kids : Int) + (l1.length : Int)) w34 (by omega) (by omega) NX2_35.out
    go_wp2_with fail
    (with_reducible refine hmk.mono ?_)
    rintro e w36 ⟨rfl, hon⟩
    have s37 : w34.heap.size ≤ w36.heap.size := hon.size
    have KBW_37 := Lib.hid ((hon.block _ (Args4.box_lt KBW_35.out) (fun hm => by have := HTX2.out _ hm; omega)).trans KBW_35.out)
    have KBG_37 := Lib.hid ((hon.block _ (Args4.box_lt KBG_35.out) (fun hm => by have := HTX2.out _ hm; omega)).trans KBG_35.out)
    have NW_37 := Lib.hid (NW_35.out.alike (w' := w36) fun bb hbb => hon.block bb (NW_35.out.lt bb hbb) (fun hm => by have h1 := HTX2.out _ hm; have h2 := HTW.out _ hbb; omega))
    have NG_37 := Lib.hid (NG_35.out.alike (w' := w36) fun bb hbb => hon.block bb (NG_35.out.lt bb hbb) (fun hm => by have h1 := HTX2.out _ hm; have h2 := HTG.out _ hbb; omega))
    have HC37 := Lib.hid (Only.below HC35.out hon HC35.out.size (fun b hb => by have := HTX2.out _ hb; have := HZ.out; omega))
    clear hmk hon x0 x1 x2 x3 NX2_35 KBX2_35 KBW_35 KBG_35 NW_35 NG_35 HC35
    have tk : ¬ 1 + (t0.perm.length : Int) * 2 + (mcTs t0.kids : Int) + (l1.length : Int) + (t2.perm.length : Int) * 2 + (mcTs t2.kids : Int) < 0 := by omega
    have heq := eqTerm_any R HFR.out w36 _ _ (tmOut_in NG_37.out) (tmOut_in NW_37.out)
    obtain ⟨ya0, ya1, ya2, ya3⟩ := Args4.row4 KBG_37.out
    obtain ⟨yb0, yb1, yb2, yb3⟩ := Args4.row4 KBW_37.out
    go_wp2_with fail
    refine heq.mono ?_
    rintro e w38 ⟨rfl, hb⟩
    have s39 : w36.heap.size ≤ w38.heap.size := hb.size
    have KBW_39 := Lib.hid ((hb.block _ (Args4.box_lt KBW_37.out)).trans KBW_37.out)
    have KBG_39 := Lib.hid ((hb.block _ (Args4.box_lt KBG_37.out)).trans KBG_37.out)
    have NW_39 := Lib.hid (NW_37.out.alike (w' := w38) fun bb hbb => hb.block bb (NW_37.out.lt bb hbb))
    have NG_39 := Lib.hid (NG_37.out.alike (w' := w38) fun bb hbb => hb.block bb (NG_37.out.lt bb hbb))
    have HC39 := Lib.hid (HC37.out.trans (hb.mono HC37.out.size))
    clear heq hb ya0 ya1 ya2 ya3 yb0 yb1 yb2 yb3 KBW_37 KBG_37 NW_37 NG_37 HC37
    obtain ⟨y0, y1, y2, y3⟩ := Args4.row4 KBG_39.out
    have hmi := markTerm_full R HFR.out SG AG BG cG dG 1 w38 (by omega) (by omega) NG_39.out
    go_wp2_with fail
    (with_reducible refine hmi.mono ?_)
    rintro e w40 ⟨rfl, ⟨S', hLm, hSm⟩, hon⟩
    have s41 : w38.heap.size ≤ w40.heap.size := hon.size
    have KBW_41 := Lib.hid ((hon.block _ (Args4.box_lt KBW_39.out) (fun hm => by have := HTG.out _ hm; omega)).trans KBW_39.out)
    have KBG_41 := Lib.hid ((hon.block _ (Args4.box_lt KBG_39.out) (fun hm => by have := HTG.out _ hm; omega)).trans KBG_39.out)
    have NW_41 := Lib.hid (NW_39.out.alike (w' := w40) fun bb hbb => hon.block bb (NW_39.out.lt bb hbb) (fun hm => by have h1 := HTG.out _ hm; have h2 := HTW.out _ hbb; omega))
    have HC41 := Lib.hid (Only.below HC39.out hon HC39.out.size (fun b hb => by have := HTG.out _ hb; have := HZ.out; omega))
    have NM := Lib.hid hLm
    have HTM : Hid (∀ b ∈ S', _ ∧ _) := Lib.hid (fun b hb => HTG.out b (hSm b hb))
    clear hmi hon hLm hSm y0 y1 y2 y3 NG_39 KBW_39 KBG_39 NW_39 HC39
    have tm : ¬ 1 + (mcR R : Int) < 0 := by omega
    have tq : (1 + (mcR R : Int) != 1 + (mcR R : Int)) = false := by simp
    obtain ⟨y0, y1, y2, y3⟩ := Args4.row4 KBG_41.out
    have hhi := heldTerm_any R HFR.out AG BG cG dG 1 w40 (by omega) (by omega) S' NM.out
    go_wp2_with fail
    (with_reducible refine hhi.mono ?_)
    rintro e w42 ⟨rfl, hb⟩
    have s43 : w40.heap.size ≤ w42.heap.size := hb.size
    have KBW_43 := Lib.hid ((hb.block _ (Args4.box_lt KBW_41.out)).trans KBW_41.out)
    have KBG_43 := Lib.hid ((hb.block _ (Args4.box_lt KBG_41.out)).trans KBG_41.out)
    have NW_43 := Lib.hid (NW_41.out.alike (w' := w42) fun bb hbb => hb.block bb (NW_41.out.lt bb hbb))
    have NM_43 := Lib.hid (NM.out.alike (w' := w42) fun bb hbb => hb.block bb (NM.out.lt bb hbb))
    have HC43 := Lib.hid (HC41.out.trans (hb.mono HC41.out.size))
    clear hhi hb y0 y1 y2 y3 KBW_41 KBG_41 NW_41 NM HC41
    have HQ := HC43
    have lt0 : w.heap.size < w42.heap.size := by have h := HQ.out.size; simp only [World.size_alloc] at h; omega
    have lt1 : w.heap.size + 1 < w42.heap.size := by have h := HQ.out.size; simp only [World.size_alloc] at h; omega
    have HCC : Hid (∀ w' : World, Below w42.heap.size w42 w' → w'.cell? ⟨w.heap.size, 0, none⟩ = some (.int .i64 t0.op) ∧ w'.cell? ⟨w.heap.size, 1, none⟩ = some (.int .i64 t0.num) ∧ w'.cell? ⟨w.heap.size, 2, none⟩ = some (.slice A0 t0.perm.length c0) ∧ w'.cell? ⟨w.heap.size, 3, none⟩ = some (.slice B0 t0.kids.length d0) ∧ w'.cell? ⟨w.heap.size + 1, 0, none⟩ = some (.int .i64 t2.op) ∧ w'.cell? ⟨w.heap.size + 1, 1, none⟩ = some (.int .i64 t2.num) ∧ w'.cell? ⟨w.heap.size + 1, 2, none⟩ = some (.slice A2 t2.perm.length c2) ∧ w'.cell? ⟨w.heap.size + 1, 3, none⟩ = some (.slice B2 t2.kids.length d2)) := Lib.hid (fun w' h => ⟨(HB0.out w' (HQ.out.trans (h.mono HQ.out.size))).1, (HB0.out w' (HQ.out.trans (h.mono HQ.out.size))).2.1, (HB0.out w' (HQ.out.trans (h.mono HQ.out.size))).2.2.1, (HB0.out w' (HQ.out.trans (h.mono HQ.out.size))).2.2.2, (HB2.out w' (HQ.out.trans (h.mono HQ.out.size))).1, (HB2.out w' (HQ.out.trans (h.mono HQ.out.size))).2.1, (HB2.out w' (HQ.out.trans (h.mono HQ.out.size))).2.2.1, (HB2.out w' (HQ.out.trans (h.mono HQ.out.size))).2.2.2⟩)
    go_upto_region 37 with fail
    go_cut [18, 19] (fun s t wx => BoxR.Rel w42 R s wx ∧ t = .bool fl)
    case first =>
      have hdw : Below w42.heap.size w42 w42.drew := ⟨rfl, rfl, rfl, Nat.le_refl _, fun _ _ => rfl⟩
      have hal : Below w42.heap.size w42 (w42.alloc (.cells #[.int .i64 0, .int .i64 0, .slice none 0 0, .slice none 0 0] 31)).drew := by
        have h : Below w42.heap.size w42 (w42.alloc (.cells #[.int .i64 0, .int .i64 0, .slice none 0 0, .slice none 0 0] 31)) := (Below.refl _ _).alloc (Nat.le_refl _) _
        exact ⟨h.os, h.tape, h.output, h.size, h.block⟩
      obtain ⟨cu0, cu1, cu2, cu3, cu4, cu5, cu6, cu7⟩ := HCC.out w42.drew (hdw)
      obtain ⟨cx0, cx1, cx2, cx3, cx4, cx5, cx6, cx7⟩ := HCC.out (w42.alloc (.cells #[.int .i64 0, .int .i64 0, .slice none 0 0, .slice none 0 0] 31)).drew (hal)
      have ne0_0 : w.heap.size ≠ w42.heap.size := Nat.ne_of_lt lt0
      have ne1_0 : w.heap.size + 1 ≠ w42.heap.size := Nat.ne_of_lt lt1
      have h0a := toTerm_any t0 HF0.out (w42.drew) _ (HI0.out (w42.drew) (HQ.out.trans ((hdw).mono HQ.out.size)))
      have h0b := toTerm_any t0 HF0.out ((w42.alloc (.cells #[.int .i64 0, .int .i64 0, .slice none 0 0, .slice none 0 0] 31)).drew) _ (HI0.out ((w42.alloc (.cells #[.int .i64 0, .int .i64 0, .slice none 0 0, .slice none 0 0] 31)).drew) (HQ.out.trans ((hal).mono HQ.out.size)))
      go_region_held3 (fun w' => w'.cell? ⟨w.heap.size, 0, none⟩ = some (.int .i64 t0.op) ∧ w'.cell? ⟨w.heap.size, 1, none⟩ = some (.int .i64 t0.num) ∧ w'.cell? ⟨w.heap.size, 2, none⟩ = some (.slice A0 t0.perm.length c0) ∧ w'.cell? ⟨w.heap.size, 3, none⟩ = some (.slice B0 t0.kids.length d0) ∧ w'.cell? ⟨w.heap.size + 1, 0, none⟩ = some (.int .i64 t2.op) ∧ w'.cell? ⟨w.heap.size + 1, 1, none⟩ = some (.int .i64 t2.num) ∧ w'.cell? ⟨w.heap.size + 1, 2, none⟩ = some (.slice A2 t2.perm.length c2) ∧ w'.cell? ⟨w.heap.size + 1, 3, none⟩ = some (.slice B2 t2.kids.length d2))
        (first | ((try dsimp only); (with_reducible exact ⟨by assumption, by assumption, by assumption, by assumption, by assumption, by assumption, by assumption, by assumption⟩)) | (with_reducible exact ⟨BoxR.set4_keep (by assumption) (by assumption), BoxR.set4_keep (by assumption) (by assumption), BoxR.set4_keep (by assumption) (by assumption), BoxR.set4_keep (by assumption) (by assumption), BoxR.set4_keep (by assumption) (by assumption), BoxR.set4_keep (by assumption) (by assumption), BoxR.set4_keep (by assumption) (by assumption), BoxR.set4_keep (by assumption) (by assumption)⟩) | go_keep)
        (first
          | (go_at_call_of 17 A0; (first | (with_reducible refine h0a.mono ?_) | (with_reducible refine h0b.mono ?_)); rintro e wq0 ⟨P0, q0, K0, r0, S0, rfl, hL0, _, hb0⟩; have fr0 : Below w42.heap.size w42 wq0 := (by first | (with_reducible exact hdw.trans (hb0.mono hdw.size)) | (with_reducible exact hal.trans (hb0.mono hal.size))); (try (have z0 : wq0.heap[w42.heap.size]? = some (.cells #[.int .i64 0, .int .i64 0, .slice none 0 0, .slice none 0 0] 31) := (hb0.block w42.heap.size (by simp)).trans (heap_alloc_new w42 (.cells #[.int .i64 0, .int .i64 0, .slice none 0 0, .slice none 0 0] 31)))); have hin0 := tmOut_in hL0; obtain ⟨ca0, ca1, ca2, ca3, ca4, ca5, ca6, ca7⟩ := HCC.out wq0 (fr0); have ne0_1 : w.heap.size ≠ wq0.heap.size := Nat.ne_of_lt (Nat.lt_of_lt_of_le lt0 fr0.size); have ne1_1 : w.heap.size + 1 ≠ wq0.heap.size := Nat.ne_of_lt (Nat.lt_of_lt_of_le lt1 fr0.size); have al0 : Below wq0.heap.size wq0 (wq0.alloc (.cells #[.int .i64 0, .int .i64 0, .slice none 0 0, .slice none 0 0] 31)) := (Below.refl _ _).alloc (Nat.le_refl _) _; have h1a := toIntS_any A1 c1 l1 (wq0) (HI1.out (wq0) (HQ.out.trans ((fr0).mono HQ.out.size))) (by have := HN1.out; omega); have h1b := toIntS_any A1 c1 l1 ((wq0.alloc (.cells #[.int .i64 0, .int .i64 0, .slice none 0 0, .slice none 0 0] 31))) (HI1.out ((wq0.alloc (.cells #[.int .i64 0, .int .i64 0, .slice none 0 0, .slice none 0 0] 31))) (HQ.out.trans (((fr0.trans (al0.mono fr0.size))).mono HQ.out.size))) (by have := HN1.out; omega))
          | (go_at_call 44; (first | (with_reducible refine h1a.mono ?_) | (with_reducible refine h1b.mono ?_)); rintro e wq1 ⟨v1, rfl, ho1, hb1⟩; obtain ⟨Bv1, dv1, rfl, hin1⟩ := own_intsAt ho1; have HCAPv1 := Lib.hid (own_capI ho1); have bx1 : Below wq0.heap.size wq0 wq1 := (by first | (with_reducible exact hb1) | (with_reducible exact al0.trans (hb1.mono al0.size))); have fr1 := fr0.trans (bx1.mono fr0.size); (try (have z1 := (bx1.block _ (BoxR.box_lt z0)).trans z0)); (try (have z1 : wq1.heap[wq0.heap.size]? = some (.cells #[.int .i64 0, .int .i64 0, .slice none 0 0, .slice none 0 0] 31) := (hb1.block _ (by simp)).trans (heap_alloc_new wq0 (.cells #[.int .i64 0, .int .i64 0, .slice none 0 0, .slice none 0 0] 31)))); have hin0 := hin0.below bx1; obtain ⟨cb0, cb1, cb2, cb3, cb4, cb5, cb6, cb7⟩ := HCC.out wq1 (fr1); have ne0_2 : w.heap.size ≠ wq1.heap.size := Nat.ne_of_lt (Nat.lt_of_lt_of_le lt0 fr1.size); have ne1_2 : w.heap.size + 1 ≠ wq1.heap.size := Nat.ne_of_lt (Nat.lt_of_lt_of_le lt1 fr1.size); have al1 : Below wq1.heap.size wq1 (wq1.alloc (.cells #[.int .i64 0, .int .i64 0, .slice none 0 0, .slice none 0 0] 31)) := (Below.refl _ _).alloc (Nat.le_refl _) _; have h2a := toTerm_any t2 HF2.out (wq1) _ (HI2.out (wq1) (HQ.out.trans ((fr1).mono HQ.out.size))); have h2b := toTerm_any t2 HF2.out ((wq1.alloc (.cells #[.int .i64 0, .int .i64 0, .slice none 0 0, .slice none 0 0] 31))) _ (HI2.out ((wq1.alloc (.cells #[.int .i64 0, .int .i64 0, .slice none 0 0, .slice none 0 0] 31))) (HQ.out.trans (((fr1.trans (al1.mono fr1.size))).mono HQ.out.size))))
          | (go_at_call_of 17 A2; (first | (with_reducible refine h2a.mono ?_) | (with_reducible refine h2b.mono ?_)); rintro e wq2 ⟨P2, q2, K2, r2, S2, rfl, hL2, _, hb2⟩; have bx2 : Below wq1.heap.size wq1 wq2 := (by first | (with_reducible exact hb2) | (with_reducible exact al1.trans (hb2.mono al1.size))); have fr2 := fr1.trans (bx2.mono fr1.size); (try (have z2 := (bx2.block _ (BoxR.box_lt z1)).trans z1)); (try (have z2 : wq2.heap[wq1.heap.size]? = some (.cells #[.int .i64 0, .int .i64 0, .slice none 0 0, .slice none 0 0] 31) := (hb2.block _ (by simp)).trans (heap_alloc_new wq1 (.cells #[.int .i64 0, .int .i64 0, .slice none 0 0, .slice none 0 0] 31)))); have hin2 := tmOut_in hL2; have hin0 := hin0.below bx2; have hin1 := hin1.below bx2; obtain ⟨cc0, cc1, cc2, cc3, cc4, cc5, cc6, cc7⟩ := HCC.out wq2 (fr2); have ne0_3 : w.heap.size ≠ wq2.heap.size := Nat.ne_of_lt (Nat.lt_of_lt_of_le lt0 fr2.size); have ne1_3 : w.heap.size + 1 ≠ wq2.heap.size := Nat.ne_of_lt (Nat.lt_of_lt_of_le lt1 fr2.size); have al2 : Below wq2.heap.size wq2 (wq2.alloc (.cells #[.int .i64 0, .int .i64 0, .slice none 0 0, .slice none 0 0] 31)) := (Below.refl _ _).alloc (Nat.le_refl _) _; have h3a := putAt_impl t0 t2 l1 Bv1 dv1 _ _ (wq2) (hin0) (hin2) (hin1) (by have := HN1.out; omega) (HCAPv1.out) HN0.out HN2.out; have h3b := putAt_impl t0 t2 l1 Bv1 dv1 _ _ ((wq2.alloc (.cells #[.int .i64 0, .int .i64 0, .slice none 0 0, .slice none 0 0] 31))) (hin0.below al2) (hin2.below al2) (hin1.below al2) (by have := HN1.out; omega) (HCAPv1.out) HN0.out HN2.out; rw [HL.out] at h3a h3b; rw [HFL.out] at h3a h3b)
          | (go_at_call 58; (first | (with_reducible refine h3a.mono ?_) | (with_reducible refine h3b.mono ?_)); rintro e wq3 ⟨Aw, cw, Bw, dw, Sw, rfl, hLw, hSw, hb3⟩; have bx3 : Below wq2.heap.size wq2 wq3 := (by first | (with_reducible exact hb3) | (with_reducible exact al2.trans (hb3.mono al2.size))); have fr3 := fr2.trans (bx3.mono fr2.size); (try (have z3 := (bx3.block _ (BoxR.box_lt z2)).trans z2)); (try (have z3 : wq3.heap[wq2.heap.size]? = some (.cells #[.int .i64 0, .int .i64 0, .slice none 0 0, .slice none 0 0] 31) := (hb3.block _ (by simp)).trans (heap_alloc_new wq2 (.cells #[.int .i64 0, .int .i64 0, .slice none 0 0, .slice none 0 0] 31)))); obtain ⟨cd0, cd1, cd2, cd3, cd4, cd5, cd6, cd7⟩ := HCC.out wq3 (fr3); have ne0_4 : w.heap.size ≠ wq3.heap.size := Nat.ne_of_lt (Nat.lt_of_lt_of_le lt0 fr3.size); have ne1_4 : w.heap.size + 1 ≠ wq3.heap.size := Nat.ne_of_lt (Nat.lt_of_lt_of_le lt1 fr3.size); (try (obtain ⟨q0, q1, q2, q3⟩ := BoxR.row4 z3; have y0 := frozen_of_row _ _ 0 _ _ z3; have y1 := frozen_of_row _ _ 1 _ _ z3; have y2 := frozen_of_row _ _ 2 _ _ z3; have y3 := frozen_of_row _ _ 3 _ _ z3)))
          | fail)
      all_goals
        have sz0 : w42.heap.size ≤ wq0.heap.size := fr0.size
        have sz1 : w42.heap.size ≤ wq1.heap.size := fr1.size
        have sz2 : w42.heap.size ≤ wq2.heap.size := fr2.size
        go_wp2_with fail
        go_meet
        first | (with_reducible exact ⟨BoxR.rel_set z3 hLw (fun b hb => Nat.le_trans (by omega) (hSw b hb)) (fun b hb => Nat.ne_of_gt (Nat.lt_of_lt_of_le (BoxR.box_lt z2) (hSw b hb))) (by omega) fr3, rfl⟩) | (with_reducible exact ⟨BoxR.rel_set z3 hLw (fun b hb => Nat.le_trans (by simp; omega) (hSw b hb)) (fun b hb => Nat.ne_of_gt (Nat.lt_of_lt_of_le (by simp) (hSw b hb))) (by omega) fr3, rfl⟩) | (with_reducible exact ⟨BoxR.rel_new hLw (fun b hb => Nat.le_trans (by omega) (hSw b hb)) fr3, rfl⟩)
    case rest =>
      obtain ⟨⟨gH, AH, cH, BH, dH, SH, rfl, hbox, hLb, hgS, hSb, hgb, hgz⟩, rfl⟩ := hcut
      have s44 : w42.heap.size ≤ wc.heap.size := hgz.size
      have KBW_44 := Lib.hid ((hgz.block _ (Args4.box_lt KBW_43.out)).trans KBW_43.out)
      have KBG_44 := Lib.hid ((hgz.block _ (Args4.box_lt KBG_43.out)).trans KBG_43.out)
      have NW_44 := Lib.hid (NW_43.out.alike (w' := wc) fun bb hbb => hgz.block bb (NW_43.out.lt bb hbb))
      have NM_44 := Lib.hid (NM_43.out.alike (w' := wc) fun bb hbb => hgz.block bb (NM_43.out.lt bb hbb))
      have HC44 := Lib.hid (HC43.out.trans (hgz.mono HC43.out.size))
      have lt_H : gH < wc.heap.size := BoxR.box_lt hbox
      have HTH : Hid (∀ b ∈ SH, w42.heap.size ≤ b ∧ b < wc.heap.size) := Lib.hid (fun b hb => ⟨hSb b hb, hLb.lt b hb⟩)
      have NH := Lib.hid hLb
      have KBH := Lib.hid hbox
      clear hbox hgS hSb hgb hgz HQ HCC lt0 lt1 KBW_43 KBG_43 NW_43 NM_43 HC43 hLb
      obtain ⟨w45, rfl⟩ : ∃ x : World, x = wc := ⟨_, rfl⟩
      have heq := eqTerm_any R HFR.out w45 _ _ (tmOut_in NH.out) (tmOut_in NW_44.out)
      obtain ⟨ya0, ya1, ya2, ya3⟩ := Args4.row4 KBH.out
      obtain ⟨yb0, yb1, yb2, yb3⟩ := Args4.row4 KBW_44.out
      go_wp2_with fail
      refine heq.mono ?_
      rintro e w46 ⟨rfl, hb⟩
      have s47 : w45.heap.size ≤ w46.heap.size := hb.size
      have KBW_47 := Lib.hid ((hb.block _ (Args4.box_lt KBW_44.out)).trans KBW_44.out)
      have KBG_47 := Lib.hid ((hb.block _ (Args4.box_lt KBG_44.out)).trans KBG_44.out)
      have KBH_47 := Lib.hid ((hb.block _ (Args4.box_lt KBH.out)).trans KBH.out)
      have NW_47 := Lib.hid (NW_44.out.alike (w' := w46) fun bb hbb => hb.block bb (NW_44.out.lt bb hbb))
      have NM_47 := Lib.hid (NM_44.out.alike (w' := w46) fun bb hbb => hb.block bb (NM_44.out.lt bb hbb))
      have NH_47 := Lib.hid (NH.out.alike (w' := w46) fun bb hbb => hb.block bb (NH.out.lt bb hbb))
      have HC47 := Lib.hid (HC44.out.trans (hb.mono HC44.out.size))
      clear heq hb ya0 ya1 ya2 ya3 yb0 yb1 yb2 yb3 KBW_44 KBG_44 KBH NW_44 NM_44 NH HC44
      obtain ⟨y0, y1, y2, y3⟩ := Args4.row4 KBG_47.out
      have hhi := heldTerm_any R HFR.out AG BG cG dG 1 w46 (by omega) (by omega) S' NM_47.out
      go_wp2_with fail
      (with_reducible refine hhi.mono ?_)
      rintro e w48 ⟨rfl, hb⟩
      have s49 : w46.heap.size ≤ w48.heap.size := hb.size
      have KBW_49 := Lib.hid ((hb.block _ (Args4.box_lt KBW_47.out)).trans KBW_47.out)
      have KBG_49 := Lib.hid ((hb.block _ (Args4.box_lt KBG_47.out)).trans KBG_47.out)
      have KBH_49 := Lib.hid ((hb.block _ (Args4.box_lt KBH_47.out)).trans KBH_47.out)
      have NW_49 := Lib.hid (NW_47.out.alike (w' := w48) fun bb hbb => hb.block bb (NW_47.out.lt bb hbb))
      have NM_49 := Lib.hid (NM_47.out.alike (w' := w48) fun bb hbb => hb.block bb (NM_47.out.lt bb hbb))
      have NH_49 := Lib.hid (NH_47.out.alike (w' := w48) fun bb hbb => hb.block bb (NH_47.out.lt bb hbb))
      have HC49 := Lib.hid (HC47.out.trans (hb.mono HC47.out.size))
      clear hhi hb y0 y1 y2 y3 KBW_47 KBG_47 KBH_47 NW_47 NM_47 NH_47 HC47
      have hfin := HW0.out.trans (HC49.out.mono HW0.out.size)
      go_wp2
      go_ret
      exact ⟨rfl, hfin⟩

theorem walk (w : World) (x0 : Value) (t0 : Tm) (hx0 : TmIn w x0 t0) (hs0 : Short t0) (A1 : Option Addr) (c1 : Nat) (l1 : List Int) (hA1 : IntsAt w A1 l1) (hm1 : l1.length ≤ maxLen) (x2 : Value) (t2 : Tm) (hx2 : TmIn w x2 t2) (hs2 : Short t2) :
    Calls Try.prog 13 #[x0, .slice A1 l1.length c1, x2] w fun e w' => e = .returned (.bool true) ∧ Below w.heap.size w w' := by
  by_cases hn1 : l1.length ≤ 1048576
  · skip
    by_cases hn0 : (cntT t0 : Int) ≤ 1048576
    · skip
      by_cases hn2 : (cntT t2 : Int) ≤ 1048576 - (cntT t0 : Int)
      · skip
        exact walk_yes w x0 t0 hx0 hs0 A1 c1 l1 hA1 hm1 x2 t2 hx2 hs2 hn1 hn0 hn2
      · exact walk_no2 w x0 t0 hx0 hs0 A1 c1 l1 hA1 hm1 x2 t2 hx2 hs2 hn1 hn0 hn2
    · exact walk_no0 w x0 t0 hx0 hs0 A1 c1 l1 hA1 hm1 x2 t2 hx2 hs2 hn1 hn0
  · exact walk_big1 w x0 t0 hx0 hs0 A1 c1 l1 hA1 hm1 x2 t2 hx2 hs2 hn1

set_option maxRecDepth 100000 in
theorem lifted (os : Os) (started : os.Started) (H : Type) (enc : TypeId × Value → H) :
    ReturnsInHanded {} Try.checked os 13 .any (Rows.fnExactPutAtSpec.pre6 enc Try.prog Try.f13 Rows.fnExactPutAtRow.domain false) (Rows.fnExactPutAtSpec.post enc Try.prog Try.f13 false true false false) := by
  refine returnsInHanded_of_change (C := Try.checked) own started (by kernel_rfl) Try.func13
    (ChangeSpec.witness6 (enc := enc) (C := Try.checked) false ⟨#[], #[.agg #[.int .i64 0, .int .i64 0, .slice none 0 0, .slice none 0 0], .slice none 0 0, .agg #[.int .i64 0, .int .i64 0, .slice none 0 0, .slice none 0 0]], []⟩ 8 (by kernel_rfl) (by kernel_rfl) (by kernel_rfl) (by kernel_rfl)) ?_
  intro W base args ds gs before hval0 hW hcnd _
  have hval : ∀ (j : Nat) t v, Try.f13.params[j]? = some t → args[j]? = some v → Value.okWide Try.prog W .any base t v := hval0
  have hW' := hW
  obtain ⟨p, q, hA0, hV, rfl, hfz, hnd⟩ := hW
  have hA : DataW.TrodAll enc Try.prog W 0 (fun _ => true) true Try.f13.params.toList args.toList ds p := hA0
  rw [Try.params13] at hA hval
  obtain ⟨v0, vs0, d0, ds0, p0, q0, hargs, rfl, rfl, h0, r0⟩ := trodAll_cons hA
  obtain ⟨v1, vs1, d1, ds1, p1, q1, rfl, rfl, rfl, h1, r1⟩ := trodAll_cons r0
  obtain ⟨v2, vs2, d2, ds2, p2, q2, rfl, rfl, rfl, h2, r2⟩ := trodAll_cons r1
  obtain ⟨rfl, rfl, rfl⟩ := trodAll_nil r2
  obtain rfl : args = #[v0, v1, v2] := by cases args; simp_all
  obtain ⟨rfl, rfl⟩ := trodVars_none hV
  have k0 := h0
  have lt0 : ∀ x ∈ p0, x.block < W.heap.size := by obtain ⟨m, hm⟩ := k0; exact DataW.trod_lt m _ _ _ hm
  have k1 := h1
  have lt1 : ∀ x ∈ p1, x.block < W.heap.size := by obtain ⟨m, hm⟩ := k1; exact DataW.trod_lt m _ _ _ hm
  have k2 := h2
  have lt2 : ∀ x ∈ p2, x.block < W.heap.size := by obtain ⟨m, hm⟩ := k2; exact DataW.trod_lt m _ _ _ hm
  obtain ⟨t0, tx0, ts0⟩ := open_term (hval 0 25 v0 rfl rfl) h0
  obtain ⟨A1, n1, c1, rfl⟩ := okWide_slice Try.underlying36 (hval 1 36 v1 rfl rfl)
  obtain ⟨l1, rfl, w1, m1⟩ := open_intsL h1
  obtain ⟨t2, tx2, ts2⟩ := open_term (hval 2 25 v2 rfl rfl) h2
  clear hA0 hval0
  refine (walk W v0 t0 tx0 ts0 A1 c1 l1 w1 m1 v2 t2 tx2 ts2).mono fun e W' ⟨he, bel⟩ => ?_
  subst he
  exact ⟨_, rfl, _, _, _, [], _, [], hW', trodAll_mk1 (shut_bool Try.underlying4 _), (trodAll_cons_mk (Below.trod laidOut (by kernel_rfl) (of_decide_eq_true (by kernel_rfl)) k0 bel lt0) (trodAll_cons_mk (Below.trod laidOut (by kernel_rfl) (of_decide_eq_true (by kernel_rfl)) k1 bel lt1) (trodAll_cons_mk (Below.trod laidOut (by kernel_rfl) (of_decide_eq_true (by kernel_rfl)) k2 bel lt2) trodAll_mk0))), rfl, bel.frame _, fun h => by cases h⟩

theorem over : Rows.fnExactPutAtRow.holds Try.pinned (OpenSpec.ofChange Rows.fnExactPutAtSpec) :=
  OpenClaim.holds_of_wide 13 Try.f13 rfl rfl rfl rfl rfl rfl rfl ⟨rfl, rfl, rfl, rfl, rfl⟩ rfl rfl rfl rfl rfl (by kernel_rfl) Try.func13 (by kernel_rfl)
    (of_decide_eq_true (by kernel_rfl)) (by unfold Func.isWrapper; first | (rw [if_pos (by decide +kernel)]; kernel_rfl) | (rw [if_neg (by decide +kernel)]; exact ⟨rfl, rfl⟩))
    (fun os started H enc _ => lifted os started H enc)

theorem proved : Rows.FnExactPutAtSaid := over
#print axioms proved
end Go.Proofs.Ytnomidnjglbedaa.fnExactPutAt
