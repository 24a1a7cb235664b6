/-
  The law FnExactApplySubstitution returns true for every two values: the program gives what a substitution makes of a term, and whether it can be done, as the model does, in memory of its own, and leaves its arguments as they were. No condition.
-/
import Derived.Test.YtbfkfklaplgebaaGreatKApplySubstitution8
import Derived.Test.YtbfkfklaplgebaaGreatKApplySubstitution10
import Derived.Test.YtbfkfklaplgebaaGreatKApplySubstitution9
import Derived.Test.YtbfkfklaplgebaaGreatKApplySubstitution6
import Derived.Test.YtbfkfklaplgebaaGreatKApplySubstitution4
import Derived.Test.YtbfkfklaplgebaaGreatKApplySubstitution17
import Derived.Test.YtbfkfklaplgebaaGreatKApplySubstitution27
import Derived.Test.YtbfkfklaplgebaaGreatKApplySubstitution7
namespace Go.Proofs.YtbfkfklaplgebaaGreat.fnExactApplySubstitution
open Go.ChangeShapes Go.WideShapes Go.ChangeAt Go.RowKit
set_option linter.unusedVariables false

namespace Args4
theorem box_lt {w : World} {g : Nat} {o : Obj} (h : w.heap[g]? = some o) : g < w.heap.size := (Array.getElem?_eq_some_iff.1 h).1
theorem row4 {w : World} {g : Nat} {a b c d : Value} {T : TypeId} (h : w.heap[g]? = some (.cells #[a, b, c, d] T (0, 0))) : w.cell? ⟨g, 0, none⟩ = some a ∧ w.cell? ⟨g, 1, none⟩ = some b ∧ w.cell? ⟨g, 2, none⟩ = some c ∧ w.cell? ⟨g, 3, none⟩ = some d := by
  refine ⟨?_, ?_, ?_, ?_⟩ <;> rw [cell_of_row w g _ _ _ _ h] <;> rfl
end Args4
theorem pairsAt_of {w : World} {base n : Nat} {e : TypeId} {B : Option Addr} {d : Nat} {l : List (Int × Int)} (h : w.ownsRow base e 2 (.slice B n d) l.length (cellsOf l)) : PairsAt w B l := by
  obtain ⟨A, c, ee, hp⟩ := own_pairsAt h
  injection ee with e1 e2 e3
  subst e1
  exact hp

set_option maxRecDepth 100000 in
set_option maxHeartbeats 16000000 in
theorem walk_no0 (w : World) (A0 : Option Addr) (c0 : Nat) (l0 : List RBinding) (hA0 : RBindingsIn w (.slice A0 l0.length c0) l0) (hs0 : ShortRBindings l0) (hm0 : l0.length ≤ maxLen) (x1 : Value) (t1 : Tm) (hx1 : TmIn w x1 t1) (hs1 : Short t1) (hn0 : ¬ ((l0.length + sumRBinding l0 : Nat) : Int) ≤ 1048576) :
    Calls Tryz.prog 8 #[.slice A0 l0.length c0, x1] w fun e w' => e = .returned (.bool true) ∧ Below w.heap.size w w' := by
  obtain ⟨A1, c1, kv1, rfl, hp1, hk1⟩ := hx1
  obtain ⟨B1, d1, rfl⟩ := hk1.form
  have hsh1 := (short_eq t1).1 hs1
  have hb0 : Below w.heap.size w (w.alloc (.cells #[.int .i64 t1.op, .int .i64 t1.num, .slice A1 t1.perm.length c1, .slice B1 t1.kids.length d1] 25)) := ((Below.refl _ w).alloc (by first | exact Nat.le_refl _ | (simp; done) | (simp; omega)) _)
  have HI1 : Hid (∀ w' : World, Below (w.alloc (.cells #[.int .i64 t1.op, .int .i64 t1.num, .slice A1 t1.perm.length c1, .slice B1 t1.kids.length d1] 25)).heap.size (w.alloc (.cells #[.int .i64 t1.op, .int .i64 t1.num, .slice A1 t1.perm.length c1, .slice B1 t1.kids.length d1] 25)) w' → TmIn w' (.agg #[.int .i64 t1.op, .int .i64 t1.num, .slice A1 t1.perm.length c1, .slice B1 t1.kids.length d1]) t1) := Lib.hid (fun w' h => ⟨A1, c1, _, rfl, hp1.below (hb0.trans (h.mono hb0.size)), hk1.below (hb0.trans (h.mono hb0.size))⟩)
  have HI0 : Hid (∀ w' : World, Below (w.alloc (.cells #[.int .i64 t1.op, .int .i64 t1.num, .slice A1 t1.perm.length c1, .slice B1 t1.kids.length d1] 25)).heap.size (w.alloc (.cells #[.int .i64 t1.op, .int .i64 t1.num, .slice A1 t1.perm.length c1, .slice B1 t1.kids.length d1] 25)) w' → RBindingsIn w' (.slice A0 l0.length c0) l0) := Lib.hid (fun w' h => hA0.below (hb0.trans (h.mono hb0.size)))
  have kk1 : (w.alloc (.cells #[.int .i64 t1.op, .int .i64 t1.num, .slice A1 t1.perm.length c1, .slice B1 t1.kids.length d1] 25)).heap[w.heap.size]? = some (.cells #[.int .i64 t1.op, .int .i64 t1.num, .slice A1 t1.perm.length c1, .slice B1 t1.kids.length d1] 25 (0, 0)) := by
    have h := heap_alloc_new w (.cells #[.int .i64 t1.op, .int .i64 t1.num, .slice A1 t1.perm.length c1, .slice B1 t1.kids.length d1] 25)
    exact h
  obtain ⟨b10, b11, b12, b13⟩ := Args4.row4 kk1
  have lt1 : w.heap.size < (w.alloc (.cells #[.int .i64 t1.op, .int .i64 t1.num, .slice A1 t1.perm.length c1, .slice B1 t1.kids.length d1] 25)).heap.size := by first | (simp; done) | (simp; omega)
  have HB1 : Hid (∀ w' : World, Below (w.alloc (.cells #[.int .i64 t1.op, .int .i64 t1.num, .slice A1 t1.perm.length c1, .slice B1 t1.kids.length d1] 25)).heap.size (w.alloc (.cells #[.int .i64 t1.op, .int .i64 t1.num, .slice A1 t1.perm.length c1, .slice B1 t1.kids.length d1] 25)) w' → w'.cell? ⟨w.heap.size, 0, none⟩ = some (.int .i64 t1.op) ∧ w'.cell? ⟨w.heap.size, 1, none⟩ = some (.int .i64 t1.num) ∧ w'.cell? ⟨w.heap.size, 2, none⟩ = some (.slice A1 t1.perm.length c1) ∧ w'.cell? ⟨w.heap.size, 3, none⟩ = some (.slice B1 t1.kids.length d1)) := Lib.hid (fun w' h => ⟨(h.cell (p := ⟨w.heap.size, 0, none⟩) lt1).trans b10, (h.cell (p := ⟨w.heap.size, 1, none⟩) lt1).trans b11, (h.cell (p := ⟨w.heap.size, 2, none⟩) lt1).trans b12, (h.cell (p := ⟨w.heap.size, 3, none⟩) lt1).trans b13⟩)
  clear hp1 hk1 hs1 kk1 lt1 hA0
  have HC0 : Hid (Below (w.alloc (.cells #[.int .i64 t1.op, .int .i64 t1.num, .slice A1 t1.perm.length c1, .slice B1 t1.kids.length d1] 25)).heap.size (w.alloc (.cells #[.int .i64 t1.op, .int .i64 t1.num, .slice A1 t1.perm.length c1, .slice B1 t1.kids.length d1] 25)) (w.alloc (.cells #[.int .i64 t1.op, .int .i64 t1.num, .slice A1 t1.perm.length c1, .slice B1 t1.kids.length d1] 25))) := Lib.hid (Below.refl _ _)
  have HW0 := Lib.hid hb0
  clear hb0
  go_enter Tryz.func8, Tryz.ntmps8
  have hsz := szBindingS_any l0 hs0 hm0 (1048576) (w.alloc (.cells #[.int .i64 t1.op, .int .i64 t1.num, .slice A1 t1.perm.length c1, .slice B1 t1.kids.length d1] 25)) _ (by omega) (by omega) (HI0.out (w.alloc (.cells #[.int .i64 t1.op, .int .i64 t1.num, .slice A1 t1.perm.length c1, .slice B1 t1.kids.length d1] 25)) HC0.out)
  unfold LeftPost at hsz
  rw [leftR_no (by omega)] at hsz
  go_wp2_with fail
  refine hsz.mono ?_
  rintro e u1 ⟨rfl, hb⟩
  clear hsz b10 b11 b12 b13
  have s2 : (w.alloc (.cells #[.int .i64 t1.op, .int .i64 t1.num, .slice A1 t1.perm.length c1, .slice B1 t1.kids.length d1] 25)).heap.size ≤ u1.heap.size := hb.size
  have HC2 := Lib.hid (HC0.out.trans (hb.mono HC0.out.size))
  clear hb HC0
  have hfin := HW0.out.trans (HC2.out.mono HW0.out.size)
  go_wp2
  go_ret
  exact ⟨rfl, hfin⟩

set_option maxRecDepth 100000 in
set_option maxHeartbeats 16000000 in
theorem walk_no1 (w : World) (A0 : Option Addr) (c0 : Nat) (l0 : List RBinding) (hA0 : RBindingsIn w (.slice A0 l0.length c0) l0) (hs0 : ShortRBindings l0) (hm0 : l0.length ≤ maxLen) (x1 : Value) (t1 : Tm) (hx1 : TmIn w x1 t1) (hs1 : Short t1) (hn0 : ((l0.length + sumRBinding l0 : Nat) : Int) ≤ 1048576) (hn1 : ¬ (cntT t1 : Int) ≤ 1048576 - ((l0.length + sumRBinding l0 : Nat) : Int)) :
    Calls Tryz.prog 8 #[.slice A0 l0.length c0, x1] w fun e w' => e = .returned (.bool true) ∧ Below w.heap.size w w' := by
  obtain ⟨A1, c1, kv1, rfl, hp1, hk1⟩ := hx1
  obtain ⟨B1, d1, rfl⟩ := hk1.form
  have hsh1 := (short_eq t1).1 hs1
  have hb0 : Below w.heap.size w (w.alloc (.cells #[.int .i64 t1.op, .int .i64 t1.num, .slice A1 t1.perm.length c1, .slice B1 t1.kids.length d1] 25)) := ((Below.refl _ w).alloc (by first | exact Nat.le_refl _ | (simp; done) | (simp; omega)) _)
  have HI1 : Hid (∀ w' : World, Below (w.alloc (.cells #[.int .i64 t1.op, .int .i64 t1.num, .slice A1 t1.perm.length c1, .slice B1 t1.kids.length d1] 25)).heap.size (w.alloc (.cells #[.int .i64 t1.op, .int .i64 t1.num, .slice A1 t1.perm.length c1, .slice B1 t1.kids.length d1] 25)) w' → TmIn w' (.agg #[.int .i64 t1.op, .int .i64 t1.num, .slice A1 t1.perm.length c1, .slice B1 t1.kids.length d1]) t1) := Lib.hid (fun w' h => ⟨A1, c1, _, rfl, hp1.below (hb0.trans (h.mono hb0.size)), hk1.below (hb0.trans (h.mono hb0.size))⟩)
  have HI0 : Hid (∀ w' : World, Below (w.alloc (.cells #[.int .i64 t1.op, .int .i64 t1.num, .slice A1 t1.perm.length c1, .slice B1 t1.kids.length d1] 25)).heap.size (w.alloc (.cells #[.int .i64 t1.op, .int .i64 t1.num, .slice A1 t1.perm.length c1, .slice B1 t1.kids.length d1] 25)) w' → RBindingsIn w' (.slice A0 l0.length c0) l0) := Lib.hid (fun w' h => hA0.below (hb0.trans (h.mono hb0.size)))
  have kk1 : (w.alloc (.cells #[.int .i64 t1.op, .int .i64 t1.num, .slice A1 t1.perm.length c1, .slice B1 t1.kids.length d1] 25)).heap[w.heap.size]? = some (.cells #[.int .i64 t1.op, .int .i64 t1.num, .slice A1 t1.perm.length c1, .slice B1 t1.kids.length d1] 25 (0, 0)) := by
    have h := heap_alloc_new w (.cells #[.int .i64 t1.op, .int .i64 t1.num, .slice A1 t1.perm.length c1, .slice B1 t1.kids.length d1] 25)
    exact h
  obtain ⟨b10, b11, b12, b13⟩ := Args4.row4 kk1
  have lt1 : w.heap.size < (w.alloc (.cells #[.int .i64 t1.op, .int .i64 t1.num, .slice A1 t1.perm.length c1, .slice B1 t1.kids.length d1] 25)).heap.size := by first | (simp; done) | (simp; omega)
  have HB1 : Hid (∀ w' : World, Below (w.alloc (.cells #[.int .i64 t1.op, .int .i64 t1.num, .slice A1 t1.perm.length c1, .slice B1 t1.kids.length d1] 25)).heap.size (w.alloc (.cells #[.int .i64 t1.op, .int .i64 t1.num, .slice A1 t1.perm.length c1, .slice B1 t1.kids.length d1] 25)) w' → w'.cell? ⟨w.heap.size, 0, none⟩ = some (.int .i64 t1.op) ∧ w'.cell? ⟨w.heap.size, 1, none⟩ = some (.int .i64 t1.num) ∧ w'.cell? ⟨w.heap.size, 2, none⟩ = some (.slice A1 t1.perm.length c1) ∧ w'.cell? ⟨w.heap.size, 3, none⟩ = some (.slice B1 t1.kids.length d1)) := Lib.hid (fun w' h => ⟨(h.cell (p := ⟨w.heap.size, 0, none⟩) lt1).trans b10, (h.cell (p := ⟨w.heap.size, 1, none⟩) lt1).trans b11, (h.cell (p := ⟨w.heap.size, 2, none⟩) lt1).trans b12, (h.cell (p := ⟨w.heap.size, 3, none⟩) lt1).trans b13⟩)
  clear hp1 hk1 hs1 kk1 lt1 hA0
  have HC0 : Hid (Below (w.alloc (.cells #[.int .i64 t1.op, .int .i64 t1.num, .slice A1 t1.perm.length c1, .slice B1 t1.kids.length d1] 25)).heap.size (w.alloc (.cells #[.int .i64 t1.op, .int .i64 t1.num, .slice A1 t1.perm.length c1, .slice B1 t1.kids.length d1] 25)) (w.alloc (.cells #[.int .i64 t1.op, .int .i64 t1.num, .slice A1 t1.perm.length c1, .slice B1 t1.kids.length d1] 25))) := Lib.hid (Below.refl _ _)
  have HW0 := Lib.hid hb0
  clear hb0
  go_enter Tryz.func8, Tryz.ntmps8
  have hsz := szBindingS_any l0 hs0 hm0 (1048576) (w.alloc (.cells #[.int .i64 t1.op, .int .i64 t1.num, .slice A1 t1.perm.length c1, .slice B1 t1.kids.length d1] 25)) _ (by omega) (by omega) (HI0.out (w.alloc (.cells #[.int .i64 t1.op, .int .i64 t1.num, .slice A1 t1.perm.length c1, .slice B1 t1.kids.length d1] 25)) HC0.out)
  unfold LeftPost at hsz
  rw [leftR_yes hn0] at hsz
  have hleft0 : ¬ 1048576 - ((l0.length + sumRBinding l0 : Nat) : Int) < 0 := by omega
  go_wp2_with fail
  refine hsz.mono ?_
  rintro e u1 ⟨rfl, hb⟩
  clear hsz b10 b11 b12 b13
  have s2 : (w.alloc (.cells #[.int .i64 t1.op, .int .i64 t1.num, .slice A1 t1.perm.length c1, .slice B1 t1.kids.length d1] 25)).heap.size ≤ u1.heap.size := hb.size
  have HC2 := Lib.hid (HC0.out.trans (hb.mono HC0.out.size))
  clear hb HC0
  obtain ⟨b10, b11, b12, b13⟩ := HB1.out u1 HC2.out
  have hsz := szTerm_of t1 _ _ (1048576 - ((l0.length + sumRBinding l0 : Nat) : Int)) (by omega) (by omega) (HI1.out u1 HC2.out) hsh1.1 fun l' w' y g0 g1 hy => szTermS_any _ t1.kids (Nat.le_refl _) hsh1.2.2 hsh1.2.1 l' w' y g0 g1 hy
  unfold LeftPost at hsz
  rw [leftR_no (by omega)] at hsz
  go_wp2_with fail
  refine hsz.mono ?_
  rintro e u3 ⟨rfl, hb⟩
  clear hsz b10 b11 b12 b13
  have s4 : u1.heap.size ≤ u3.heap.size := hb.size
  have HC4 := Lib.hid (HC2.out.trans (hb.mono HC2.out.size))
  clear hb HC2
  have hfin := HW0.out.trans (HC4.out.mono HW0.out.size)
  go_wp2
  go_ret
  exact ⟨rfl, hfin⟩

set_option maxRecDepth 100000 in
set_option maxHeartbeats 16000000 in
theorem walk_yes (w : World) (A0 : Option Addr) (c0 : Nat) (l0 : List RBinding) (hA0 : RBindingsIn w (.slice A0 l0.length c0) l0) (hs0 : ShortRBindings l0) (hm0 : l0.length ≤ maxLen) (x1 : Value) (t1 : Tm) (hx1 : TmIn w x1 t1) (hs1 : Short t1) (hn0 : ((l0.length + sumRBinding l0 : Nat) : Int) ≤ 1048576) (hn1 : (cntT t1 : Int) ≤ 1048576 - ((l0.length + sumRBinding l0 : Nat) : Int)) :
    Calls Tryz.prog 8 #[.slice A0 l0.length c0, x1] w fun e w' => e = .returned (.bool true) ∧ Below w.heap.size w w' := by
  have HL0 : Hid (l0.length ≤ 1048576) := Lib.hid (by omega)
  have HN0 : Hid (∀ k, k < l0.length → cntRBinding (atRBinding l0 k) ≤ 1048576) := Lib.hid (fun k hk => by have := cntRBinding_le hk; omega)
  have HF0 : Hid (FitRBindings l0) := Lib.hid (fun k hk => fit_of _ (HN0.out k hk))
  have HN1 : Hid (cntT t1 ≤ 1048576) := Lib.hid (by omega)
  have HF1 := Lib.hid (fit_of t1 HN1.out)
  have hmk1 : t1.perm.length * 2 + mcTs t1.kids ≤ 2097152 := by
    have h1 := mcTs_le t1.kids
    have h2 := cntT_eq t1
    omega
  have HFR := Lib.hid (show Fit (orT (doT l0 t1) (doB l0 t1)) from fit_orB doB_term)
  have hmR : mcR (orT (doT l0 t1) (doB l0 t1)) ≤ 2097152 := mc_orB doB_term
  generalize hL : orT (doT l0 t1) (doB l0 t1) = R at HFR hmR
  have HL := Lib.hid hL
  clear hL
  generalize hFF : doB l0 t1 = fl
  have HFL := Lib.hid hFF
  have hfl : (fl != fl) = false := by simp
  clear hFF
  obtain ⟨A1, c1, kv1, rfl, hp1, hk1⟩ := hx1
  obtain ⟨B1, d1, rfl⟩ := hk1.form
  have hsh1 := (short_eq t1).1 hs1
  have hb0 : Below w.heap.size w (w.alloc (.cells #[.int .i64 t1.op, .int .i64 t1.num, .slice A1 t1.perm.length c1, .slice B1 t1.kids.length d1] 25)) := ((Below.refl _ w).alloc (by first | exact Nat.le_refl _ | (simp; done) | (simp; omega)) _)
  have HI1 : Hid (∀ w' : World, Below (w.alloc (.cells #[.int .i64 t1.op, .int .i64 t1.num, .slice A1 t1.perm.length c1, .slice B1 t1.kids.length d1] 25)).heap.size (w.alloc (.cells #[.int .i64 t1.op, .int .i64 t1.num, .slice A1 t1.perm.length c1, .slice B1 t1.kids.length d1] 25)) w' → TmIn w' (.agg #[.int .i64 t1.op, .int .i64 t1.num, .slice A1 t1.perm.length c1, .slice B1 t1.kids.length d1]) t1) := Lib.hid (fun w' h => ⟨A1, c1, _, rfl, hp1.below (hb0.trans (h.mono hb0.size)), hk1.below (hb0.trans (h.mono hb0.size))⟩)
  have HI0 : Hid (∀ w' : World, Below (w.alloc (.cells #[.int .i64 t1.op, .int .i64 t1.num, .slice A1 t1.perm.length c1, .slice B1 t1.kids.length d1] 25)).heap.size (w.alloc (.cells #[.int .i64 t1.op, .int .i64 t1.num, .slice A1 t1.perm.length c1, .slice B1 t1.kids.length d1] 25)) w' → RBindingsIn w' (.slice A0 l0.length c0) l0) := Lib.hid (fun w' h => hA0.below (hb0.trans (h.mono hb0.size)))
  have kk1 : (w.alloc (.cells #[.int .i64 t1.op, .int .i64 t1.num, .slice A1 t1.perm.length c1, .slice B1 t1.kids.length d1] 25)).heap[w.heap.size]? = some (.cells #[.int .i64 t1.op, .int .i64 t1.num, .slice A1 t1.perm.length c1, .slice B1 t1.kids.length d1] 25 (0, 0)) := by
    have h := heap_alloc_new w (.cells #[.int .i64 t1.op, .int .i64 t1.num, .slice A1 t1.perm.length c1, .slice B1 t1.kids.length d1] 25)
    exact h
  obtain ⟨b10, b11, b12, b13⟩ := Args4.row4 kk1
  have lt1 : w.heap.size < (w.alloc (.cells #[.int .i64 t1.op, .int .i64 t1.num, .slice A1 t1.perm.length c1, .slice B1 t1.kids.length d1] 25)).heap.size := by first | (simp; done) | (simp; omega)
  have HB1 : Hid (∀ w' : World, Below (w.alloc (.cells #[.int .i64 t1.op, .int .i64 t1.num, .slice A1 t1.perm.length c1, .slice B1 t1.kids.length d1] 25)).heap.size (w.alloc (.cells #[.int .i64 t1.op, .int .i64 t1.num, .slice A1 t1.perm.length c1, .slice B1 t1.kids.length d1] 25)) w' → w'.cell? ⟨w.heap.size, 0, none⟩ = some (.int .i64 t1.op) ∧ w'.cell? ⟨w.heap.size, 1, none⟩ = some (.int .i64 t1.num) ∧ w'.cell? ⟨w.heap.size, 2, none⟩ = some (.slice A1 t1.perm.length c1) ∧ w'.cell? ⟨w.heap.size, 3, none⟩ = some (.slice B1 t1.kids.length d1)) := Lib.hid (fun w' h => ⟨(h.cell (p := ⟨w.heap.size, 0, none⟩) lt1).trans b10, (h.cell (p := ⟨w.heap.size, 1, none⟩) lt1).trans b11, (h.cell (p := ⟨w.heap.size, 2, none⟩) lt1).trans b12, (h.cell (p := ⟨w.heap.size, 3, none⟩) lt1).trans b13⟩)
  clear hp1 hk1 hs1 kk1 lt1 hA0
  have HC0 : Hid (Below (w.alloc (.cells #[.int .i64 t1.op, .int .i64 t1.num, .slice A1 t1.perm.length c1, .slice B1 t1.kids.length d1] 25)).heap.size (w.alloc (.cells #[.int .i64 t1.op, .int .i64 t1.num, .slice A1 t1.perm.length c1, .slice B1 t1.kids.length d1] 25)) (w.alloc (.cells #[.int .i64 t1.op, .int .i64 t1.num, .slice A1 t1.perm.length c1, .slice B1 t1.kids.length d1] 25))) := Lib.hid (Below.refl _ _)
  have HW0 := Lib.hid hb0
  clear hb0
  go_enter Tryz.func8, Tryz.ntmps8
  have hsz := szBindingS_any l0 hs0 hm0 (1048576) (w.alloc (.cells #[.int .i64 t1.op, .int .i64 t1.num, .slice A1 t1.perm.length c1, .slice B1 t1.kids.length d1] 25)) _ (by omega) (by omega) (HI0.out (w.alloc (.cells #[.int .i64 t1.op, .int .i64 t1.num, .slice A1 t1.perm.length c1, .slice B1 t1.kids.length d1] 25)) HC0.out)
  unfold LeftPost at hsz
  rw [leftR_yes hn0] at hsz
  have hleft0 : ¬ 1048576 - ((l0.length + sumRBinding l0 : Nat) : Int) < 0 := by omega
  go_wp2_with fail
  refine hsz.mono ?_
  rintro e u1 ⟨rfl, hb⟩
  clear hsz b10 b11 b12 b13
  have s2 : (w.alloc (.cells #[.int .i64 t1.op, .int .i64 t1.num, .slice A1 t1.perm.length c1, .slice B1 t1.kids.length d1] 25)).heap.size ≤ u1.heap.size := hb.size
  have HC2 := Lib.hid (HC0.out.trans (hb.mono HC0.out.size))
  clear hb HC0
  obtain ⟨b10, b11, b12, b13⟩ := HB1.out u1 HC2.out
  have hsz := szTerm_of t1 _ _ (1048576 - ((l0.length + sumRBinding l0 : Nat) : Int)) (by omega) (by omega) (HI1.out u1 HC2.out) hsh1.1 fun l' w' y g0 g1 hy => szTermS_any _ t1.kids (Nat.le_refl _) hsh1.2.2 hsh1.2.1 l' w' y g0 g1 hy
  unfold LeftPost at hsz
  rw [leftR_yes hn1] at hsz
  have hleft1 : ¬ 1048576 - ((l0.length + sumRBinding l0 : Nat) : Int) - (cntT t1 : Int) < 0 := by omega
  go_wp2_with fail
  refine hsz.mono ?_
  rintro e u3 ⟨rfl, hb⟩
  clear hsz b10 b11 b12 b13
  have s4 : u1.heap.size ≤ u3.heap.size := hb.size
  have HC4 := Lib.hid (HC2.out.trans (hb.mono HC2.out.size))
  clear hb HC2
  have HZ : Hid ((w.alloc (.cells #[.int .i64 t1.op, .int .i64 t1.num, .slice A1 t1.perm.length c1, .slice B1 t1.kids.length d1] 25)).heap.size ≤ u3.heap.size) := Lib.hid HC4.out.size
  have HQ := HC4
  have lt0 : w.heap.size < u3.heap.size := by have h := HQ.out.size; simp only [World.size_alloc] at h; omega
  have HCC : Hid (∀ w' : World, Below u3.heap.size u3 w' → w'.cell? ⟨w.heap.size, 0, none⟩ = some (.int .i64 t1.op) ∧ w'.cell? ⟨w.heap.size, 1, none⟩ = some (.int .i64 t1.num) ∧ w'.cell? ⟨w.heap.size, 2, none⟩ = some (.slice A1 t1.perm.length c1) ∧ w'.cell? ⟨w.heap.size, 3, none⟩ = some (.slice B1 t1.kids.length d1)) := Lib.hid (fun w' h => ⟨(HB1.out w' (HQ.out.trans (h.mono HQ.out.size))).1, (HB1.out w' (HQ.out.trans (h.mono HQ.out.size))).2.1, (HB1.out w' (HQ.out.trans (h.mono HQ.out.size))).2.2.1, (HB1.out w' (HQ.out.trans (h.mono HQ.out.size))).2.2.2⟩)
  go_upto_region 8 with fail
  go_cut [6, 7] (fun s t wx => BoxR.Rel u3 R s wx ∧ t = .bool fl)
  case first =>
    have hdw : Below u3.heap.size u3 u3.drew := ⟨rfl, rfl, rfl, Nat.le_refl _, fun _ _ => rfl⟩
    have hal : Below u3.heap.size u3 (u3.alloc (.cells #[.int .i64 0, .int .i64 0, .slice none 0 0, .slice none 0 0] 31)).drew := by
      have h : Below u3.heap.size u3 (u3.alloc (.cells #[.int .i64 0, .int .i64 0, .slice none 0 0, .slice none 0 0] 31)) := (Below.refl _ _).alloc (Nat.le_refl _) _
      exact ⟨h.os, h.tape, h.output, h.size, h.block⟩
    obtain ⟨cu0, cu1, cu2, cu3⟩ := HCC.out u3.drew (hdw)
    obtain ⟨cx0, cx1, cx2, cx3⟩ := HCC.out (u3.alloc (.cells #[.int .i64 0, .int .i64 0, .slice none 0 0, .slice none 0 0] 31)).drew (hal)
    have ne0_0 : w.heap.size ≠ u3.heap.size := Nat.ne_of_lt lt0
    have h0a := toBindingS_any l0 HF0.out HL0.out (u3.drew) _ (HI0.out (u3.drew) (HQ.out.trans ((hdw).mono HQ.out.size)))
    have h0b := toBindingS_any l0 HF0.out HL0.out ((u3.alloc (.cells #[.int .i64 0, .int .i64 0, .slice none 0 0, .slice none 0 0] 31)).drew) _ (HI0.out ((u3.alloc (.cells #[.int .i64 0, .int .i64 0, .slice none 0 0, .slice none 0 0] 31)).drew) (HQ.out.trans ((hal).mono HQ.out.size)))
    go_region_held3 (fun w' => w'.cell? ⟨w.heap.size, 0, none⟩ = some (.int .i64 t1.op) ∧ w'.cell? ⟨w.heap.size, 1, none⟩ = some (.int .i64 t1.num) ∧ w'.cell? ⟨w.heap.size, 2, none⟩ = some (.slice A1 t1.perm.length c1) ∧ w'.cell? ⟨w.heap.size, 3, none⟩ = some (.slice B1 t1.kids.length d1))
      (first | ((try dsimp only); (with_reducible exact ⟨by assumption, by assumption, by assumption, by assumption⟩)) | (with_reducible exact ⟨BoxR.set4_keep (by assumption) (by assumption), BoxR.set4_keep (by assumption) (by assumption), BoxR.set4_keep (by assumption) (by assumption), BoxR.set4_keep (by assumption) (by assumption)⟩) | go_keep)
      (first
        | (go_at_call 33; (first | (with_reducible refine h0a.mono ?_) | (with_reducible refine h0b.mono ?_)); rintro e wq0 ⟨v0, S0, rfl, hL0, _, hb0⟩; have fr0 : Below u3.heap.size u3 wq0 := (by first | (with_reducible exact hdw.trans (hb0.mono hdw.size)) | (with_reducible exact hal.trans (hb0.mono hal.size))); (try (have z0 : wq0.heap[u3.heap.size]? = some (.cells #[.int .i64 0, .int .i64 0, .slice none 0 0, .slice none 0 0] 31) := (hb0.block u3.heap.size (by simp)).trans (heap_alloc_new u3 (.cells #[.int .i64 0, .int .i64 0, .slice none 0 0, .slice none 0 0] 31)))); have hin0 := ownRBindings_in hL0; obtain ⟨ca0, ca1, ca2, ca3⟩ := HCC.out wq0 (fr0); have ne0_1 : w.heap.size ≠ wq0.heap.size := Nat.ne_of_lt (Nat.lt_of_lt_of_le lt0 fr0.size); have al0 : Below wq0.heap.size wq0 (wq0.alloc (.cells #[.int .i64 0, .int .i64 0, .slice none 0 0, .slice none 0 0] 31)) := (Below.refl _ _).alloc (Nat.le_refl _) _; have h1a := toTerm_any t1 HF1.out (wq0) _ (HI1.out (wq0) (HQ.out.trans ((fr0).mono HQ.out.size))); have h1b := toTerm_any t1 HF1.out ((wq0.alloc (.cells #[.int .i64 0, .int .i64 0, .slice none 0 0, .slice none 0 0] 31))) _ (HI1.out ((wq0.alloc (.cells #[.int .i64 0, .int .i64 0, .slice none 0 0, .slice none 0 0] 31))) (HQ.out.trans (((fr0.trans (al0.mono fr0.size))).mono HQ.out.size))))
        | (go_at_call 13; (first | (with_reducible refine h1a.mono ?_) | (with_reducible refine h1b.mono ?_)); rintro e wq1 ⟨P1, q1, K1, r1, S1, rfl, hL1, _, hb1⟩; have bx1 : Below wq0.heap.size wq0 wq1 := (by first | (with_reducible exact hb1) | (with_reducible exact al0.trans (hb1.mono al0.size))); have fr1 := fr0.trans (bx1.mono fr0.size); (try (have z1 := (bx1.block _ (BoxR.box_lt z0)).trans z0)); (try (have z1 : wq1.heap[wq0.heap.size]? = some (.cells #[.int .i64 0, .int .i64 0, .slice none 0 0, .slice none 0 0] 31) := (hb1.block _ (by simp)).trans (heap_alloc_new wq0 (.cells #[.int .i64 0, .int .i64 0, .slice none 0 0, .slice none 0 0] 31)))); have hin1 := tmOut_in hL1; have hin0 := hin0.below bx1; obtain ⟨cb0, cb1, cb2, cb3⟩ := HCC.out wq1 (fr1); have ne0_2 : w.heap.size ≠ wq1.heap.size := Nat.ne_of_lt (Nat.lt_of_lt_of_le lt0 fr1.size); have al1 : Below wq1.heap.size wq1 (wq1.alloc (.cells #[.int .i64 0, .int .i64 0, .slice none 0 0, .slice none 0 0] 31)) := (Below.refl _ _).alloc (Nat.le_refl _) _; have h2a := applySub_spec l0 t1 _ _ (wq1) (hin0) (hin1) HL0.out HN0.out HN1.out; have h2b := applySub_spec l0 t1 _ _ ((wq1.alloc (.cells #[.int .i64 0, .int .i64 0, .slice none 0 0, .slice none 0 0] 31))) (hin0.below al1) (hin1.below al1) HL0.out HN0.out HN1.out; rw [HL.out] at h2a h2b; rw [HFL.out] at h2a h2b)
        | (go_at_call 32; (first | (with_reducible refine h2a.mono ?_) | (with_reducible refine h2b.mono ?_)); rintro e wq2 ⟨Aw, cw, Bw, dw, Sw, rfl, hLw, hSw, hb2⟩; have bx2 : Below wq1.heap.size wq1 wq2 := (by first | (with_reducible exact hb2) | (with_reducible exact al1.trans (hb2.mono al1.size))); have fr2 := fr1.trans (bx2.mono fr1.size); (try (have z2 := (bx2.block _ (BoxR.box_lt z1)).trans z1)); (try (have z2 : wq2.heap[wq1.heap.size]? = some (.cells #[.int .i64 0, .int .i64 0, .slice none 0 0, .slice none 0 0] 31) := (hb2.block _ (by simp)).trans (heap_alloc_new wq1 (.cells #[.int .i64 0, .int .i64 0, .slice none 0 0, .slice none 0 0] 31)))); obtain ⟨cc0, cc1, cc2, cc3⟩ := HCC.out wq2 (fr2); have ne0_3 : w.heap.size ≠ wq2.heap.size := Nat.ne_of_lt (Nat.lt_of_lt_of_le lt0 fr2.size); (try (obtain ⟨q0, q1, q2, q3⟩ := BoxR.row4 z2; have y0 := frozen_of_row _ _ 0 _ _ z2; have y1 := frozen_of_row _ _ 1 _ _ z2; have y2 := frozen_of_row _ _ 2 _ _ z2; have y3 := frozen_of_row _ _ 3 _ _ z2)))
        | fail)
    all_goals
      have sz0 : u3.heap.size ≤ wq0.heap.size := fr0.size
      have sz1 : u3.heap.size ≤ wq1.heap.size := fr1.size
      go_wp2_with fail
      go_meet
      first | (with_reducible exact ⟨BoxR.rel_set z2 hLw (fun b hb => Nat.le_trans (by omega) (hSw b hb)) (fun b hb => Nat.ne_of_gt (Nat.lt_of_lt_of_le (BoxR.box_lt z1) (hSw b hb))) (by omega) fr2, rfl⟩) | (with_reducible exact ⟨BoxR.rel_set z2 hLw (fun b hb => Nat.le_trans (by simp; omega) (hSw b hb)) (fun b hb => Nat.ne_of_gt (Nat.lt_of_lt_of_le (by simp) (hSw b hb))) (by omega) fr2, rfl⟩) | (with_reducible exact ⟨BoxR.rel_new hLw (fun b hb => Nat.le_trans (by omega) (hSw b hb)) fr2, rfl⟩)
  case rest =>
    obtain ⟨⟨gW, AW, cW, BW, dW, SW, rfl, hbox, hLb, hgS, hSb, hgb, hgz⟩, rfl⟩ := hcut
    have s5 : u3.heap.size ≤ wc.heap.size := hgz.size
    have HC5 := Lib.hid (HC4.out.trans (hgz.mono HC4.out.size))
    have lt_W : gW < wc.heap.size := BoxR.box_lt hbox
    have HTW : Hid (∀ b ∈ SW, u3.heap.size ≤ b ∧ b < wc.heap.size) := Lib.hid (fun b hb => ⟨hSb b hb, hLb.lt b hb⟩)
    have NW := Lib.hid hLb
    have KBW := Lib.hid hbox
    clear hbox hgS hSb hgb hgz HQ HCC lt0 HC4 hLb
    obtain ⟨w6, rfl⟩ : ∃ x : World, x = wc := ⟨_, rfl⟩
    have hto := toBindingS_any l0 HF0.out HL0.out w6 _ (HI0.out w6 HC5.out)
    go_wp2_with fail
    refine hto.mono ?_
    rintro e w7 ⟨vX0, SX0, rfl, hL, hS, hb⟩
    have s8 : w6.heap.size ≤ w7.heap.size := hb.size
    have KBW_8 := Lib.hid ((hb.block _ (Args4.box_lt KBW.out)).trans KBW.out)
    have NW_8 := Lib.hid (NW.out.alike (w' := w7) fun bb hbb => hb.block bb (NW.out.lt bb hbb))
    have HC8 := Lib.hid (HC5.out.trans (hb.mono HC5.out.size))
    have HTX0 : Hid (∀ b ∈ SX0, w6.heap.size ≤ b ∧ b < w7.heap.size) := Lib.hid (fun b hb => ⟨hS b hb, hL.lt b hb⟩)
    have NX0 := Lib.hid hL
    clear hto hb hS KBW NW HC5 hL
    obtain ⟨b0, b1, b2, b3⟩ := HB1.out w7 HC8.out
    have hto := toTerm_any t1 HF1.out w7 _ (HI1.out w7 HC8.out)
    go_wp2_with fail
    refine hto.mono ?_
    rintro e w9 ⟨PX1, qX1, KX1, rX1, SX1, rfl, hL, hS, hb⟩
    have s10 : w7.heap.size ≤ w9.heap.size := hb.size
    have KBW_10 := Lib.hid ((hb.block _ (Args4.box_lt KBW_8.out)).trans KBW_8.out)
    have NW_10 := Lib.hid (NW_8.out.alike (w' := w9) fun bb hbb => hb.block bb (NW_8.out.lt bb hbb))
    have NX0_10 := Lib.hid (NX0.out.alike (w' := w9) fun bb hbb => hb.block bb (NX0.out.lt bb hbb))
    have HC10 := Lib.hid (HC8.out.trans (hb.mono HC8.out.size))
    have HTX1 : Hid (∀ b ∈ SX1, w7.heap.size ≤ b ∧ b < w9.heap.size) := Lib.hid (fun b hb => ⟨hS b hb, hL.lt b hb⟩)
    have NX1 := Lib.hid hL
    clear hto hb hS b0 b1 b2 b3 KBW_8 NW_8 NX0 HC8 hL
    have hbx : Below w9.heap.size w9 (w9.alloc (.cells #[.int .i64 t1.op, .int .i64 t1.num, .slice PX1 t1.perm.length qX1, .slice KX1 t1.kids.length rX1] 31)) := (Below.refl _ _).alloc (Nat.le_refl _) _
    have s11 : w9.heap.size ≤ (w9.alloc (.cells #[.int .i64 t1.op, .int .i64 t1.num, .slice PX1 t1.perm.length qX1, .slice KX1 t1.kids.length rX1] 31)).heap.size := hbx.size
    have KBW_11 := Lib.hid ((hbx.block _ (Args4.box_lt KBW_10.out)).trans KBW_10.out)
    have NW_11 := Lib.hid (NW_10.out.alike (w' := (w9.alloc (.cells #[.int .i64 t1.op, .int .i64 t1.num, .slice PX1 t1.perm.length qX1, .slice KX1 t1.kids.length rX1] 31))) fun bb hbb => hbx.block bb (NW_10.out.lt bb hbb))
    have NX0_11 := Lib.hid (NX0_10.out.alike (w' := (w9.alloc (.cells #[.int .i64 t1.op, .int .i64 t1.num, .slice PX1 t1.perm.length qX1, .slice KX1 t1.kids.length rX1] 31))) fun bb hbb => hbx.block bb (NX0_10.out.lt bb hbb))
    have NX1_11 := Lib.hid (NX1.out.alike (w' := (w9.alloc (.cells #[.int .i64 t1.op, .int .i64 t1.num, .slice PX1 t1.perm.length qX1, .slice KX1 t1.kids.length rX1] 31))) fun bb hbb => hbx.block bb (NX1.out.lt bb hbb))
    have HC11 := Lib.hid (HC10.out.trans (hbx.mono HC10.out.size))
    have KBX1 := Lib.hid (heap_alloc_new w9 (.cells #[.int .i64 t1.op, .int .i64 t1.num, .slice PX1 t1.perm.length qX1, .slice KX1 t1.kids.length rX1] 31))
    clear hbx KBW_10 NW_10 NX0_10 NX1 HC10
    have lt_X1 : w9.heap.size < (w9.alloc (.cells #[.int .i64 t1.op, .int .i64 t1.num, .slice PX1 t1.perm.length qX1, .slice KX1 t1.kids.length rX1] 31)).heap.size := by simp
    have hsp := applySub_impl l0 t1 _ _ (w9.alloc (.cells #[.int .i64 t1.op, .int .i64 t1.num, .slice PX1 t1.perm.length qX1, .slice KX1 t1.kids.length rX1] 31)) (ownRBindings_in NX0_11.out) (tmOut_in NX1_11.out) HL0.out HN0.out HN1.out
    rw [HL.out] at hsp
    rw [HFL.out] at hsp
    obtain ⟨x10, x11, x12, x13⟩ := Args4.row4 KBX1.out
    go_wp2_with fail
    refine hsp.mono ?_
    rintro e w12 ⟨AG, cG, BG, dG, SG, rfl, hL, hS, hb⟩
    have s13 : (w9.alloc (.cells #[.int .i64 t1.op, .int .i64 t1.num, .slice PX1 t1.perm.length qX1, .slice KX1 t1.kids.length rX1] 31)).heap.size ≤ w12.heap.size := hb.size
    have KBW_13 := Lib.hid ((hb.block _ (Args4.box_lt KBW_11.out)).trans KBW_11.out)
    have KBX1_13 := Lib.hid ((hb.block _ (Args4.box_lt KBX1.out)).trans KBX1.out)
    have NW_13 := Lib.hid (NW_11.out.alike (w' := w12) fun bb hbb => hb.block bb (NW_11.out.lt bb hbb))
    have NX0_13 := Lib.hid (NX0_11.out.alike (w' := w12) fun bb hbb => hb.block bb (NX0_11.out.lt bb hbb))
    have NX1_13 := Lib.hid (NX1_11.out.alike (w' := w12) fun bb hbb => hb.block bb (NX1_11.out.lt bb hbb))
    have HC13 := Lib.hid (HC11.out.trans (hb.mono HC11.out.size))
    have HTG : Hid (∀ b ∈ SG, (w9.alloc (.cells #[.int .i64 t1.op, .int .i64 t1.num, .slice PX1 t1.perm.length qX1, .slice KX1 t1.kids.length rX1] 31)).heap.size ≤ b ∧ b < w12.heap.size) := Lib.hid (fun b hb => ⟨hS b hb, hL.lt b hb⟩)
    have NG := Lib.hid hL
    clear hb hS KBW_11 KBX1 NW_11 NX0_11 NX1_11 HC11 hL
    have hbx : Below w12.heap.size w12 (w12.alloc (.cells #[.int .i64 R.op, .int .i64 R.num, .slice AG R.perm.length cG, .slice BG R.kids.length dG] 31)) := (Below.refl _ _).alloc (Nat.le_refl _) _
    have s14 : w12.heap.size ≤ (w12.alloc (.cells #[.int .i64 R.op, .int .i64 R.num, .slice AG R.perm.length cG, .slice BG R.kids.length dG] 31)).heap.size := hbx.size
    have KBW_14 := Lib.hid ((hbx.block _ (Args4.box_lt KBW_13.out)).trans KBW_13.out)
    have KBX1_14 := Lib.hid ((hbx.block _ (Args4.box_lt KBX1_13.out)).trans KBX1_13.out)
    have NW_14 := Lib.hid (NW_13.out.alike (w' := (w12.alloc (.cells #[.int .i64 R.op, .int .i64 R.num, .slice AG R.perm.length cG, .slice BG R.kids.length dG] 31))) fun bb hbb => hbx.block bb (NW_13.out.lt bb hbb))
    have NX0_14 := Lib.hid (NX0_13.out.alike (w' := (w12.alloc (.cells #[.int .i64 R.op, .int .i64 R.num, .slice AG R.perm.length cG, .slice BG R.kids.length dG] 31))) fun bb hbb => hbx.block bb (NX0_13.out.lt bb hbb))
    have NX1_14 := Lib.hid (NX1_13.out.alike (w' := (w12.alloc (.cells #[.int .i64 R.op, .int .i64 R.num, .slice AG R.perm.length cG, .slice BG R.kids.length dG] 31))) fun bb hbb => hbx.block bb (NX1_13.out.lt bb hbb))
    have NG_14 := Lib.hid (NG.out.alike (w' := (w12.alloc (.cells #[.int .i64 R.op, .int .i64 R.num, .slice AG R.perm.length cG, .slice BG R.kids.length dG] 31))) fun bb hbb => hbx.block bb (NG.out.lt bb hbb))
    have HC14 := Lib.hid (HC13.out.trans (hbx.mono HC13.out.size))
    have KBG := Lib.hid (heap_alloc_new w12 (.cells #[.int .i64 R.op, .int .i64 R.num, .slice AG R.perm.length cG, .slice BG R.kids.length dG] 31))
    clear hbx KBW_13 KBX1_13 NW_13 NX0_13 NX1_13 NG HC13
    have lt_G : w12.heap.size < (w12.alloc (.cells #[.int .i64 R.op, .int .i64 R.num, .slice AG R.perm.length cG, .slice BG R.kids.length dG] 31)).heap.size := by simp
    clear hsp x10 x11 x12 x13
    have heq := eqTerm_any R HFR.out (w12.alloc (.cells #[.int .i64 R.op, .int .i64 R.num, .slice AG R.perm.length cG, .slice BG R.kids.length dG] 31)) _ _ (tmOut_in NG_14.out) (tmOut_in NW_14.out)
    obtain ⟨ya0, ya1, ya2, ya3⟩ := Args4.row4 KBG.out
    obtain ⟨yb0, yb1, yb2, yb3⟩ := Args4.row4 KBW_14.out
    go_wp2_with fail
    refine heq.mono ?_
    rintro e w15 ⟨rfl, hb⟩
    have s16 : (w12.alloc (.cells #[.int .i64 R.op, .int .i64 R.num, .slice AG R.perm.length cG, .slice BG R.kids.length dG] 31)).heap.size ≤ w15.heap.size := hb.size
    have KBW_16 := Lib.hid ((hb.block _ (Args4.box_lt KBW_14.out)).trans KBW_14.out)
    have KBX1_16 := Lib.hid ((hb.block _ (Args4.box_lt KBX1_14.out)).trans KBX1_14.out)
    have KBG_16 := Lib.hid ((hb.block _ (Args4.box_lt KBG.out)).trans KBG.out)
    have NW_16 := Lib.hid (NW_14.out.alike (w' := w15) fun bb hbb => hb.block bb (NW_14.out.lt bb hbb))
    have NX0_16 := Lib.hid (NX0_14.out.alike (w' := w15) fun bb hbb => hb.block bb (NX0_14.out.lt bb hbb))
    have NX1_16 := Lib.hid (NX1_14.out.alike (w' := w15) fun bb hbb => hb.block bb (NX1_14.out.lt bb hbb))
    have NG_16 := Lib.hid (NG_14.out.alike (w' := w15) fun bb hbb => hb.block bb (NG_14.out.lt bb hbb))
    have HC16 := Lib.hid (HC14.out.trans (hb.mono HC14.out.size))
    clear heq hb ya0 ya1 ya2 ya3 yb0 yb1 yb2 yb3 KBW_14 KBX1_14 KBG NW_14 NX0_14 NX1_14 NG_14 HC14
    have hto := toBindingS_any l0 HF0.out HL0.out w15 _ (HI0.out w15 HC16.out)
    go_wp2_with fail
    refine hto.mono ?_
    rintro e w17 ⟨vv, SS, rfl, hL, _, hb⟩
    have s18 : w15.heap.size ≤ w17.heap.size := hb.size
    have KBW_18 := Lib.hid ((hb.block _ (Args4.box_lt KBW_16.out)).trans KBW_16.out)
    have KBX1_18 := Lib.hid ((hb.block _ (Args4.box_lt KBX1_16.out)).trans KBX1_16.out)
    have KBG_18 := Lib.hid ((hb.block _ (Args4.box_lt KBG_16.out)).trans KBG_16.out)
    have NW_18 := Lib.hid (NW_16.out.alike (w' := w17) fun bb hbb => hb.block bb (NW_16.out.lt bb hbb))
    have NX0_18 := Lib.hid (NX0_16.out.alike (w' := w17) fun bb hbb => hb.block bb (NX0_16.out.lt bb hbb))
    have NX1_18 := Lib.hid (NX1_16.out.alike (w' := w17) fun bb hbb => hb.block bb (NX1_16.out.lt bb hbb))
    have NG_18 := Lib.hid (NG_16.out.alike (w' := w17) fun bb hbb => hb.block bb (NG_16.out.lt bb hbb))
    have HC18 := Lib.hid (HC16.out.trans (hb.mono HC16.out.size))
    have heq := eqBindingS_any l0 HF0.out HL0.out w17 _ _ (ownRBindings_in NX0_18.out) (ownRBindings_in hL)
    clear hto hb hL KBW_16 KBX1_16 KBG_16 NW_16 NX0_16 NX1_16 NG_16 HC16
    go_wp2_with fail
    refine heq.mono ?_
    rintro e w19 ⟨rfl, hb⟩
    have s20 : w17.heap.size ≤ w19.heap.size := hb.size
    have KBW_20 := Lib.hid ((hb.block _ (Args4.box_lt KBW_18.out)).trans KBW_18.out)
    have KBX1_20 := Lib.hid ((hb.block _ (Args4.box_lt KBX1_18.out)).trans KBX1_18.out)
    have KBG_20 := Lib.hid ((hb.block _ (Args4.box_lt KBG_18.out)).trans KBG_18.out)
    have NW_20 := Lib.hid (NW_18.out.alike (w' := w19) fun bb hbb => hb.block bb (NW_18.out.lt bb hbb))
    have NX0_20 := Lib.hid (NX0_18.out.alike (w' := w19) fun bb hbb => hb.block bb (NX0_18.out.lt bb hbb))
    have NX1_20 := Lib.hid (NX1_18.out.alike (w' := w19) fun bb hbb => hb.block bb (NX1_18.out.lt bb hbb))
    have NG_20 := Lib.hid (NG_18.out.alike (w' := w19) fun bb hbb => hb.block bb (NG_18.out.lt bb hbb))
    have HC20 := Lib.hid (HC18.out.trans (hb.mono HC18.out.size))
    clear heq hb KBW_18 KBX1_18 KBG_18 NW_18 NX0_18 NX1_18 NG_18 HC18
    have hdw : Below w19.heap.size w19 w19.drew := ⟨rfl, rfl, rfl, Nat.le_refl _, fun _ _ => rfl⟩
    have s21 : w19.heap.size ≤ w19.drew.heap.size := hdw.size
    have KBW_21 := Lib.hid ((hdw.block _ (Args4.box_lt KBW_20.out)).trans KBW_20.out)
    have KBX1_21 := Lib.hid ((hdw.block _ (Args4.box_lt KBX1_20.out)).trans KBX1_20.out)
    have KBG_21 := Lib.hid ((hdw.block _ (Args4.box_lt KBG_20.out)).trans KBG_20.out)
    have NW_21 := Lib.hid (NW_20.out.alike (w' := w19.drew) fun bb hbb => hdw.block bb (NW_20.out.lt bb hbb))
    have NX0_21 := Lib.hid (NX0_20.out.alike (w' := w19.drew) fun bb hbb => hdw.block bb (NX0_20.out.lt bb hbb))
    have NX1_21 := Lib.hid (NX1_20.out.alike (w' := w19.drew) fun bb hbb => hdw.block bb (NX1_20.out.lt bb hbb))
    have NG_21 := Lib.hid (NG_20.out.alike (w' := w19.drew) fun bb hbb => hdw.block bb (NG_20.out.lt bb hbb))
    have HC21 := Lib.hid (HC20.out.trans (hdw.mono HC20.out.size))
    clear hdw KBW_20 KBX1_20 KBG_20 NW_20 NX0_20 NX1_20 NG_20 HC20
    have HS := HC21
    have HX := KBX1_21
    obtain ⟨b0, b1, b2, b3⟩ := HB1.out w19.drew HC21.out
    obtain ⟨x0, x1, x2, x3⟩ := Args4.row4 KBX1_21.out
    have hxx := tmOut_in NX1_21.out
    have hto := toTerm_any t1 HF1.out w19.drew _ (HI1.out w19.drew HS.out)
    go_wp2
    go_region_held3 (fun w' => w'.cell? ⟨w.heap.size, 0, none⟩ = some (.int .i64 t1.op) ∧ w'.cell? ⟨w.heap.size, 1, none⟩ = some (.int .i64 t1.num) ∧ w'.cell? ⟨w.heap.size, 2, none⟩ = some (.slice A1 t1.perm.length c1) ∧ w'.cell? ⟨w.heap.size, 3, none⟩ = some (.slice B1 t1.kids.length d1) ∧ w'.cell? ⟨w9.heap.size, 0, none⟩ = some (.int .i64 t1.op) ∧ w'.cell? ⟨w9.heap.size, 1, none⟩ = some (.int .i64 t1.num) ∧ w'.cell? ⟨w9.heap.size, 2, none⟩ = some (.slice PX1 t1.perm.length qX1) ∧ w'.cell? ⟨w9.heap.size, 3, none⟩ = some (.slice KX1 t1.kids.length rX1))
      (first | (with_reducible exact ⟨by assumption, by assumption, by assumption, by assumption, by assumption, by assumption, by assumption, by assumption⟩) | ((try dsimp only); exact ⟨by assumption, by assumption, by assumption, by assumption, by assumption, by assumption, by assumption, by assumption⟩) | go_keep)
      (first
        | (go_at_call 13; refine hto.mono ?_; rintro e w22 ⟨PZ, qZ, KZ, rZ, SZ, rfl, hLZ, _, hb1⟩; have hc1 := HS.out.trans (hb1.mono HS.out.size); have hzz := tmOut_in hLZ; have hyy := hxx.below hb1; obtain ⟨e0, e1, e2, e3⟩ := HB1.out w22 hc1; obtain ⟨e4, e5, e6, e7⟩ := Args4.row4 (((hb1).block _ (Args4.box_lt HX.out)).trans HX.out))
        | (go_at_call 15; refine (eqTerm_any t1 HF1.out _ _ _ hyy hzz).mono ?_; rintro e w23 ⟨rfl, hb2⟩; have hbz := hb1.trans (hb2.mono hb1.size); have hc2 := HS.out.trans (hbz.mono HS.out.size); obtain ⟨g0, g1, g2, g3⟩ := HB1.out w23 hc2; obtain ⟨g4, g5, g6, g7⟩ := Args4.row4 (((hbz).block _ (Args4.box_lt HX.out)).trans HX.out))
        | fail)
    have s24 : w19.drew.heap.size ≤ w23.heap.size := hbz.size
    have KBW_24 := Lib.hid ((hbz.block _ (Args4.box_lt KBW_21.out)).trans KBW_21.out)
    have KBX1_24 := Lib.hid ((hbz.block _ (Args4.box_lt KBX1_21.out)).trans KBX1_21.out)
    have KBG_24 := Lib.hid ((hbz.block _ (Args4.box_lt KBG_21.out)).trans KBG_21.out)
    have NW_24 := Lib.hid (NW_21.out.alike (w' := w23) fun bb hbb => hbz.block bb (NW_21.out.lt bb hbb))
    have NX0_24 := Lib.hid (NX0_21.out.alike (w' := w23) fun bb hbb => hbz.block bb (NX0_21.out.lt bb hbb))
    have NX1_24 := Lib.hid (NX1_21.out.alike (w' := w23) fun bb hbb => hbz.block bb (NX1_21.out.lt bb hbb))
    have NG_24 := Lib.hid (NG_21.out.alike (w' := w23) fun bb hbb => hbz.block bb (NG_21.out.lt bb hbb))
    have HC24 := Lib.hid (HC21.out.trans (hbz.mono HC21.out.size))
    clear hbz hb1 hb2 hc1 hc2 hzz hyy hxx hLZ hto HS HX b0 b1 b2 b3 x0 x1 x2 x3 e0 e1 e2 e3 e4 e5 e6 e7 g0 g1 g2 g3 g4 g5 g6 g7 KBW_21 KBX1_21 KBG_21 NW_21 NX0_21 NX1_21 NG_21 HC21
    have hml0 := mcRBindings_le l0
    have hmk := markBindingS_any l0 HL0.out HF0.out SX0 vX0 (1) w23 (by omega) (by omega) NX0_24.out
    go_wp2_with fail
    (with_reducible refine hmk.mono ?_)
    rintro e w25 ⟨rfl, _, hon⟩
    have s26 : w23.heap.size ≤ w25.heap.size := hon.size
    have KBW_26 := Lib.hid ((hon.block _ (Args4.box_lt KBW_24.out) (fun hm => by have := HTX0.out _ hm; omega)).trans KBW_24.out)
    have KBX1_26 := Lib.hid ((hon.block _ (Args4.box_lt KBX1_24.out) (fun hm => by have := HTX0.out _ hm; omega)).trans KBX1_24.out)
    have KBG_26 := Lib.hid ((hon.block _ (Args4.box_lt KBG_24.out) (fun hm => by have := HTX0.out _ hm; omega)).trans KBG_24.out)
    have NW_26 := Lib.hid (NW_24.out.alike (w' := w25) fun bb hbb => hon.block bb (NW_24.out.lt bb hbb) (fun hm => by have h1 := HTX0.out _ hm; have h2 := HTW.out _ hbb; omega))
    have NX1_26 := Lib.hid (NX1_24.out.alike (w' := w25) fun bb hbb => hon.block bb (NX1_24.out.lt bb hbb) (fun hm => by have h1 := HTX0.out _ hm; have h2 := HTX1.out _ hbb; omega))
    have NG_26 := Lib.hid (NG_24.out.alike (w' := w25) fun bb hbb => hon.block bb (NG_24.out.lt bb hbb) (fun hm => by have h1 := HTX0.out _ hm; have h2 := HTG.out _ hbb; omega))
    have HC26 := Lib.hid (Only.below HC24.out hon HC24.out.size (fun b hb => by have := HTX0.out _ hb; have := HZ.out; omega))
    clear hmk hon NX0_24 KBW_24 KBX1_24 KBG_24 NW_24 NX1_24 NG_24 HC24
    obtain ⟨x0, x1, x2, x3⟩ := Args4.row4 KBX1_26.out
    have hmk := markTerm_any t1 HF1.out SX1 PX1 KX1 qX1 rX1 (1 + (mcRBindings l0 : Int)) w25 (by omega) (by omega) NX1_26.out
    go_wp2_with fail
    (with_reducible refine hmk.mono ?_)
    rintro e w27 ⟨rfl, hon⟩
    have s28 : w25.heap.size ≤ w27.heap.size := hon.size
    have KBW_28 := Lib.hid ((hon.block _ (Args4.box_lt KBW_26.out) (fun hm => by have := HTX1.out _ hm; omega)).trans KBW_26.out)
    have KBG_28 := Lib.hid ((hon.block _ (Args4.box_lt KBG_26.out) (fun hm => by have := HTX1.out _ hm; omega)).trans KBG_26.out)
    have NW_28 := Lib.hid (NW_26.out.alike (w' := w27) fun bb hbb => hon.block bb (NW_26.out.lt bb hbb) (fun hm => by have h1 := HTX1.out _ hm; have h2 := HTW.out _ hbb; omega))
    have NG_28 := Lib.hid (NG_26.out.alike (w' := w27) fun bb hbb => hon.block bb (NG_26.out.lt bb hbb) (fun hm => by have h1 := HTX1.out _ hm; have h2 := HTG.out _ hbb; omega))
    have HC28 := Lib.hid (Only.below HC26.out hon HC26.out.size (fun b hb => by have := HTX1.out _ hb; have := HZ.out; omega))
    clear hmk hon x0 x1 x2 x3 NX1_26 KBX1_26 KBW_26 KBG_26 NW_26 NG_26 HC26
    have tk : ¬ 1 + (mcRBindings l0 : Int) + (t1.perm.length : Int) * 2 + (mcTs t1.kids : Int) < 0 := by omega
    have heq := eqTerm_any R HFR.out w27 _ _ (tmOut_in NG_28.out) (tmOut_in NW_28.out)
    obtain ⟨ya0, ya1, ya2, ya3⟩ := Args4.row4 KBG_28.out
    obtain ⟨yb0, yb1, yb2, yb3⟩ := Args4.row4 KBW_28.out
    go_wp2_with fail
    refine heq.mono ?_
    rintro e w29 ⟨rfl, hb⟩
    have s30 : w27.heap.size ≤ w29.heap.size := hb.size
    have KBW_30 := Lib.hid ((hb.block _ (Args4.box_lt KBW_28.out)).trans KBW_28.out)
    have KBG_30 := Lib.hid ((hb.block _ (Args4.box_lt KBG_28.out)).trans KBG_28.out)
    have NW_30 := Lib.hid (NW_28.out.alike (w' := w29) fun bb hbb => hb.block bb (NW_28.out.lt bb hbb))
    have NG_30 := Lib.hid (NG_28.out.alike (w' := w29) fun bb hbb => hb.block bb (NG_28.out.lt bb hbb))
    have HC30 := Lib.hid (HC28.out.trans (hb.mono HC28.out.size))
    clear heq hb ya0 ya1 ya2 ya3 yb0 yb1 yb2 yb3 KBW_28 KBG_28 NW_28 NG_28 HC28
    obtain ⟨y0, y1, y2, y3⟩ := Args4.row4 KBG_30.out
    have hmi := markTerm_full R HFR.out SG AG BG cG dG 1 w29 (by omega) (by omega) NG_30.out
    go_wp2_with fail
    (with_reducible refine hmi.mono ?_)
    rintro e w31 ⟨rfl, ⟨S', hLm, hSm⟩, hon⟩
    have s32 : w29.heap.size ≤ w31.heap.size := hon.size
    have KBW_32 := Lib.hid ((hon.block _ (Args4.box_lt KBW_30.out) (fun hm => by have := HTG.out _ hm; omega)).trans KBW_30.out)
    have KBG_32 := Lib.hid ((hon.block _ (Args4.box_lt KBG_30.out) (fun hm => by have := HTG.out _ hm; omega)).trans KBG_30.out)
    have NW_32 := Lib.hid (NW_30.out.alike (w' := w31) fun bb hbb => hon.block bb (NW_30.out.lt bb hbb) (fun hm => by have h1 := HTG.out _ hm; have h2 := HTW.out _ hbb; omega))
    have HC32 := Lib.hid (Only.below HC30.out hon HC30.out.size (fun b hb => by have := HTG.out _ hb; have := HZ.out; omega))
    have NM := Lib.hid hLm
    have HTM : Hid (∀ b ∈ S', _ ∧ _) := Lib.hid (fun b hb => HTG.out b (hSm b hb))
    clear hmi hon hLm hSm y0 y1 y2 y3 NG_30 KBW_30 KBG_30 NW_30 HC30
    have tm : ¬ 1 + (mcR R : Int) < 0 := by omega
    have tq : (1 + (mcR R : Int) != 1 + (mcR R : Int)) = false := by simp
    obtain ⟨y0, y1, y2, y3⟩ := Args4.row4 KBG_32.out
    have hhi := heldTerm_any R HFR.out AG BG cG dG 1 w31 (by omega) (by omega) S' NM.out
    go_wp2_with fail
    (with_reducible refine hhi.mono ?_)
    rintro e w33 ⟨rfl, hb⟩
    have s34 : w31.heap.size ≤ w33.heap.size := hb.size
    have KBW_34 := Lib.hid ((hb.block _ (Args4.box_lt KBW_32.out)).trans KBW_32.out)
    have KBG_34 := Lib.hid ((hb.block _ (Args4.box_lt KBG_32.out)).trans KBG_32.out)
    have NW_34 := Lib.hid (NW_32.out.alike (w' := w33) fun bb hbb => hb.block bb (NW_32.out.lt bb hbb))
    have NM_34 := Lib.hid (NM.out.alike (w' := w33) fun bb hbb => hb.block bb (NM.out.lt bb hbb))
    have HC34 := Lib.hid (HC32.out.trans (hb.mono HC32.out.size))
    clear hhi hb y0 y1 y2 y3 KBW_32 KBG_32 NW_32 NM HC32
    have HQ := HC34
    have lt0 : w.heap.size < w33.heap.size := by have h := HQ.out.size; simp only [World.size_alloc] at h; omega
    have HCC : Hid (∀ w' : World, Below w33.heap.size w33 w' → w'.cell? ⟨w.heap.size, 0, none⟩ = some (.int .i64 t1.op) ∧ w'.cell? ⟨w.heap.size, 1, none⟩ = some (.int .i64 t1.num) ∧ w'.cell? ⟨w.heap.size, 2, none⟩ = some (.slice A1 t1.perm.length c1) ∧ w'.cell? ⟨w.heap.size, 3, none⟩ = some (.slice B1 t1.kids.length d1)) := Lib.hid (fun w' h => ⟨(HB1.out w' (HQ.out.trans (h.mono HQ.out.size))).1, (HB1.out w' (HQ.out.trans (h.mono HQ.out.size))).2.1, (HB1.out w' (HQ.out.trans (h.mono HQ.out.size))).2.2.1, (HB1.out w' (HQ.out.trans (h.mono HQ.out.size))).2.2.2⟩)
    go_upto_region 31 with fail
    go_cut [15, 16] (fun s t wx => BoxR.Rel w33 R s wx ∧ t = .bool fl)
    case first =>
      have hdw : Below w33.heap.size w33 w33.drew := ⟨rfl, rfl, rfl, Nat.le_refl _, fun _ _ => rfl⟩
      have hal : Below w33.heap.size w33 (w33.alloc (.cells #[.int .i64 0, .int .i64 0, .slice none 0 0, .slice none 0 0] 31)).drew := by
        have h : Below w33.heap.size w33 (w33.alloc (.cells #[.int .i64 0, .int .i64 0, .slice none 0 0, .slice none 0 0] 31)) := (Below.refl _ _).alloc (Nat.le_refl _) _
        exact ⟨h.os, h.tape, h.output, h.size, h.block⟩
      obtain ⟨cu0, cu1, cu2, cu3⟩ := HCC.out w33.drew (hdw)
      obtain ⟨cx0, cx1, cx2, cx3⟩ := HCC.out (w33.alloc (.cells #[.int .i64 0, .int .i64 0, .slice none 0 0, .slice none 0 0] 31)).drew (hal)
      have ne0_0 : w.heap.size ≠ w33.heap.size := Nat.ne_of_lt lt0
      have h0a := toBindingS_any l0 HF0.out HL0.out (w33.drew) _ (HI0.out (w33.drew) (HQ.out.trans ((hdw).mono HQ.out.size)))
      have h0b := toBindingS_any l0 HF0.out HL0.out ((w33.alloc (.cells #[.int .i64 0, .int .i64 0, .slice none 0 0, .slice none 0 0] 31)).drew) _ (HI0.out ((w33.alloc (.cells #[.int .i64 0, .int .i64 0, .slice none 0 0, .slice none 0 0] 31)).drew) (HQ.out.trans ((hal).mono HQ.out.size)))
      go_region_held3 (fun w' => w'.cell? ⟨w.heap.size, 0, none⟩ = some (.int .i64 t1.op) ∧ w'.cell? ⟨w.heap.size, 1, none⟩ = some (.int .i64 t1.num) ∧ w'.cell? ⟨w.heap.size, 2, none⟩ = some (.slice A1 t1.perm.length c1) ∧ w'.cell? ⟨w.heap.size, 3, none⟩ = some (.slice B1 t1.kids.length d1))
        (first | ((try dsimp only); (with_reducible exact ⟨by assumption, by assumption, by assumption, by assumption⟩)) | (with_reducible exact ⟨BoxR.set4_keep (by assumption) (by assumption), BoxR.set4_keep (by assumption) (by assumption), BoxR.set4_keep (by assumption) (by assumption), BoxR.set4_keep (by assumption) (by assumption)⟩) | go_keep)
        (first
          | (go_at_call 33; (first | (with_reducible refine h0a.mono ?_) | (with_reducible refine h0b.mono ?_)); rintro e wq0 ⟨v0, S0, rfl, hL0, _, hb0⟩; have fr0 : Below w33.heap.size w33 wq0 := (by first | (with_reducible exact hdw.trans (hb0.mono hdw.size)) | (with_reducible exact hal.trans (hb0.mono hal.size))); (try (have z0 : wq0.heap[w33.heap.size]? = some (.cells #[.int .i64 0, .int .i64 0, .slice none 0 0, .slice none 0 0] 31) := (hb0.block w33.heap.size (by simp)).trans (heap_alloc_new w33 (.cells #[.int .i64 0, .int .i64 0, .slice none 0 0, .slice none 0 0] 31)))); have hin0 := ownRBindings_in hL0; obtain ⟨ca0, ca1, ca2, ca3⟩ := HCC.out wq0 (fr0); have ne0_1 : w.heap.size ≠ wq0.heap.size := Nat.ne_of_lt (Nat.lt_of_lt_of_le lt0 fr0.size); have al0 : Below wq0.heap.size wq0 (wq0.alloc (.cells #[.int .i64 0, .int .i64 0, .slice none 0 0, .slice none 0 0] 31)) := (Below.refl _ _).alloc (Nat.le_refl _) _; have h1a := toTerm_any t1 HF1.out (wq0) _ (HI1.out (wq0) (HQ.out.trans ((fr0).mono HQ.out.size))); have h1b := toTerm_any t1 HF1.out ((wq0.alloc (.cells #[.int .i64 0, .int .i64 0, .slice none 0 0, .slice none 0 0] 31))) _ (HI1.out ((wq0.alloc (.cells #[.int .i64 0, .int .i64 0, .slice none 0 0, .slice none 0 0] 31))) (HQ.out.trans (((fr0.trans (al0.mono fr0.size))).mono HQ.out.size))))
          | (go_at_call 13; (first | (with_reducible refine h1a.mono ?_) | (with_reducible refine h1b.mono ?_)); rintro e wq1 ⟨P1, q1, K1, r1, S1, rfl, hL1, _, hb1⟩; have bx1 : Below wq0.heap.size wq0 wq1 := (by first | (with_reducible exact hb1) | (with_reducible exact al0.trans (hb1.mono al0.size))); have fr1 := fr0.trans (bx1.mono fr0.size); (try (have z1 := (bx1.block _ (BoxR.box_lt z0)).trans z0)); (try (have z1 : wq1.heap[wq0.heap.size]? = some (.cells #[.int .i64 0, .int .i64 0, .slice none 0 0, .slice none 0 0] 31) := (hb1.block _ (by simp)).trans (heap_alloc_new wq0 (.cells #[.int .i64 0, .int .i64 0, .slice none 0 0, .slice none 0 0] 31)))); have hin1 := tmOut_in hL1; have hin0 := hin0.below bx1; obtain ⟨cb0, cb1, cb2, cb3⟩ := HCC.out wq1 (fr1); have ne0_2 : w.heap.size ≠ wq1.heap.size := Nat.ne_of_lt (Nat.lt_of_lt_of_le lt0 fr1.size); have al1 : Below wq1.heap.size wq1 (wq1.alloc (.cells #[.int .i64 0, .int .i64 0, .slice none 0 0, .slice none 0 0] 31)) := (Below.refl _ _).alloc (Nat.le_refl _) _; have h2a := applySub_impl l0 t1 _ _ (wq1) (hin0) (hin1) HL0.out HN0.out HN1.out; have h2b := applySub_impl l0 t1 _ _ ((wq1.alloc (.cells #[.int .i64 0, .int .i64 0, .slice none 0 0, .slice none 0 0] 31))) (hin0.below al1) (hin1.below al1) HL0.out HN0.out HN1.out; rw [HL.out] at h2a h2b; rw [HFL.out] at h2a h2b)
          | (go_at_call 34; (first | (with_reducible refine h2a.mono ?_) | (with_reducible refine h2b.mono ?_)); rintro e wq2 ⟨Aw, cw, Bw, dw, Sw, rfl, hLw, hSw, hb2⟩; have bx2 : Below wq1.heap.size wq1 wq2 := (by first | (with_reducible exact hb2) | (with_reducible exact al1.trans (hb2.mono al1.size))); have fr2 := fr1.trans (bx2.mono fr1.size); (try (have z2 := (bx2.block _ (BoxR.box_lt z1)).trans z1)); (try (have z2 : wq2.heap[wq1.heap.size]? = some (.cells #[.int .i64 0, .int .i64 0, .slice none 0 0, .slice none 0 0] 31) := (hb2.block _ (by simp)).trans (heap_alloc_new wq1 (.cells #[.int .i64 0, .int .i64 0, .slice none 0 0, .slice none 0 0] 31)))); obtain ⟨cc0, cc1, cc2, cc3⟩ := HCC.out wq2 (fr2); have ne0_3 : w.heap.size ≠ wq2.heap.size := Nat.ne_of_lt (Nat.lt_of_lt_of_le lt0 fr2.size); (try (obtain ⟨q0, q1, q2, q3⟩ := BoxR.row4 z2; have y0 := frozen_of_row _ _ 0 _ _ z2; have y1 := frozen_of_row _ _ 1 _ _ z2; have y2 := frozen_of_row _ _ 2 _ _ z2; have y3 := frozen_of_row _ _ 3 _ _ z2)))
          | fail)
      all_goals
        have sz0 : w33.heap.size ≤ wq0.heap.size := fr0.size
        have sz1 : w33.heap.size ≤ wq1.heap.size := fr1.size
        go_wp2_with fail
        go_meet
        first | (with_reducible exact ⟨BoxR.rel_set z2 hLw (fun b hb => Nat.le_trans (by omega) (hSw b hb)) (fun b hb => Nat.ne_of_gt (Nat.lt_of_lt_of_le (BoxR.box_lt z1) (hSw b hb))) (by omega) fr2, rfl⟩) | (with_reducible exact ⟨BoxR.rel_set z2 hLw (fun b hb => Nat.le_trans (by simp; omega) (hSw b hb)) (fun b hb => Nat.ne_of_gt (Nat.lt_of_lt_of_le (by simp) (hSw b hb))) (by omega) fr2, rfl⟩) | (with_reducible exact ⟨BoxR.rel_new hLw (fun b hb => Nat.le_trans (by omega) (hSw b hb)) fr2, rfl⟩)
    case rest =>
      obtain ⟨⟨gH, AH, cH, BH, dH, SH, rfl, hbox, hLb, hgS, hSb, hgb, hgz⟩, rfl⟩ := hcut
      have s35 : w33.heap.size ≤ wc.heap.size := hgz.size
      have KBW_35 := Lib.hid ((hgz.block _ (Args4.box_lt KBW_34.out)).trans KBW_34.out)
      have KBG_35 := Lib.hid ((hgz.block _ (Args4.box_lt KBG_34.out)).trans KBG_34.out)
      have NW_35 := Lib.hid (NW_34.out.alike (w' := wc) fun bb hbb => hgz.block bb (NW_34.out.lt bb hbb))
      have NM_35 := Lib.hid (NM_34.out.alike (w' := wc) fun bb hbb => hgz.block bb (NM_34.out.lt bb hbb))
      have HC35 := Lib.hid (HC34.out.trans (hgz.mono HC34.out.size))
      have lt_H : gH < wc.heap.size := BoxR.box_lt hbox
      have HTH : Hid (∀ b ∈ SH, w33.heap.size ≤ b ∧ b < wc.heap.size) := Lib.hid (fun b hb => ⟨hSb b hb, hLb.lt b hb⟩)
      have NH := Lib.hid hLb
      have KBH := Lib.hid hbox
      clear hbox hgS hSb hgb hgz HQ HCC lt0 KBW_34 KBG_34 NW_34 NM_34 HC34 hLb
      obtain ⟨w36, rfl⟩ : ∃ x : World, x = wc := ⟨_, rfl⟩
      have heq := eqTerm_any R HFR.out w36 _ _ (tmOut_in NH.out) (tmOut_in NW_35.out)
      obtain ⟨ya0, ya1, ya2, ya3⟩ := Args4.row4 KBH.out
      obtain ⟨yb0, yb1, yb2, yb3⟩ := Args4.row4 KBW_35.out
      go_wp2_with fail
      refine heq.mono ?_
      rintro e w37 ⟨rfl, hb⟩
      have s38 : w36.heap.size ≤ w37.heap.size := hb.size
      have KBW_38 := Lib.hid ((hb.block _ (Args4.box_lt KBW_35.out)).trans KBW_35.out)
      have KBG_38 := Lib.hid ((hb.block _ (Args4.box_lt KBG_35.out)).trans KBG_35.out)
      have KBH_38 := Lib.hid ((hb.block _ (Args4.box_lt KBH.out)).trans KBH.out)
      have NW_38 := Lib.hid (NW_35.out.alike (w' := w37) fun bb hbb => hb.block bb (NW_35.out.lt bb hbb))
      have NM_38 := Lib.hid (NM_35.out.alike (w' := w37) fun bb hbb => hb.block bb (NM_35.out.lt bb hbb))
      have NH_38 := Lib.hid (NH.out.alike (w' := w37) fun bb hbb => hb.block bb (NH.out.lt bb hbb))
      have HC38 := Lib.hid (HC35.out.trans (hb.mono HC35.out.size))
      clear heq hb ya0 ya1 ya2 ya3 yb0 yb1 yb2 yb3 KBW_35 KBG_35 KBH NW_35 NM_35 NH HC35
      obtain ⟨y0, y1, y2, y3⟩ := Args4.row4 KBG_38.out
      have hhi := heldTerm_any R HFR.out AG BG cG dG 1 w37 (by omega) (by omega) S' NM_38.out
      go_wp2_with fail
      (with_reducible refine hhi.mono ?_)
      rintro e w39 ⟨rfl, hb⟩
      have s40 : w37.heap.size ≤ w39.heap.size := hb.size
      have KBW_40 := Lib.hid ((hb.block _ (Args4.box_lt KBW_38.out)).trans KBW_38.out)
      have KBG_40 := Lib.hid ((hb.block _ (Args4.box_lt KBG_38.out)).trans KBG_38.out)
      have KBH_40 := Lib.hid ((hb.block _ (Args4.box_lt KBH_38.out)).trans KBH_38.out)
      have NW_40 := Lib.hid (NW_38.out.alike (w' := w39) fun bb hbb => hb.block bb (NW_38.out.lt bb hbb))
      have NM_40 := Lib.hid (NM_38.out.alike (w' := w39) fun bb hbb => hb.block bb (NM_38.out.lt bb hbb))
      have NH_40 := Lib.hid (NH_38.out.alike (w' := w39) fun bb hbb => hb.block bb (NH_38.out.lt bb hbb))
      have HC40 := Lib.hid (HC38.out.trans (hb.mono HC38.out.size))
      clear hhi hb y0 y1 y2 y3 KBW_38 KBG_38 KBH_38 NW_38 NM_38 NH_38 HC38
      have hfin := HW0.out.trans (HC40.out.mono HW0.out.size)
      go_wp2
      go_ret
      exact ⟨rfl, hfin⟩

theorem walk (w : World) (A0 : Option Addr) (c0 : Nat) (l0 : List RBinding) (hA0 : RBindingsIn w (.slice A0 l0.length c0) l0) (hs0 : ShortRBindings l0) (hm0 : l0.length ≤ maxLen) (x1 : Value) (t1 : Tm) (hx1 : TmIn w x1 t1) (hs1 : Short t1) :
    Calls Tryz.prog 8 #[.slice A0 l0.length c0, x1] w fun e w' => e = .returned (.bool true) ∧ Below w.heap.size w w' := by
  by_cases hn0 : ((l0.length + sumRBinding l0 : Nat) : Int) ≤ 1048576
  · skip
    by_cases hn1 : (cntT t1 : Int) ≤ 1048576 - ((l0.length + sumRBinding l0 : Nat) : Int)
    · skip
      exact walk_yes w A0 c0 l0 hA0 hs0 hm0 x1 t1 hx1 hs1 hn0 hn1
    · exact walk_no1 w A0 c0 l0 hA0 hs0 hm0 x1 t1 hx1 hs1 hn0 hn1
  · exact walk_no0 w A0 c0 l0 hA0 hs0 hm0 x1 t1 hx1 hs1 hn0

set_option maxRecDepth 100000 in
theorem lifted (os : Os) (started : os.Started) (H : Type) (enc : TypeId × Value → H) :
    ReturnsInHanded {} Tryz.checked os 8 .any (Rows.fnExactApplySubstitutionSpec.pre6 enc Tryz.prog Tryz.f8 Rows.fnExactApplySubstitutionRow.domain false) (Rows.fnExactApplySubstitutionSpec.post enc Tryz.prog Tryz.f8 false true false false) := by
  refine returnsInHanded_of_change (C := Tryz.checked) own started (by kernel_rfl) Tryz.func8
    (ChangeSpec.witness6 (enc := enc) (C := Tryz.checked) false ⟨#[], #[.slice none 0 0, .agg #[.int .i64 0, .int .i64 0, .slice none 0 0, .slice none 0 0]], []⟩ 8 (by kernel_rfl) (by kernel_rfl) (by kernel_rfl) (by kernel_rfl)) ?_
  intro W base args ds gs before hval0 hW hcnd _
  have hval : ∀ (j : Nat) t v, Tryz.f8.params[j]? = some t → args[j]? = some v → Value.okWide Tryz.prog W .any base t v := hval0
  have hW' := hW
  obtain ⟨p, q, hA0, hV, rfl, hfz, hnd⟩ := hW
  have hA : DataW.TrodAll enc Tryz.prog W 0 (fun _ => true) true Tryz.f8.params.toList args.toList ds p := hA0
  rw [Tryz.params8] at hA hval
  obtain ⟨v0, vs0, d0, ds0, p0, q0, hargs, rfl, rfl, h0, r0⟩ := trodAll_cons hA
  obtain ⟨v1, vs1, d1, ds1, p1, q1, rfl, rfl, rfl, h1, r1⟩ := trodAll_cons r0
  obtain ⟨rfl, rfl, rfl⟩ := trodAll_nil r1
  obtain rfl : args = #[v0, v1] := by cases args; simp_all
  obtain ⟨rfl, rfl⟩ := trodVars_none hV
  have k0 := h0
  have lt0 : ∀ x ∈ p0, x.block < W.heap.size := by obtain ⟨m, hm⟩ := k0; exact DataW.trod_lt m _ _ _ hm
  have k1 := h1
  have lt1 : ∀ x ∈ p1, x.block < W.heap.size := by obtain ⟨m, hm⟩ := k1; exact DataW.trod_lt m _ _ _ hm
  obtain ⟨A0, n0, c0, rfl⟩ := okWide_slice Tryz.underlying50 (hval 0 50 v0 rfl rfl)
  obtain ⟨l0, rfl, w0, s0, m0⟩ := open_bindings h0
  obtain ⟨t1, tx1, ts1⟩ := open_term (hval 1 25 v1 rfl rfl) h1
  clear hA0 hval0
  refine (walk W A0 c0 l0 w0 s0 m0 v1 t1 tx1 ts1).mono fun e W' ⟨he, bel⟩ => ?_
  subst he
  exact ⟨_, rfl, _, _, _, [], _, [], hW', trodAll_mk1 (shut_bool Tryz.underlying4 _), (trodAll_cons_mk (Below.trod laidOut (by kernel_rfl) (of_decide_eq_true (by kernel_rfl)) k0 bel lt0) (trodAll_cons_mk (Below.trod laidOut (by kernel_rfl) (of_decide_eq_true (by kernel_rfl)) k1 bel lt1) trodAll_mk0)), rfl, bel.frame _, fun h => by cases h⟩

theorem over : Rows.fnExactApplySubstitutionRow.holds Tryz.pinned (OpenSpec.ofChange Rows.fnExactApplySubstitutionSpec) :=
  OpenClaim.holds_of_wide 8 Tryz.f8 rfl rfl rfl rfl rfl rfl rfl ⟨rfl, rfl, rfl, rfl, rfl⟩ rfl rfl rfl rfl rfl (by kernel_rfl) Tryz.func8 (by kernel_rfl)
    (of_decide_eq_true (by kernel_rfl)) (by unfold Func.isWrapper; first | (rw [if_pos (by decide +kernel)]; kernel_rfl) | (rw [if_neg (by decide +kernel)]; exact ⟨rfl, rfl⟩))
    (fun os started H enc _ => lifted os started H enc)

theorem proved : Rows.FnExactApplySubstitutionSaid := over
#print axioms proved
end Go.Proofs.YtbfkfklaplgebaaGreat.fnExactApplySubstitution
