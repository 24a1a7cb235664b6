/-
  What is a term, and how great it is, in the model, as contracts. Numbering the cells of a term that is handed over by value, as a contract. Index terms and function terms as plain words: no program is walked here.
-/
import Derived.Test.YtihijigbdpjcoaaKIsFunctionTerm7
import Derived.Test.YtihijigbdpjcoaaKIsFunctionTerm3
import Derived.Test.YtihijigbdpjcoaaKIsFunctionTerm4
import Derived.Test.YtihijigbdpjcoaaKIsFunctionTerm2
section
namespace Go.Proofs.Ytihijigbdpjcoaa
open Go.RowKit Go.Sort

/-- A struct of four cells in a box, in a later world. -/
theorem box4 {a b c d : Value} {T : TypeId} {w w1 : World} (hb : Below (w.alloc (.cells #[a, b, c, d] T)).heap.size (w.alloc (.cells #[a, b, c, d] T)) w1) :
    w1.cell? ⟨w.heap.size, 0, none⟩ = some a ∧ w1.cell? ⟨w.heap.size, 1, none⟩ = some b ∧ w1.cell? ⟨w.heap.size, 2, none⟩ = some c ∧ w1.cell? ⟨w.heap.size, 3, none⟩ = some d := by
  have h := (hb.block w.heap.size (by simp)).trans (heap_alloc_new w _)
  refine ⟨?_, ?_, ?_, ?_⟩ <;> rw [cell_of_row w1 w.heap.size _ _ _ _ h] <;> rfl

mutual
theorem szT_le : ∀ t : Tm, szT t ≤ 1 + cntT t
  | .mk o n p ks => by
    have := szTs_le ks
    rw [szT, cntT]; omega
theorem szTs_le : ∀ ts : List Tm, szTs ts ≤ ts.length + sumT ts
  | [] => by simp [szTs]
  | t :: r => by
    have h1 := szT_le t
    have h2 := szTs_le r
    rw [szTs, sumT, List.length_cons]; omega
end

theorem szTs_append : ∀ a b : List Tm, szTs (a ++ b) = szTs a + szTs b
  | [], b => by simp [szTs]
  | t :: r, b => by rw [List.cons_append, szTs, szTs, szTs_append r b]; omega
theorem szTs_next {ts : List Tm} {k : Nat} (h : k < ts.length) : szTs (ts.take (k + 1)) = szTs (ts.take k) + szT (tmAt ts k) := by
  rw [tm_take_next h, szTs_append]
  simp [szTs]
theorem szTs_take (ts : List Tm) (k : Nat) : szTs (ts.take k) ≤ szTs ts := by
  have := szTs_append (ts.take k) (ts.drop k)
  rw [List.take_append_drop] at this
  omega

/-- The answer, and new blocks at most. -/
def BoolPost (b : Bool) (w : World) (e : Ending) (w' : World) : Prop := e = .returned (.bool b) ∧ Below w.heap.size w w'
def IntPost (n : Int) (w : World) (e : Ending) (w' : World) : Prop := e = .returned (.int .i64 n) ∧ Below w.heap.size w w'

set_option maxRecDepth 100000 in
set_option maxHeartbeats 2000000 in
theorem l2Good_of (t : Tm) (x : Value) (w : World) (hx : TmIn w x t) (hpl : t.perm.length ≤ 1048576) (hkl : t.kids.length ≤ 1048576)
    (ih : ∀ i, i < t.kids.length → ∀ (w' : World) (y : Value), TmIn w' y (tmAt t.kids i) → Calls Try.prog 91 #[y] w' (BoolPost (goodT (tmAt t.kids i)) w')) :
    Calls Try.prog 91 #[x] w (BoolPost (goodT t) w) := by
  have hsh := fun W hW => shape_spec_any t x W hW hpl hkl
  obtain ⟨A, c, kv, rfl, hp, hk⟩ := hx
  obtain ⟨B, d, rfl⟩ := hk.form
  have hg := Lib.hid (goodT_eq t)
  have hb0 : Below w.heap.size w (w.alloc (.cells #[.int .i64 t.op, .int .i64 t.num, .slice A t.perm.length c, .slice B t.kids.length d] 31)) := (Below.refl _ _).alloc (Nat.le_refl _) _
  have hsh' := hsh _ ⟨A, c, _, rfl, hp.below hb0, hk.below hb0⟩
  by_cases h1 : shapeB t = true
  · rw [h1] at hsh' hg
    rw [Bool.true_and] at hg
    rw [hg.out]
    clear h1 hsh
    go_enter Try.func91, Try.ntmps91
    go_wp2_with fail
    refine hsh'.mono ?_
    rintro e w1 ⟨rfl, hb1⟩
    obtain ⟨b0, b1, b2, b3⟩ := box4 hb1
    have hs1 := hb0.trans (hb1.mono hb0.size)
    clear hsh' hb0 hb1 hp
    go_wp2
    clear b0 b1 b2 b3
    go_loopw [11] (fun i wr => ∃ k : Nat, k ≤ t.kids.length ∧ i = .int .i64 k ∧ goodTs (t.kids.take k) = true ∧ Below w.heap.size w wr) (fun i _ => t.kids.length - (intOf i).toNat)
    case atStart => exact ⟨0, Nat.zero_le _, rfl, by simp [goodTs], hs1⟩
    case round =>
      clear hs1
      obtain ⟨k, hk', rfl, hgt, hb⟩ := hrel
      have HGT := Lib.hid hgt
      clear hgt
      by_cases hlt : k < t.kids.length
      · obtain ⟨b, off, rfl, hbl, hget⟩ := (hk.below hb).get (by omega)
        obtain ⟨A1, c1, kv1, d0, d1, d2, d3, hp1, hk1⟩ := hget k hlt
        obtain ⟨B1, e1, rfl⟩ := hk1.form
        have hbx : Below wr.heap.size wr (wr.alloc (.cells #[.int .i64 (tmAt t.kids k).op, .int .i64 (tmAt t.kids k).num, .slice A1 (tmAt t.kids k).perm.length c1, .slice B1 (tmAt t.kids k).kids.length e1] 31)) := (Below.refl _ _).alloc (Nat.le_refl _) _
        have hct := ih k hlt _ _ ⟨A1, c1, _, rfl, hp1.below hbx, hk1.below hbx⟩
        have hb2 := hb.trans (hbx.mono hb.size)
        have hno := fun h => Lib.hid (goodTs_no hlt h)
        have hnx := Lib.hid (goodTs_next hlt)
        generalize tmAt t.kids k = u at d0 d1 d2 d3 hct hbx hb2 hno hnx
        clear hget hp1 hk1 hbl hbx hb ih hk
        by_cases hgu : goodT u = true
        · rw [hgu] at hct
          have hnx' : Hid (goodTs (t.kids.take (k + 1)) = true) := by show goodTs (t.kids.take (k + 1)) = true; rw [hnx.out, HGT.out, hgu]; rfl
          clear hno hgu hnx
          go_wp2_with fail
          refine hct.mono ?_
          rintro e w2 ⟨rfl, hb3⟩
          have hb4 := hb2.trans (hb3.mono hb2.size)
          clear hct hb2 hb3 d0 d1 d2 d3
          go_wp2
          refine ⟨⟨k + 1, by omega, by go_num, hnx'.out, hb4⟩, ?_⟩
          simp only [intOf]
          omega
        · have hgu' : goodT u = false := by simpa using hgu
          rw [hgu'] at hct
          have hr := hno hgu'
          clear hno hgu hgu' hnx
          go_wp2_with fail
          refine hct.mono ?_
          rintro e w2 ⟨rfl, hb3⟩
          have hpost : BoolPost (goodTs t.kids) w (.returned (.bool false)) w2 := ⟨by rw [hr.out], hb2.trans (hb3.mono hb2.size)⟩
          clear hct hb2 hb3 d0 d1 d2 d3 hr
          go_wp2
          go_ret
          exact hpost
      · have hpost : BoolPost (goodTs t.kids) w (.returned (.bool true)) wr := ⟨by rw [← HGT.out, List.take_of_length_le (by omega)], hb⟩
        clear ih hk hb
        go_wp2
        go_ret
        exact hpost
  · have h1' : shapeB t = false := by simpa using h1
    rw [h1'] at hsh' hg
    rw [Bool.false_and] at hg
    rw [hg.out]
    clear h1 h1' hsh ih
    go_enter Try.func91, Try.ntmps91
    go_wp2_with fail
    refine hsh'.mono ?_
    rintro e w1 ⟨rfl, hb1⟩
    have hpost : BoolPost false w (.returned (.bool false)) w1 := ⟨rfl, hb0.trans (hb1.mono hb0.size)⟩
    clear hsh' hb0 hb1 hp hk
    go_wp2
    go_ret
    exact hpost

theorem l2Good_any : ∀ (N : Nat) (t : Tm), szT t ≤ N → Fit t → ∀ (w : World) (x : Value), TmIn w x t → Calls Try.prog 91 #[x] w (BoolPost (goodT t) w) := by
  intro N
  induction N with
  | zero => intro t hN; rw [szT_eq] at hN; omega
  | succ N ih =>
    intro t hN hf w x hx
    have h2 := (fit_eq _).1 hf
    refine l2Good_of t x w hx h2.1 h2.2.1 fun i hi w' y hy => ?_
    have h3 := szT_at hi
    rw [szT_eq] at hN
    exact ih _ (by omega) (fits_at h2.2.2 hi) w' y hy

set_option maxRecDepth 100000 in
set_option maxHeartbeats 2000000 in
theorem l2Size_of (t : Tm) (x : Value) (w : World) (hx : TmIn w x t) (hkl : t.kids.length ≤ 1048576) (hsz : szT t ≤ 9007199254740992)
    (ih : ∀ i, i < t.kids.length → ∀ (w' : World) (y : Value), TmIn w' y (tmAt t.kids i) → Calls Try.prog 92 #[y] w' (IntPost (szT (tmAt t.kids i)) w')) :
    Calls Try.prog 92 #[x] w (IntPost (szT t) w) := by
  obtain ⟨A, c, kv, rfl, hp, hk⟩ := hx
  obtain ⟨B, d, rfl⟩ := hk.form
  have hg := szT_eq t
  have HG := Lib.hid hg
  have hb0 : Below w.heap.size w (w.alloc (.cells #[.int .i64 t.op, .int .i64 t.num, .slice A t.perm.length c, .slice B t.kids.length d] 31)) := (Below.refl _ _).alloc (Nat.le_refl _) _
  have hle : szTs t.kids ≤ 9007199254740991 := by omega
  clear hg hsz
  go_enter Try.func92, Try.ntmps92
  go_wp2
  go_loopw [3, 9] (fun s i wr => ∃ k : Nat, k ≤ t.kids.length ∧ i = .int .i64 k ∧ s = .int .i64 (1 + (szTs (t.kids.take k) : Nat)) ∧ Below w.heap.size w wr) (fun _ i _ => t.kids.length - (intOf i).toNat)
  case atStart => exact ⟨0, Nat.zero_le _, rfl, by simp [szTs], hb0⟩
  case round =>
    clear hb0 hp
    obtain ⟨k, hk', rfl, rfl, hb⟩ := hrel
    by_cases hlt : k < t.kids.length
    · obtain ⟨b, off, rfl, hbl, hget⟩ := (hk.below hb).get (by omega)
      obtain ⟨A1, c1, kv1, d0, d1, d2, d3, hp1, hk1⟩ := hget k hlt
      obtain ⟨B1, e1, rfl⟩ := hk1.form
      have hbx : Below wr.heap.size wr (wr.alloc (.cells #[.int .i64 (tmAt t.kids k).op, .int .i64 (tmAt t.kids k).num, .slice A1 (tmAt t.kids k).perm.length c1, .slice B1 (tmAt t.kids k).kids.length e1] 31)) := (Below.refl _ _).alloc (Nat.le_refl _) _
      have hct := ih k hlt _ _ ⟨A1, c1, _, rfl, hp1.below hbx, hk1.below hbx⟩
      have hb2 := hb.trans (hbx.mono hb.size)
      have hnx := szTs_next hlt
      have htk := szTs_take t.kids (k + 1)
      generalize tmAt t.kids k = u at d0 d1 d2 d3 hct hbx hb2 hnx
      generalize hs : szTs (t.kids.take k) = s at hnx
      have hse : Hid ((1 : Int) + ((szTs (t.kids.take (k + 1)) : Nat) : Int) = 1 + (s : Int) + (szT u : Nat)) := by show (1 : Int) + ((szTs (t.kids.take (k + 1)) : Nat) : Int) = 1 + (s : Int) + (szT u : Nat); omega
      have hbd : (1 : Int) + (s : Int) + (szT u : Nat) ≤ 9007199254740992 := by omega
      clear hget hp1 hk1 hbl hbx hb ih hk hs hnx htk
      generalize szT u = z at hct hse hbd
      go_wp2_with fail
      refine hct.mono ?_
      rintro e w2 ⟨rfl, hb3⟩
      have hb4 := hb2.trans (hb3.mono hb2.size)
      clear hct hb2 hb3 d0 d1 d2 d3
      go_wp2
      refine ⟨⟨k + 1, by omega, by go_num, by rw [hse.out], hb4⟩, ?_⟩
      simp only [intOf]
      omega
    · have hpost : IntPost (szT t) w (.returned (.int .i64 (1 + (szTs (t.kids.take k) : Nat)))) wr := ⟨by rw [HG.out, List.take_of_length_le (by omega)]; congr 2, hb⟩
      clear ih hk hb
      go_wp2
      go_ret
      exact hpost

theorem l2Size_any : ∀ (N : Nat) (t : Tm), szT t ≤ N → N ≤ 9007199254740992 → Fit t → ∀ (w : World) (x : Value), TmIn w x t → Calls Try.prog 92 #[x] w (IntPost (szT t) w) := by
  intro N
  induction N with
  | zero => intro t hN; rw [szT_eq] at hN; omega
  | succ N ih =>
    intro t hN hNb hf w x hx
    have h2 := (fit_eq _).1 hf
    refine l2Size_of t x w hx h2.2.1 (by omega) fun i hi w' y hy => ?_
    have h3 := szT_at hi
    rw [szT_eq] at hN
    exact ih _ (by omega) (by omega) (fits_at h2.2.2 hi) w' y hy

set_option maxRecDepth 100000 in
theorem isTerm_spec (t : Tm) (x : Value) (w : World) (hx : TmIn w x t) (hc : cntT t ≤ 1048576) :
    Calls Try.prog 63 #[x] w (BoolPost (isTermB t) w) := by
  have hle := szT_le t
  have hgd := fun W hW => l2Good_any _ t (Nat.le_refl _) (fit_of t hc) W x hW
  have hsz := fun W hW => l2Size_any (szT t) t (Nat.le_refl _) (by omega) (fit_of t hc) W x hW
  have hr0 : isTermB t = (goodT t && decide (szT t ≤ 60)) := rfl
  have hr := Lib.hid hr0
  clear hr0
  have hx' := hx
  obtain ⟨A, c, kv, rfl, hp, hk⟩ := hx
  obtain ⟨B, d, rfl⟩ := hk.form
  have hb0 : Below w.heap.size w (w.alloc (.cells #[.int .i64 t.op, .int .i64 t.num, .slice A t.perm.length c, .slice B t.kids.length d] 31)) := (Below.refl _ _).alloc (Nat.le_refl _) _
  have hg0 := hgd _ (hx'.below hb0)
  clear hgd
  by_cases h1 : goodT t = true
  · rw [h1] at hg0 hr
    rw [Bool.true_and] at hr
    clear h1
    go_enter Try.func63, Try.ntmps63
    go_wp2_with fail
    refine hg0.mono ?_
    rintro e w1 ⟨rfl, hb1⟩
    obtain ⟨b0, b1, b2, b3⟩ := box4 hb1
    have hs1 := hb0.trans (hb1.mono hb0.size)
    have hs0 := hsz _ (hx'.below hs1)
    clear hg0 hb0 hb1 hp hk hsz hx'
    generalize hz : szT t = z at hs0 hr hle
    clear hz
    go_wp2_with fail
    refine hs0.mono ?_
    rintro e w2 ⟨rfl, hb2⟩
    have hpost : BoolPost (isTermB t) w (.returned (.bool (decide (z ≤ 60)))) w2 := ⟨by rw [hr.out], hs1.trans (hb2.mono hs1.size)⟩
    clear hs0 hs1 hb2 hr b0 b1 b2 b3
    by_cases h2 : z ≤ 60
    · rw [decide_eq_true h2] at hpost
      have k2 : (z : Int) ≤ 60 := by omega
      go_wp2
      go_ret
      exact hpost
    · rw [decide_eq_false h2] at hpost
      have k2 : decide ((z : Int) ≤ 60) = false := by simp; omega
      go_wp2
      go_ret
      exact hpost
  · have h1' : goodT t = false := by simpa using h1
    rw [h1'] at hg0 hr
    rw [Bool.false_and] at hr
    clear h1 h1' hsz hx'
    go_enter Try.func63, Try.ntmps63
    go_wp2_with fail
    refine hg0.mono ?_
    rintro e w1 ⟨rfl, hb1⟩
    have hpost : BoolPost (isTermB t) w (.returned (.bool false)) w1 := ⟨by rw [hr.out], hb0.trans (hb1.mono hb0.size)⟩
    clear hg0 hb0 hb1 hp hk hr
    go_wp2
    go_ret
    exact hpost

end Go.Proofs.Ytihijigbdpjcoaa
end

section
namespace Go.Proofs.Ytihijigbdpjcoaa
open Go.RowKit

mutual
theorem mcT_le : ∀ t : Tm, mcT t ≤ 2 + 2 * cntT t
  | .mk o n p ks => by
    have := mcTs_le ks
    rw [mcT, cntT]; omega
theorem mcTs_le : ∀ ts : List Tm, mcTs ts ≤ 2 * (ts.length + sumT ts)
  | [] => by simp [mcTs]
  | t :: r => by
    have h1 := mcT_le t
    have h2 := mcTs_le r
    rw [mcTs, sumT, List.length_cons]; omega
end

end Go.Proofs.Ytihijigbdpjcoaa
end

section
namespace Go.Proofs.Ytihijigbdpjcoaa
open Go.RowKit
set_option linter.unusedVariables false

/-- What an index term is, as far as its numbers may be any. -/
inductive Li where
  | bnd : Int → Li
  | free : Int → Li
  | fn : Li → Li
  | app : Li → Li → Li

def shapeI (t : Ix) : Bool :=
  if t.op = 1 then decide (0 ≤ t.num ∧ t.num ≤ 999) && decide (t.kids.length = 0)
  else if t.op = 2 then atomB t.num && decide (t.kids.length = 0)
  else if t.op = 3 then decide (t.num = 0) && decide (t.kids.length = 1)
  else if t.op = 4 then decide (t.num = 0) && decide (t.kids.length = 2)
  else false

mutual
/-- Right, however great. -/
def goodI : Ix → Bool
  | .mk o n ks => shapeI (.mk o n ks) && goodIs ks
def goodIs : List Ix → Bool
  | [] => true
  | t :: r => goodI t && goodIs r
end
mutual
/-- The same, as the model asks it of any tree. -/
def closedI : Ix → Int → Bool
  | .mk o n ks, d => if o = 1 then decide (n < d) else closedIs ks (if o = 3 then d + 1 else d)
def closedIs : List Ix → Int → Bool
  | [], _ => true
  | t :: r, d => closedI t d && closedIs r d
end
mutual
def nodesI : Ix → List Ix
  | .mk o n ks => .mk o n ks :: nodesIs ks
def nodesIs : List Ix → List Ix
  | [] => []
  | t :: r => nodesI t ++ nodesIs r
end
/-- What is known while all within t are gone through: i of F have been looked at. -/
structure WalkI (t : Ix) (F : List Ix) (i : Nat) : Prop where
  le : i ≤ F.length
  most : F.length ≤ 60
  good : goodI t = goodIs (F.drop i)
  size : szIx t = i + szIxs (F.drop i)

inductive Ft where
  | var : Int → Ft
  | lam : Int → Ft → Ft
  | app : Ft → Ft → Ft
def ftTm : Ft → Tm
  | .var a => .mk 1 a [] []
  | .lam a b => .mk 2 1 [] [.mk 3 a [] [ftTm b]]
  | .app x y => .mk 2 2 [] [ftTm x, ftTm y]
def FunP (t : Tm) : Prop := ∃ f, t = ftTm f
noncomputable def funB (t : Tm) : Bool := @decide (FunP t) (Classical.propDecidable (FunP t))
theorem funB_true {t : Tm} : funB t = true ↔ FunP t := by unfold funB; exact @decide_eq_true_iff _ (Classical.propDecidable (FunP t))
theorem funB_same {s t : Tm} (h : FunP s ↔ FunP t) : funB s = funB t := by
  rcases Bool.eq_false_or_eq_true (funB s) with h1 | h1 <;> rcases Bool.eq_false_or_eq_true (funB t) with h2 | h2
  · rw [h1, h2]
  · rw [funB_true] at h1
    have := funB_true.2 (h.1 h1)
    rw [h2] at this; cases this
  · rw [funB_true] at h2
    have := funB_true.2 (h.2 h2)
    rw [h1] at this; cases this
  · rw [h1, h2]
theorem funB_var (a : Int) : funB (.mk 1 a [] []) = true := funB_true.2 ⟨.var a, rfl⟩
theorem funB_lam (a : Int) (b : Tm) : funB (.mk 2 1 [] [.mk 3 a [] [b]]) = funB b := by
  refine funB_same ⟨fun ⟨f, h⟩ => ?_, fun ⟨f, h⟩ => ⟨.lam a f, by rw [ftTm, h]⟩⟩
  cases f with
  | var => simp [ftTm] at h
  | lam c d => simp [ftTm] at h; exact ⟨d, h.2⟩
  | app => simp [ftTm] at h
theorem funB_app (x y : Tm) : funB (.mk 2 2 [] [x, y]) = (funB x && funB y) := by
  rw [Bool.eq_iff_iff, Bool.and_eq_true, funB_true, funB_true, funB_true]
  refine ⟨fun ⟨f, h⟩ => ?_, fun ⟨⟨f, h⟩, g, k⟩ => ⟨.app f g, by rw [ftTm, h, k]⟩⟩
  cases f with
  | var => simp [ftTm] at h
  | lam c d => simp [ftTm] at h
  | app c d => simp [ftTm] at h; exact ⟨⟨c, h.1⟩, d, h.2⟩
theorem funB_no {t : Tm} (h1 : t.op = 1 → t.perm ≠ [] ∨ t.kids ≠ []) (h2 : t.op = 2 → t.num = 1 → (tmAt t.kids 0).op ≠ 3) (h3 : t.op = 2 → t.num ≠ 2) : funB t = false := by
  rcases Bool.eq_false_or_eq_true (funB t) with h | h
  · exfalso
    rw [funB_true] at h
    obtain ⟨f, rfl⟩ := h
    cases f with
    | var => rcases h1 rfl with h | h <;> exact h rfl
    | lam => exact h2 rfl rfl rfl
    | app => exact h3 rfl rfl
  · exact h
end Go.Proofs.Ytihijigbdpjcoaa
end

