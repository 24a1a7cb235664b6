/-
  Slices of slices of numbers: how they lie in memory, and what they count; plain words, no program is walked here. Terms as trees, how they lie in memory, and their counts; plain words, no program is walked here.
-/
import Derived.Test.YtkhjdidcpoefdaaKCountTuples1
section
namespace Go.Proofs.Ytkhjdidcpoefdaa
open Go.RowKit
set_option linter.unusedVariables false

def intMem (l : List Int) : Mem := .row 3 1 ((icells l).map .cell)
def encR (ls : List (List Int)) : List Mem := ls.map intMem
def rowsMem (ls : List (List Int)) : Mem := .row 34 1 (encR ls)
/-- The row at a place. -/
def rwAt (ls : List (List Int)) (i : Nat) : List Int := ls.getD i []

theorem rwAt_get (ls : List (List Int)) (i : Nat) (h : i < ls.length) : rwAt ls i = ls[i] := by simp [rwAt, h]
theorem rwAt_cons_succ (t : List Int) (ts : List (List Int)) (i : Nat) : rwAt (t :: ts) (i + 1) = rwAt ts i := rfl
theorem rwAt_cons_zero (t : List Int) (ts : List (List Int)) : rwAt (t :: ts) 0 = t := rfl
theorem rw_take_next {ls : List (List Int)} {k : Nat} (h : k < ls.length) : ls.take (k + 1) = ls.take k ++ [rwAt ls k] := by
  rw [List.take_succ_eq_append_getElem h, rwAt_get ls k h]
theorem encR_len (ls : List (List Int)) : (encR ls).length = ls.length := by simp [encR]
theorem encR_append (a b : List (List Int)) : encR (a ++ b) = encR a ++ encR b := by simp [encR]
theorem encR_at {ls : List (List Int)} {i : Nat} (h : i < ls.length) : (encR ls)[i]? = some (intMem (rwAt ls i)) := by
  unfold encR
  rw [List.getElem?_map, List.getElem?_eq_getElem h, rwAt_get ls i h]; rfl

/-- How much of a bound rows take. -/
def sumR : List (List Int) → Nat
  | [] => 0
  | l :: r => l.length + sumR r
theorem sumR_append : ∀ a b : List (List Int), sumR (a ++ b) = sumR a + sumR b
  | [], b => by simp [sumR]
  | l :: r, b => by rw [List.cons_append, sumR, sumR, sumR_append r b]; omega
theorem sumR_next {ls : List (List Int)} {k : Nat} (h : k < ls.length) : sumR (ls.take (k + 1)) = sumR (ls.take k) + (rwAt ls k).length := by
  rw [rw_take_next h, sumR_append]
  simp [sumR]
theorem sumR_take (ls : List (List Int)) (k : Nat) : sumR (ls.take k) ≤ sumR ls := by
  have := sumR_append (ls.take k) (ls.drop k)
  rw [List.take_append_drop] at this
  omega
theorem sumR_at : ∀ {ls : List (List Int)} {i : Nat}, i < ls.length → (rwAt ls i).length ≤ sumR ls
  | [], i, h => by simp at h
  | t :: r, 0, _ => by rw [sumR, rwAt_cons_zero]; omega
  | t :: r, i + 1, h => by
    have := sumR_at (ls := r) (i := i) (by simpa using h)
    rw [sumR, rwAt_cons_succ]; omega

/-- A slice value reads as rows. -/
def RowsIn (w : World) (x : Value) (ls : List (List Int)) : Prop := At w x (rowsMem ls)
theorem RowsIn.below {w w' : World} {x : Value} {ls : List (List Int)} (h : RowsIn w x ls) (hb : Below w.heap.size w w') : RowsIn w' x ls := At.keep hb h
theorem RowsIn.form {w : World} {x : Value} {ls : List (List Int)} (h : RowsIn w x ls) : ∃ A c, x = .slice A ls.length c := by
  obtain ⟨A, n, c, rfl, hl⟩ := At.form h
  rw [encR_len] at hl
  have hn : n = ls.length := by omega
  subst hn
  exact ⟨A, c, rfl⟩

theorem at_intRow {w : World} {v : Value} {l : List Int} (h : At w v (intMem l)) : ∃ A c, v = .slice A l.length c ∧ IntsAt w A l := by
  obtain ⟨A, n, c, rfl, hl⟩ := At.form h
  rw [List.length_map, icells_len] at hl
  have hn : n = l.length := by omega
  subst hn
  refine ⟨A, c, rfl, fun hp => ?_⟩
  obtain ⟨b, off, rfl, hb, hc⟩ := At.get h hp
  refine ⟨b, off, rfl, hb, fun i hi => ?_⟩
  obtain ⟨u1, d1, a1⟩ := hc i (.cell (.int .i64 (itAt l i))) (by rw [List.getElem?_map, icells_at l i hi]; rfl)
  rw [a1.cell_eq] at d1
  exact d1

theorem int_atRow {w : World} {A : Option Addr} {c : Nat} {l : List Int} (h : IntsAt w A l) : At w (.slice A l.length c) (intMem l) := by
  unfold intMem
  rcases Nat.eq_zero_or_pos l.length with h0 | h0
  · have e : l = [] := List.eq_nil_of_length_eq_zero h0
    subst e
    exact .nil _ _ _ _ (fun h => by cases h)
  · obtain ⟨b, off, rfl, hb, hc⟩ := h h0
    have hA : ∀ vs : List Value, AtL w vs (vs.map .cell) := by
      intro vs
      induction vs with
      | nil => exact .nil
      | cons v r ih => exact .cons (.cell v) ih
    refine .row h0 (by rw [List.length_map, icells_len, Nat.mul_one]) hb (xs := icells l) (fun j u hj => ?_) (hA _)
    have hlt : j < l.length := by
      rcases Nat.lt_or_ge j l.length with h1 | h1
      · exact h1
      · rw [List.getElem?_eq_none (by rw [icells_len]; exact h1)] at hj; cases hj
    rw [icells_at l j hlt] at hj
    injection hj with hj
    rw [← hj]
    exact hc j hlt

/-- The cell of the row at a place. -/
theorem RowsIn.get {w : World} {A : Option Addr} {n c : Nat} {ls : List (List Int)} (h : RowsIn w (.slice A n c) ls) (hp : 0 < ls.length) :
    ∃ b off, A = some ⟨b, off, none⟩ ∧ b < w.heap.size ∧ ∀ i, i < ls.length → ∃ A1 c1, w.cell? ⟨b, off + i, none⟩ = some (.slice A1 (rwAt ls i).length c1) ∧ IntsAt w A1 (rwAt ls i) := by
  obtain ⟨A', c', e⟩ := h.form
  injection e with e1 e2 e3
  subst e2
  obtain ⟨b, off, rfl, hb, hc⟩ := At.get h hp
  refine ⟨b, off, rfl, hb, fun i hi => ?_⟩
  obtain ⟨u, d, a⟩ := hc i _ (encR_at hi)
  obtain ⟨A1, c1, rfl, hA⟩ := at_intRow a
  exact ⟨A1, c1, d, hA⟩

/-- Numbers of the call's own, as a tree. -/
theorem own_intRow {w : World} {base : Nat} {v : Value} {l : List Int} (h : w.ownsRow base 3 1 v l.length (icells l)) :
    ∃ S, Own w S v (intMem l) ∧ (∀ b ∈ S, base ≤ b) ∧ S = v.ownBlock.toList := by
  rcases h.2 with ⟨rfl, h0⟩ | ⟨g, cap, cur, rfl, hb, hg, hn, hm, hs, ht⟩
  · have e : l = [] := List.eq_nil_of_length_eq_zero h0
    subst e
    exact ⟨[], .nil _ _, fun b hb => by simp at hb, rfl⟩
  · refine ⟨[g], .row (by rw [List.length_map, icells_len, Nat.mul_one]) ⟨h.1, .inr ⟨g, cap, cur, rfl, Nat.zero_le _, hg, hn, hm, hs, ht⟩⟩ (ownL_cells w _) (by simp), fun b hb' => ?_, rfl⟩
    simp at hb'
    omega

theorem ownL_plain {w : World} : ∀ {vs : List Value} {T : List Nat} {us : List Value}, OwnL w T us (vs.map .cell) → T = []
  | [], _, _, h => by cases h; rfl
  | v :: r, _, _, h => by
    cases h with
    | cons h k hd =>
      cases h
      rw [ownL_plain k]; rfl

/-- What owns cells, as a row of the call's own. -/
theorem cellRow_own {w : World} {S : List Nat} {v : Value} {n : Nat} {vs : List Value} {e : TypeId} (hn : vs.length = n) (h : Own w S v (.row e 1 (vs.map .cell))) : w.ownsRow 0 e 1 v n vs ∧ S = v.ownBlock.toList := by
  subst hn
  generalize hm : vs.map Mem.cell = ms at h
  cases h with
  | nil =>
    have e : vs = [] := by simpa using hm
    subst e
    exact ⟨World.ownsRow_nil w _ _ _, rfl⟩
  | row hl ho hL hg =>
    subst hm
    rw [List.length_map] at hl
    rename_i n cap xs S'
    have en : n = vs.length := by omega
    subst en
    have ex := atL_cells hL.at_
    subst ex
    refine ⟨ho, ?_⟩
    rw [ownL_plain hL]
    rfl
theorem own_nilcap {w : World} {S : List Nat} {n c : Nat} {l : List Int} (h : Own w S (.slice none n c) (intMem l)) : c = 0 := by
  rcases (cellRow_own (icells_len l) h).1.2 with ⟨e, _⟩ | ⟨g, cap, cur, e, _⟩
  · injection e
  · cases e
/-- Rows of the call's own. -/
theorem own_rows {w : World} {S : List Nat} {v : Value} {n : Nat} {ms : List Mem} (hn : ms.length = n) (h : Own w S v (.row 34 1 ms)) (hp : 0 < n) :
    ∃ g cap xs S', S = g :: S' ∧ v = .slice (some ⟨g, 0, none⟩) n cap ∧ w.ownsRow 0 34 1 (.slice (some ⟨g, 0, none⟩) n cap) n xs ∧ OwnL w S' xs ms ∧ g ∉ S' := by
  subst hn
  cases h with
  | nil => simp at hp
  | row hl ho hL hg =>
    rename_i g n cap xs S'
    have en : n = ms.length := by omega
    subst en
    exact ⟨g, cap, xs, S', rfl, rfl, ho, hL, hg⟩

/-- Rows in memory of the call's own. -/
def RowsOut (ls : List (List Int)) (w : World) (e : Ending) (w' : World) : Prop :=
  ∃ v S, e = .returned v ∧ Own w' S v (rowsMem ls) ∧ (∀ b ∈ S, w.heap.size ≤ b) ∧ Below w.heap.size w w'

/-- Numbers, or nil without room. -/
def ConstAtR (w : World) (A : Option Addr) (c : Nat) (l : List Int) : Prop := IntsAt w A l ∧ (A = none → c = 0)
/-- No row is longer than a bound, nor are there more. -/
def FitR (ls : List (List Int)) : Prop := ls.length ≤ 2097152 ∧ ∀ i, i < ls.length → (rwAt ls i).length ≤ 2097152
theorem fitR_of {ls : List (List Int)} (h : ls.length + sumR ls ≤ 2097152) : FitR ls := ⟨by omega, fun i hi => by have := sumR_at hi; omega⟩
def ShortR (ls : List (List Int)) : Prop := ls.length ≤ maxLen ∧ ∀ i, i < ls.length → (rwAt ls i).length ≤ maxLen

end Go.Proofs.Ytkhjdidcpoefdaa
end

section
namespace Go.Proofs.Ytkhjdidcpoefdaa
open Go.RowKit

inductive Tm where
  | mk : Int → Int → List (Int × Int) → List Tm → Tm

def Tm.op : Tm → Int | .mk o _ _ _ => o
def Tm.num : Tm → Int | .mk _ n _ _ => n
def Tm.perm : Tm → List (Int × Int) | .mk _ _ p _ => p
def Tm.kids : Tm → List Tm | .mk _ _ _ ks => ks
mutual
/-- How many terms lie within. -/
def szT : Tm → Nat
  | .mk _ _ _ ks => 1 + szTs ks
def szTs : List Tm → Nat
  | [] => 0
  | t :: r => szT t + szTs r
end

mutual
/-- How much of the bound a term takes. -/
def cntT : Tm → Nat
  | .mk _ _ p ks => p.length + (ks.length + sumT ks)
def sumT : List Tm → Nat
  | [] => 0
  | t :: r => cntT t + sumT r
end

mutual
/-- No list within is longer than the bound. -/
def Fit : Tm → Prop
  | .mk _ _ p ks => p.length ≤ 1048576 ∧ ks.length ≤ 1048576 ∧ Fits ks
def Fits : List Tm → Prop
  | [] => True
  | t :: r => Fit t ∧ Fits r
end

mutual
theorem fit_of : ∀ t : Tm, cntT t ≤ 1048576 → Fit t
  | .mk o n p ks, h => by
    rw [cntT] at h
    exact ⟨by omega, by omega, fits_of ks (by omega)⟩
theorem fits_of : ∀ ts : List Tm, sumT ts ≤ 1048576 → Fits ts
  | [], _ => trivial
  | t :: r, h => by
    rw [sumT] at h
    exact ⟨fit_of t (by omega), fits_of r (by omega)⟩
end
end Go.Proofs.Ytkhjdidcpoefdaa
end

