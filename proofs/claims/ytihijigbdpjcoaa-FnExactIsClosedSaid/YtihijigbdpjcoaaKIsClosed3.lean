/-
  Index terms as trees, how they lie in memory, and their counts; plain words, no program is walked here.
-/
import Derived.Test.YtihijigbdpjcoaaKIsClosed2
namespace Go.Proofs.Ytihijigbdpjcoaa
open Go.RowKit
set_option linter.unusedVariables false

inductive Ix where
  | mk : Int → Int → List Ix → Ix

def Ix.op : Ix → Int | .mk o _ _ => o
def Ix.num : Ix → Int | .mk _ a _ => a
def Ix.kids : Ix → List Ix | .mk _ _ ks => ks
def ix0 : Ix := .mk 0 0 []
instance : Inhabited Ix := ⟨ix0⟩

/-- The formula at a place of a list. -/
def ixAt (ts : List Ix) (i : Nat) : Ix := ts.getD i ix0
theorem ixAt_cons_succ (t : Ix) (ts : List Ix) (i : Nat) : ixAt (t :: ts) (i + 1) = ixAt ts i := rfl
theorem ixAt_cons_zero (t : Ix) (ts : List Ix) : ixAt (t :: ts) 0 = t := rfl
theorem ixAt_get (ts : List Ix) (i : Nat) (h : i < ts.length) : ixAt ts i = ts[i] := by simp [ixAt, h]
theorem ix_take_next {ts : List Ix} {k : Nat} (h : k < ts.length) : ts.take (k + 1) = ts.take k ++ [ixAt ts k] := by
  rw [List.take_succ_eq_append_getElem h, ixAt_get ts k h]

mutual
/-- The three cells of an index term. -/
def encIx : Ix → List Mem
  | .mk o a ks => [.cell (.int .i64 o), .cell (.int .i64 a), .row 42 3 (encIxs ks)]
def encIxs : List Ix → List Mem
  | [] => []
  | t :: r => encIx t ++ encIxs r
end
def ixsMem (ts : List Ix) : Mem := .row 42 3 (encIxs ts)
theorem encIx_eq (t : Ix) : encIx t = [.cell (.int .i64 t.op), .cell (.int .i64 t.num), ixsMem t.kids] := by
  cases t with
  | mk o a ks => simp [encIx, Ix.op, Ix.num, Ix.kids, ixsMem]
theorem encIx_len (t : Ix) : (encIx t).length = 3 := by rw [encIx_eq]; rfl
theorem encIxs_len : ∀ ts : List Ix, (encIxs ts).length = ts.length * 3
  | [] => by simp [encIxs]
  | t :: r => by rw [encIxs, List.length_append, encIx_len, encIxs_len r, List.length_cons]; omega
theorem encIxs_append : ∀ a b : List Ix, encIxs (a ++ b) = encIxs a ++ encIxs b
  | [], b => by simp [encIxs]
  | t :: r, b => by rw [List.cons_append, encIxs, encIxs, encIxs_append r b, List.append_assoc]
theorem encIxs_at : ∀ (ts : List Ix) (i j : Nat), i < ts.length → j < 3 → (encIxs ts)[i * 3 + j]? = (encIx (ixAt ts i))[j]?
  | [], i, j, h, _ => by simp at h
  | t :: r, 0, j, _, hj => by
    rw [encIxs, Nat.zero_mul, Nat.zero_add, List.getElem?_append_left (by rw [encIx_len]; exact hj)]; rfl
  | t :: r, i + 1, j, h, hj => by
    have e : (i + 1) * 3 + j = 3 + (i * 3 + j) := by omega
    rw [encIxs, e, List.getElem?_append_right (by rw [encIx_len]; omega), encIx_len, Nat.add_sub_cancel_left]
    exact encIxs_at r i j (by simpa using h) hj
theorem encIxs_parts {ts : List Ix} {i : Nat} (h : i < ts.length) :
    (encIxs ts)[i * 3]? = some (.cell (.int .i64 (ixAt ts i).op)) ∧ (encIxs ts)[i * 3 + 1]? = some (.cell (.int .i64 (ixAt ts i).num)) ∧
    (encIxs ts)[i * 3 + 2]? = some (ixsMem (ixAt ts i).kids) := by
  have h0 := encIxs_at ts i 0 h (by omega)
  have h1 := encIxs_at ts i 1 h (by omega)
  have h2 := encIxs_at ts i 2 h (by omega)
  rw [encIx_eq] at h0 h1 h2
  exact ⟨h0, h1, h2⟩

mutual
/-- How many index terms lie within. -/
def szIx : Ix → Nat
  | .mk _ _ ks => 1 + szIxs ks
def szIxs : List Ix → Nat
  | [] => 0
  | t :: r => szIx t + szIxs r
end
theorem szIx_eq (t : Ix) : szIx t = 1 + szIxs t.kids := by cases t; simp [szIx, Ix.kids]
theorem szIx_at : ∀ {ts : List Ix} {i : Nat}, i < ts.length → szIx (ixAt ts i) ≤ szIxs ts
  | [], i, h => by simp at h
  | t :: r, 0, _ => by rw [szIxs, ixAt_cons_zero]; omega
  | t :: r, i + 1, h => by
    have := szIx_at (ts := r) (i := i) (by simpa using h)
    rw [szIxs, ixAt_cons_succ]; omega
theorem szIxs_kid {ts : List Ix} {i : Nat} (h : i < ts.length) : szIxs (ixAt ts i).kids < szIxs ts := by
  have h1 := szIx_at h
  rw [szIx_eq] at h1
  omega
mutual
/-- How much of the bound an index term takes. -/
def cntIx : Ix → Nat
  | .mk _ _ ks => ks.length + sumIx ks
def sumIx : List Ix → Nat
  | [] => 0
  | t :: r => cntIx t + sumIx r
end
theorem cntIx_eq (t : Ix) : cntIx t = t.kids.length + sumIx t.kids := by cases t; simp [cntIx, Ix.kids]
theorem sumIx_append : ∀ a b : List Ix, sumIx (a ++ b) = sumIx a + sumIx b
  | [], b => by simp [sumIx]
  | t :: r, b => by rw [List.cons_append, sumIx, sumIx, sumIx_append r b]; omega
theorem sumIx_next {ts : List Ix} {k : Nat} (h : k < ts.length) : sumIx (ts.take (k + 1)) = sumIx (ts.take k) + cntIx (ixAt ts k) := by
  rw [ix_take_next h, sumIx_append]
  simp [sumIx]
theorem sumIx_take (ts : List Ix) (k : Nat) : sumIx (ts.take k) ≤ sumIx ts := by
  have := sumIx_append (ts.take k) (ts.drop k)
  rw [List.take_append_drop] at this
  omega

/-- A slice value reads as index terms. -/
def IxsIn (w : World) (x : Value) (ts : List Ix) : Prop := At w x (ixsMem ts)
/-- A struct value reads as an index term. -/
def IxIn (w : World) (x : Value) (t : Ix) : Prop :=
  ∃ B d, x = .agg #[.int .i64 t.op, .int .i64 t.num, .slice B t.kids.length d] ∧ IxsIn w (.slice B t.kids.length d) t.kids
theorem IxsIn.below {w w' : World} {x : Value} {ts : List Ix} (h : IxsIn w x ts) (hb : Below w.heap.size w w') : IxsIn w' x ts := At.keep hb h
theorem IxIn.below {w w' : World} {x : Value} {t : Ix} (h : IxIn w x t) (hb : Below w.heap.size w w') : IxIn w' x t := by
  obtain ⟨B, d, e, h2⟩ := h
  exact ⟨B, d, e, h2.below hb⟩
theorem IxsIn.form {w : World} {x : Value} {ts : List Ix} (h : IxsIn w x ts) : ∃ A c, x = .slice A ts.length c := by
  obtain ⟨A, n, c, rfl, hl⟩ := At.form h
  rw [encIxs_len] at hl
  have hn : n = ts.length := by omega
  subst hn
  exact ⟨A, c, rfl⟩
theorem atL_ix {w : World} {t : Ix} {kv : Value} (hk : IxsIn w kv t.kids) : AtL w [.int .i64 t.op, .int .i64 t.num, kv] (encIx t) := by
  rw [encIx_eq]
  exact .cons (.cell _) (.cons (.cell _) (.cons hk .nil))
/-- The cells of the formula at a place. -/
theorem IxsIn.get {w : World} {A : Option Addr} {n c : Nat} {ts : List Ix} (h : IxsIn w (.slice A n c) ts) (hp : 0 < ts.length) :
    ∃ b off, A = some ⟨b, off, none⟩ ∧ b < w.heap.size ∧ ∀ i, i < ts.length → ∃ B1 d1,
      w.cell? ⟨b, off + i * 3, none⟩ = some (.int .i64 (ixAt ts i).op) ∧ w.cell? ⟨b, off + i * 3 + 1, none⟩ = some (.int .i64 (ixAt ts i).num) ∧
      w.cell? ⟨b, off + i * 3 + 2, none⟩ = some (.slice B1 (ixAt ts i).kids.length d1) ∧
      IxsIn w (.slice B1 (ixAt ts i).kids.length d1) (ixAt ts i).kids := by
  obtain ⟨A', c', e⟩ := h.form
  injection e with e1 e2 e3
  subst e2
  obtain ⟨b, off, rfl, hb, hc⟩ := At.get h hp
  refine ⟨b, off, rfl, hb, fun i hi => ?_⟩
  obtain ⟨p0, p1, p2⟩ := encIxs_parts hi
  obtain ⟨u0, d0, a0⟩ := hc _ _ p0
  obtain ⟨u1, d1, a1⟩ := hc _ _ p1
  obtain ⟨u2, d2, a2⟩ := hc _ _ p2
  rw [a0.cell_eq] at d0
  rw [a1.cell_eq] at d1
  obtain ⟨B1, e1, rfl⟩ := IxsIn.form (ts := (ixAt ts i).kids) a2
  exact ⟨B1, e1, d0, by rw [Nat.add_assoc]; exact d1, by rw [Nat.add_assoc]; exact d2, a2⟩

mutual
/-- No list within is longer than the bound. -/
def FitIx : Ix → Prop
  | .mk _ _ ks => ks.length ≤ 1048576 ∧ FitIxs ks
def FitIxs : List Ix → Prop
  | [] => True
  | t :: r => FitIx t ∧ FitIxs r
end
theorem fitIx_eq (t : Ix) : FitIx t ↔ t.kids.length ≤ 1048576 ∧ FitIxs t.kids := by cases t; simp [FitIx, Ix.kids]
theorem fitIxs_at : ∀ {ts : List Ix} {i : Nat}, FitIxs ts → i < ts.length → FitIx (ixAt ts i)
  | [], i, _, h => by simp at h
  | t :: r, 0, h, _ => h.1
  | t :: r, i + 1, h, hi => by rw [ixAt_cons_succ]; exact fitIxs_at h.2 (by simpa using hi)
mutual
theorem fitIx_of : ∀ t : Ix, cntIx t ≤ 1048576 → FitIx t
  | .mk o a ks, h => by
    rw [cntIx] at h
    exact ⟨by omega, fitIxs_of ks (by omega)⟩
theorem fitIxs_of : ∀ ts : List Ix, sumIx ts ≤ 1048576 → FitIxs ts
  | [], _ => trivial
  | t :: r, h => by
    rw [sumIx] at h
    exact ⟨fitIx_of t (by omega), fitIxs_of r (by omega)⟩
end
mutual
/-- No list within is longer than a slice can be. -/
def ShortIx : Ix → Prop
  | .mk _ _ ks => ks.length ≤ maxLen ∧ ShortIxs ks
def ShortIxs : List Ix → Prop
  | [] => True
  | t :: r => ShortIx t ∧ ShortIxs r
end
theorem shortIx_eq (t : Ix) : ShortIx t ↔ t.kids.length ≤ maxLen ∧ ShortIxs t.kids := by cases t; simp [ShortIx, Ix.kids]
theorem shortIxs_at : ∀ {ts : List Ix} {i : Nat}, ShortIxs ts → i < ts.length → ShortIx (ixAt ts i)
  | [], i, _, h => by simp at h
  | t :: r, 0, h, _ => h.1
  | t :: r, i + 1, h, hi => by rw [ixAt_cons_succ]; exact shortIxs_at h.2 (by simpa using hi)
theorem shortIxs_of : ∀ {ts : List Ix}, (∀ i, i < ts.length → ShortIx (ixAt ts i)) → ShortIxs ts
  | [], _ => trivial
  | t :: r, h => ⟨h 0 (by simp), shortIxs_of fun i hi => by have := h (i + 1) (by simpa using hi); rwa [ixAt_cons_succ] at this⟩
end Go.Proofs.Ytihijigbdpjcoaa
