/-
  Terms as trees, how they lie in memory, and their counts; plain words, no program is walked here.
-/
import Derived.Test.YtihijigbdpjcoaaKIsClosed2
namespace Go.Proofs.Ytihijigbdpjcoaa
open Go.RowKit

inductive Tm where
  | mk : Int → Int → List (Int × Int) → List Tm → Tm

def Tm.op : Tm → Int | .mk o _ _ _ => o
def Tm.num : Tm → Int | .mk _ n _ _ => n
def Tm.perm : Tm → List (Int × Int) | .mk _ _ p _ => p
def Tm.kids : Tm → List Tm | .mk _ _ _ ks => ks
def tm0 : Tm := .mk 0 0 [] []
/-- The term at a place of a list. -/
def tmAt (ts : List Tm) (i : Nat) : Tm := ts.getD i tm0

def pairMem (p : List (Int × Int)) : Mem := .row 96 2 ((cellsOf p).map .cell)

mutual
/-- The four cells of a term. -/
def encT : Tm → List Mem
  | .mk o n p ks => [.cell (.int .i64 o), .cell (.int .i64 n), pairMem p, .row 31 4 (encTs ks)]
def encTs : List Tm → List Mem
  | [] => []
  | t :: r => encT t ++ encTs r
end

def tmsMem (ts : List Tm) : Mem := .row 31 4 (encTs ts)

theorem encT_eq (t : Tm) : encT t = [.cell (.int .i64 t.op), .cell (.int .i64 t.num), pairMem t.perm, tmsMem t.kids] := by
  cases t with
  | mk o n p ks => simp [encT, Tm.op, Tm.num, Tm.perm, Tm.kids, tmsMem]

theorem encT_len (t : Tm) : (encT t).length = 4 := by rw [encT_eq]; rfl

theorem encTs_len : ∀ ts : List Tm, (encTs ts).length = ts.length * 4
  | [] => by simp [encTs]
  | t :: r => by rw [encTs, List.length_append, encT_len, encTs_len r, List.length_cons]; omega

theorem encTs_at : ∀ (ts : List Tm) (i j : Nat), i < ts.length → j < 4 → (encTs ts)[i * 4 + j]? = (encT (tmAt ts i))[j]?
  | [], i, j, h, _ => by simp at h
  | t :: r, 0, j, _, hj => by
    rw [encTs, Nat.zero_mul, Nat.zero_add, List.getElem?_append_left (by rw [encT_len]; exact hj)]; rfl
  | t :: r, i + 1, j, h, hj => by
    have e : (i + 1) * 4 + j = 4 + (i * 4 + j) := by omega
    rw [encTs, e, List.getElem?_append_right (by rw [encT_len]; omega), encT_len, Nat.add_sub_cancel_left]
    exact encTs_at r i j (by simpa using h) hj

theorem encTs_parts {ts : List Tm} {i : Nat} (h : i < ts.length) :
    (encTs ts)[i * 4]? = some (.cell (.int .i64 (tmAt ts i).op)) ∧ (encTs ts)[i * 4 + 1]? = some (.cell (.int .i64 (tmAt ts i).num)) ∧
    (encTs ts)[i * 4 + 2]? = some (pairMem (tmAt ts i).perm) ∧ (encTs ts)[i * 4 + 3]? = some (tmsMem (tmAt ts i).kids) := by
  have h0 := encTs_at ts i 0 h (by omega)
  have h1 := encTs_at ts i 1 h (by omega)
  have h2 := encTs_at ts i 2 h (by omega)
  have h3 := encTs_at ts i 3 h (by omega)
  rw [encT_eq] at h0 h1 h2 h3
  exact ⟨h0, h1, h2, h3⟩

mutual
/-- How many terms lie within. -/
def szT : Tm → Nat
  | .mk _ _ _ ks => 1 + szTs ks
def szTs : List Tm → Nat
  | [] => 0
  | t :: r => szT t + szTs r
end

mutual
/-- How much of the bound a term takes. -/
def cntT : Tm → Nat
  | .mk _ _ p ks => p.length + (ks.length + sumT ks)
def sumT : List Tm → Nat
  | [] => 0
  | t :: r => cntT t + sumT r
end

/-- A slice value reads as terms. -/
def TmsIn (w : World) (x : Value) (ts : List Tm) : Prop := At w x (tmsMem ts)
/-- A struct value reads as a term. -/
def TmIn (w : World) (x : Value) (t : Tm) : Prop :=
  ∃ A c kv, x = .agg #[.int .i64 t.op, .int .i64 t.num, .slice A t.perm.length c, kv] ∧ PairsAt w A t.perm ∧ TmsIn w kv t.kids

theorem TmsIn.below {w w' : World} {x : Value} {ts : List Tm} (h : TmsIn w x ts) (hb : Below w.heap.size w w') : TmsIn w' x ts := At.keep hb h
theorem TmIn.below {w w' : World} {x : Value} {t : Tm} (h : TmIn w x t) (hb : Below w.heap.size w w') : TmIn w' x t := by
  obtain ⟨A, c, kv, e, h1, h2⟩ := h
  exact ⟨A, c, kv, e, h1.below hb, h2.below hb⟩

theorem at_pairs {w : World} {v : Value} {p : List (Int × Int)} (h : At w v (pairMem p)) : ∃ A c, v = .slice A p.length c ∧ PairsAt w A p := by
  obtain ⟨A, n, c, rfl, hl⟩ := At.form h
  rw [List.length_map, cellsOf_len] at hl
  have hn : n = p.length := by omega
  subst hn
  refine ⟨A, c, rfl, fun hp => ?_⟩
  obtain ⟨b, off, rfl, hb, hc⟩ := At.get h hp
  refine ⟨b, off, rfl, hb, fun i hi => ?_⟩
  obtain ⟨c1, c2⟩ := cellsOf_at p i hi
  obtain ⟨u1, d1, a1⟩ := hc (i * 2) (.cell (.int .i64 (prAt p i).1)) (by rw [List.getElem?_map, c1]; rfl)
  obtain ⟨u2, d2, a2⟩ := hc (i * 2 + 1) (.cell (.int .i64 (prAt p i).2)) (by rw [List.getElem?_map, c2]; rfl)
  rw [a1.cell_eq] at d1
  rw [a2.cell_eq] at d2
  exact ⟨d1, by rw [Nat.add_assoc]; exact d2⟩

theorem TmsIn.form {w : World} {x : Value} {ts : List Tm} (h : TmsIn w x ts) : ∃ A c, x = .slice A ts.length c := by
  obtain ⟨A, n, c, rfl, hl⟩ := At.form h
  rw [encTs_len] at hl
  have hn : n = ts.length := by omega
  subst hn
  exact ⟨A, c, rfl⟩

/-- The cells of kids, as a list. -/
theorem TmsIn.cells {w : World} {ad : Addr} {n c : Nat} {ts : List Tm} (h : TmsIn w (.slice (some ad) n c) ts) :
    ∃ ys, ys.length = ts.length * 4 ∧ AtL w ys (encTs ts) ∧ ∀ j u, ys[j]? = some u → w.cell? (ad.add j) = some u := by
  unfold TmsIn tmsMem at h
  generalize hm : encTs ts = ms at h
  cases h with
  | nil =>
    have := encTs_len ts
    rw [hm] at this
    simp at this
    exact ⟨[], by simp; omega, .nil, fun j u hj => by simp at hj⟩
  | row hn hl hb hc hL =>
    subst hm
    rename_i b off xs
    refine ⟨xs, by rw [hL.len, encTs_len], hL, fun j u hj => ?_⟩
    have hadd : (⟨b, off, none⟩ : Addr).add j = ⟨b, off + j, none⟩ := by
      unfold Addr.add
      split
      · rename_i h0; rw [h0]; rfl
      · rfl
    rw [hadd]
    exact hc j u hj

/-- The cells of the term at a place of a list of cells. -/
theorem AtL.term {w : World} {xs : List Value} {ts : List Tm} (h : AtL w xs (encTs ts)) {i : Nat} (hi : i < ts.length) :
    ∃ A c B d, xs[i * 4]? = some (.int .i64 (tmAt ts i).op) ∧ xs[i * 4 + 1]? = some (.int .i64 (tmAt ts i).num) ∧ xs[i * 4 + 2]? = some (.slice A (tmAt ts i).perm.length c) ∧
      xs[i * 4 + 3]? = some (.slice B (tmAt ts i).kids.length d) ∧ PairsAt w A (tmAt ts i).perm ∧ TmsIn w (.slice B (tmAt ts i).kids.length d) (tmAt ts i).kids := by
  obtain ⟨p0, p1, p2, p3⟩ := encTs_parts hi
  obtain ⟨u0, d0, a0⟩ := h.get _ _ p0
  obtain ⟨u1, d1, a1⟩ := h.get _ _ p1
  obtain ⟨u2, d2, a2⟩ := h.get _ _ p2
  obtain ⟨u3, d3, a3⟩ := h.get _ _ p3
  rw [a0.cell_eq] at d0
  rw [a1.cell_eq] at d1
  obtain ⟨A, c, rfl, hp⟩ := at_pairs a2
  obtain ⟨B, d, rfl⟩ := TmsIn.form (ts := (tmAt ts i).kids) a3
  exact ⟨A, c, B, d, d0, d1, d2, d3, hp, a3⟩

/-- The cells of the term at a place. -/
theorem TmsIn.get {w : World} {A : Option Addr} {n c : Nat} {ts : List Tm} (h : TmsIn w (.slice A n c) ts) (hp : 0 < ts.length) :
    ∃ b off, A = some ⟨b, off, none⟩ ∧ b < w.heap.size ∧ ∀ i, i < ts.length → ∃ A1 c1 kv,
      w.cell? ⟨b, off + i * 4, none⟩ = some (.int .i64 (tmAt ts i).op) ∧ w.cell? ⟨b, off + i * 4 + 1, none⟩ = some (.int .i64 (tmAt ts i).num) ∧
      w.cell? ⟨b, off + i * 4 + 2, none⟩ = some (.slice A1 (tmAt ts i).perm.length c1) ∧ w.cell? ⟨b, off + i * 4 + 3, none⟩ = some kv ∧
      PairsAt w A1 (tmAt ts i).perm ∧ TmsIn w kv (tmAt ts i).kids := by
  obtain ⟨A', c', e⟩ := h.form
  injection e with e1 e2 e3
  subst e2
  obtain ⟨b, off, rfl, hb, hc⟩ := At.get h hp
  refine ⟨b, off, rfl, hb, fun i hi => ?_⟩
  obtain ⟨p0, p1, p2, p3⟩ := encTs_parts hi
  obtain ⟨u0, d0, a0⟩ := hc _ _ p0
  obtain ⟨u1, d1, a1⟩ := hc _ _ p1
  obtain ⟨u2, d2, a2⟩ := hc _ _ p2
  obtain ⟨u3, d3, a3⟩ := hc _ _ p3
  rw [a0.cell_eq] at d0
  rw [a1.cell_eq] at d1
  obtain ⟨A1, c1, rfl, hpp⟩ := at_pairs a2
  exact ⟨A1, c1, u3, d0, by rw [Nat.add_assoc]; exact d1, by rw [Nat.add_assoc]; exact d2, by rw [Nat.add_assoc]; exact d3, hpp, a3⟩

mutual
/-- No list within is longer than the bound. -/
def Fit : Tm → Prop
  | .mk _ _ p ks => p.length ≤ 1048576 ∧ ks.length ≤ 1048576 ∧ Fits ks
def Fits : List Tm → Prop
  | [] => True
  | t :: r => Fit t ∧ Fits r
end

mutual
theorem fit_of : ∀ t : Tm, cntT t ≤ 1048576 → Fit t
  | .mk o n p ks, h => by
    rw [cntT] at h
    exact ⟨by omega, by omega, fits_of ks (by omega)⟩
theorem fits_of : ∀ ts : List Tm, sumT ts ≤ 1048576 → Fits ts
  | [], _ => trivial
  | t :: r, h => by
    rw [sumT] at h
    exact ⟨fit_of t (by omega), fits_of r (by omega)⟩
end
end Go.Proofs.Ytihijigbdpjcoaa
