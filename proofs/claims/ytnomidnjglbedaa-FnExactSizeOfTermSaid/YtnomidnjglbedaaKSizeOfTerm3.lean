/-
  Terms as trees, how they lie in memory, and their counts; plain words, no program is walked here.
-/
import Derived.Test.YtnomidnjglbedaaKSizeOfTerm2
namespace Go.Proofs.Ytnomidnjglbedaa
open Go.RowKit

inductive Tm where
  | mk : Int → Int → List (Int × Int) → List Tm → Tm

def Tm.op : Tm → Int | .mk o _ _ _ => o
def Tm.num : Tm → Int | .mk _ n _ _ => n
def Tm.perm : Tm → List (Int × Int) | .mk _ _ p _ => p
def Tm.kids : Tm → List Tm | .mk _ _ _ ks => ks
def tm0 : Tm := .mk 0 0 [] []
/-- The term at a place of a list. -/
def tmAt (ts : List Tm) (i : Nat) : Tm := ts.getD i tm0

theorem tmAt_cons_succ (t : Tm) (ts : List Tm) (i : Nat) : tmAt (t :: ts) (i + 1) = tmAt ts i := rfl
theorem tmAt_cons_zero (t : Tm) (ts : List Tm) : tmAt (t :: ts) 0 = t := rfl
theorem tmAt_get (ts : List Tm) (i : Nat) (h : i < ts.length) : tmAt ts i = ts[i] := by simp [tmAt, h]
theorem tm_take_next {ts : List Tm} {k : Nat} (h : k < ts.length) : ts.take (k + 1) = ts.take k ++ [tmAt ts k] := by
  rw [List.take_succ_eq_append_getElem h, tmAt_get ts k h]
theorem tm_drop {ts : List Tm} {k : Nat} (h : k < ts.length) : ts.drop k = tmAt ts k :: ts.drop (k + 1) := by
  rw [List.drop_eq_getElem_cons h, tmAt_get ts k h]

def pairMem (p : List (Int × Int)) : Mem := .row 135 2 ((cellsOf p).map .cell)

mutual
/-- The four cells of a term. -/
def encT : Tm → List Mem
  | .mk o n p ks => [.cell (.int .i64 o), .cell (.int .i64 n), pairMem p, .row 31 4 (encTs ks)]
def encTs : List Tm → List Mem
  | [] => []
  | t :: r => encT t ++ encTs r
end

def tmsMem (ts : List Tm) : Mem := .row 31 4 (encTs ts)

theorem encT_eq (t : Tm) : encT t = [.cell (.int .i64 t.op), .cell (.int .i64 t.num), pairMem t.perm, tmsMem t.kids] := by
  cases t with
  | mk o n p ks => simp [encT, Tm.op, Tm.num, Tm.perm, Tm.kids, tmsMem]

theorem encT_len (t : Tm) : (encT t).length = 4 := by rw [encT_eq]; rfl

theorem encTs_len : ∀ ts : List Tm, (encTs ts).length = ts.length * 4
  | [] => by simp [encTs]
  | t :: r => by rw [encTs, List.length_append, encT_len, encTs_len r, List.length_cons]; omega

theorem encTs_append : ∀ a b : List Tm, encTs (a ++ b) = encTs a ++ encTs b
  | [], b => by simp [encTs]
  | t :: r, b => by rw [List.cons_append, encTs, encTs, encTs_append r b, List.append_assoc]

theorem encTs_at : ∀ (ts : List Tm) (i j : Nat), i < ts.length → j < 4 → (encTs ts)[i * 4 + j]? = (encT (tmAt ts i))[j]?
  | [], i, j, h, _ => by simp at h
  | t :: r, 0, j, _, hj => by
    rw [encTs, Nat.zero_mul, Nat.zero_add, List.getElem?_append_left (by rw [encT_len]; exact hj)]; rfl
  | t :: r, i + 1, j, h, hj => by
    have e : (i + 1) * 4 + j = 4 + (i * 4 + j) := by omega
    rw [encTs, e, List.getElem?_append_right (by rw [encT_len]; omega), encT_len, Nat.add_sub_cancel_left]
    exact encTs_at r i j (by simpa using h) hj

theorem encTs_parts {ts : List Tm} {i : Nat} (h : i < ts.length) :
    (encTs ts)[i * 4]? = some (.cell (.int .i64 (tmAt ts i).op)) ∧ (encTs ts)[i * 4 + 1]? = some (.cell (.int .i64 (tmAt ts i).num)) ∧
    (encTs ts)[i * 4 + 2]? = some (pairMem (tmAt ts i).perm) ∧ (encTs ts)[i * 4 + 3]? = some (tmsMem (tmAt ts i).kids) := by
  have h0 := encTs_at ts i 0 h (by omega)
  have h1 := encTs_at ts i 1 h (by omega)
  have h2 := encTs_at ts i 2 h (by omega)
  have h3 := encTs_at ts i 3 h (by omega)
  rw [encT_eq] at h0 h1 h2 h3
  exact ⟨h0, h1, h2, h3⟩

mutual
/-- How many terms lie within. -/
def szT : Tm → Nat
  | .mk _ _ _ ks => 1 + szTs ks
def szTs : List Tm → Nat
  | [] => 0
  | t :: r => szT t + szTs r
end

theorem szT_eq (t : Tm) : szT t = 1 + szTs t.kids := by cases t; simp [szT, Tm.kids]
theorem szT_at : ∀ {ts : List Tm} {i : Nat}, i < ts.length → szT (tmAt ts i) ≤ szTs ts
  | [], i, h => by simp at h
  | t :: r, 0, _ => by rw [szTs, tmAt_cons_zero]; omega
  | t :: r, i + 1, h => by
    have := szT_at (ts := r) (i := i) (by simpa using h)
    rw [szTs, tmAt_cons_succ]; omega

theorem szTs_kid {ts : List Tm} {i : Nat} (h : i < ts.length) : szTs (tmAt ts i).kids < szTs ts := by
  have h1 := szT_at h
  rw [szT_eq] at h1
  omega

mutual
/-- How much of the bound a term takes. -/
def cntT : Tm → Nat
  | .mk _ _ p ks => p.length + (ks.length + sumT ks)
def sumT : List Tm → Nat
  | [] => 0
  | t :: r => cntT t + sumT r
end

theorem cntT_eq (t : Tm) : cntT t = t.perm.length + (t.kids.length + sumT t.kids) := by cases t; simp [cntT, Tm.perm, Tm.kids]
theorem sumT_append : ∀ a b : List Tm, sumT (a ++ b) = sumT a + sumT b
  | [], b => by simp [sumT]
  | t :: r, b => by rw [List.cons_append, sumT, sumT, sumT_append r b]; omega
theorem sumT_next {ts : List Tm} {k : Nat} (h : k < ts.length) : sumT (ts.take (k + 1)) = sumT (ts.take k) + cntT (tmAt ts k) := by
  rw [tm_take_next h, sumT_append]
  simp [sumT]
theorem sumT_take (ts : List Tm) (k : Nat) : sumT (ts.take k) ≤ sumT ts := by
  have := sumT_append (ts.take k) (ts.drop k)
  rw [List.take_append_drop] at this
  omega

/-- A slice value reads as terms. -/
def TmsIn (w : World) (x : Value) (ts : List Tm) : Prop := At w x (tmsMem ts)
/-- A struct value reads as a term. -/
def TmIn (w : World) (x : Value) (t : Tm) : Prop :=
  ∃ A c kv, x = .agg #[.int .i64 t.op, .int .i64 t.num, .slice A t.perm.length c, kv] ∧ PairsAt w A t.perm ∧ TmsIn w kv t.kids

theorem TmsIn.below {w w' : World} {x : Value} {ts : List Tm} (h : TmsIn w x ts) (hb : Below w.heap.size w w') : TmsIn w' x ts := At.keep hb h
theorem TmIn.below {w w' : World} {x : Value} {t : Tm} (h : TmIn w x t) (hb : Below w.heap.size w w') : TmIn w' x t := by
  obtain ⟨A, c, kv, e, h1, h2⟩ := h
  exact ⟨A, c, kv, e, h1.below hb, h2.below hb⟩

theorem at_pairs {w : World} {v : Value} {p : List (Int × Int)} (h : At w v (pairMem p)) : ∃ A c, v = .slice A p.length c ∧ PairsAt w A p := by
  obtain ⟨A, n, c, rfl, hl⟩ := At.form h
  rw [List.length_map, cellsOf_len] at hl
  have hn : n = p.length := by omega
  subst hn
  refine ⟨A, c, rfl, fun hp => ?_⟩
  obtain ⟨b, off, rfl, hb, hc⟩ := At.get h hp
  refine ⟨b, off, rfl, hb, fun i hi => ?_⟩
  obtain ⟨c1, c2⟩ := cellsOf_at p i hi
  obtain ⟨u1, d1, a1⟩ := hc (i * 2) (.cell (.int .i64 (prAt p i).1)) (by rw [List.getElem?_map, c1]; rfl)
  obtain ⟨u2, d2, a2⟩ := hc (i * 2 + 1) (.cell (.int .i64 (prAt p i).2)) (by rw [List.getElem?_map, c2]; rfl)
  rw [a1.cell_eq] at d1
  rw [a2.cell_eq] at d2
  exact ⟨d1, by rw [Nat.add_assoc]; exact d2⟩

theorem TmsIn.form {w : World} {x : Value} {ts : List Tm} (h : TmsIn w x ts) : ∃ A c, x = .slice A ts.length c := by
  obtain ⟨A, n, c, rfl, hl⟩ := At.form h
  rw [encTs_len] at hl
  have hn : n = ts.length := by omega
  subst hn
  exact ⟨A, c, rfl⟩

theorem tms_none {w : World} {n c : Nat} {ts : List Tm} (h : TmsIn w (.slice none n c) ts) : ts = [] ∧ c = 0 := by
  unfold TmsIn tmsMem at h
  generalize hm : encTs ts = ms at h
  cases h with
  | nil _ _ _ _ h0 =>
    have := encTs_len ts
    rw [hm] at this
    exact ⟨List.eq_nil_of_length_eq_zero (by simp at this; omega), h0 (.inl rfl) rfl⟩

theorem pairs_at {w : World} {A : Option Addr} {c : Nat} {p : List (Int × Int)} (h : PairsAt w A p) : At w (.slice A p.length c) (pairMem p) := by
  unfold pairMem
  rcases Nat.eq_zero_or_pos p.length with h0 | h0
  · have e : p = [] := List.eq_nil_of_length_eq_zero h0
    subst e
    exact .nil _ _ _ _ (fun h => by simp at h)
  · obtain ⟨b, off, rfl, hb, hc⟩ := h h0
    have hA : ∀ vs : List Value, AtL w vs (vs.map .cell) := by
      intro vs
      induction vs with
      | nil => exact .nil
      | cons v r ih => exact .cons (.cell v) ih
    refine .row h0 (by rw [List.length_map, cellsOf_len]) hb (xs := cellsOf p) (fun j u hj => ?_) (hA _)
    have hlt : j < (cellsOf p).length := by
      rcases Nat.lt_or_ge j (cellsOf p).length with h1 | h1
      · exact h1
      · rw [List.getElem?_eq_none h1] at hj; cases hj
    rw [cellsOf_len] at hlt
    obtain ⟨c1, c2⟩ := cellsOf_at p (j / 2) (by omega)
    obtain ⟨d1, d2⟩ := hc (j / 2) (by omega)
    rcases Nat.mod_two_eq_zero_or_one j with hm | hm
    · have e : j / 2 * 2 = j := by omega
      rw [e] at c1 d1
      rw [hj] at c1
      injection c1 with c1
      rw [d1, c1]
    · have e : j / 2 * 2 + 1 = j := by omega
      rw [e] at c2
      rw [Nat.add_assoc, e] at d2
      rw [hj] at c2
      injection c2 with c2
      rw [d2, c2]

/-- The four cells of a term that is there. -/
theorem atL_term {w : World} {t : Tm} {A : Option Addr} {c : Nat} {kv : Value} (hp : PairsAt w A t.perm) (hk : TmsIn w kv t.kids) : AtL w [.int .i64 t.op, .int .i64 t.num, .slice A t.perm.length c, kv] (encT t) := by
  rw [encT_eq]
  exact .cons (.cell _) (.cons (.cell _) (.cons (pairs_at hp) (.cons hk .nil)))

/-- The cells of kids, as a list. -/
theorem TmsIn.cells {w : World} {ad : Addr} {n c : Nat} {ts : List Tm} (h : TmsIn w (.slice (some ad) n c) ts) :
    ∃ ys, ys.length = ts.length * 4 ∧ AtL w ys (encTs ts) ∧ ∀ j u, ys[j]? = some u → w.cell? (ad.add j) = some u := by
  unfold TmsIn tmsMem at h
  generalize hm : encTs ts = ms at h
  cases h with
  | nil =>
    have := encTs_len ts
    rw [hm] at this
    simp at this
    exact ⟨[], by simp; omega, .nil, fun j u hj => by simp at hj⟩
  | row hn hl hb hc hL =>
    subst hm
    rename_i b off xs
    refine ⟨xs, by rw [hL.len, encTs_len], hL, fun j u hj => ?_⟩
    have hadd : (⟨b, off, none⟩ : Addr).add j = ⟨b, off + j, none⟩ := by
      unfold Addr.add
      split
      · rename_i h0; rw [h0]; rfl
      · rfl
    rw [hadd]
    exact hc j u hj

/-- Every cell is one cell. -/
theorem tms_one {w : World} : ∀ {ts : List Tm} {ys : List Value}, AtL w ys (encTs ts) → ∀ u ∈ ys, u.oneCell' = true
  | [], ys, h => by
    rw [encTs] at h
    cases h
    intro u hu; simp at hu
  | t :: r, ys, h => by
    rw [encTs, encT_eq] at h
    cases h with
    | cons h0 h => cases h with
      | cons h1 h => cases h with
        | cons h2 h => cases h with
          | cons h3 h =>
            intro u hu
            obtain ⟨A2, n2, c2, rfl, _⟩ := At.form h2
            obtain ⟨A3, n3, c3, rfl, _⟩ := At.form h3
            rw [h0.cell_eq, h1.cell_eq] at hu
            simp only [List.mem_cons] at hu
            rcases hu with rfl | rfl | rfl | rfl | hu
            · rfl
            · rfl
            · rfl
            · rfl
            · exact tms_one h u hu

/-- The cells of the term at a place of a list of cells. -/
theorem AtL.term {w : World} {xs : List Value} {ts : List Tm} (h : AtL w xs (encTs ts)) {i : Nat} (hi : i < ts.length) :
    ∃ A c B d, xs[i * 4]? = some (.int .i64 (tmAt ts i).op) ∧ xs[i * 4 + 1]? = some (.int .i64 (tmAt ts i).num) ∧ xs[i * 4 + 2]? = some (.slice A (tmAt ts i).perm.length c) ∧
      xs[i * 4 + 3]? = some (.slice B (tmAt ts i).kids.length d) ∧ PairsAt w A (tmAt ts i).perm ∧ TmsIn w (.slice B (tmAt ts i).kids.length d) (tmAt ts i).kids := by
  obtain ⟨p0, p1, p2, p3⟩ := encTs_parts hi
  obtain ⟨u0, d0, a0⟩ := h.get _ _ p0
  obtain ⟨u1, d1, a1⟩ := h.get _ _ p1
  obtain ⟨u2, d2, a2⟩ := h.get _ _ p2
  obtain ⟨u3, d3, a3⟩ := h.get _ _ p3
  rw [a0.cell_eq] at d0
  rw [a1.cell_eq] at d1
  obtain ⟨A, c, rfl, hp⟩ := at_pairs a2
  obtain ⟨B, d, rfl⟩ := TmsIn.form (ts := (tmAt ts i).kids) a3
  exact ⟨A, c, B, d, d0, d1, d2, d3, hp, a3⟩

/-- The cells of the term at a place. -/
theorem TmsIn.get {w : World} {A : Option Addr} {n c : Nat} {ts : List Tm} (h : TmsIn w (.slice A n c) ts) (hp : 0 < ts.length) :
    ∃ b off, A = some ⟨b, off, none⟩ ∧ b < w.heap.size ∧ ∀ i, i < ts.length → ∃ A1 c1 kv,
      w.cell? ⟨b, off + i * 4, none⟩ = some (.int .i64 (tmAt ts i).op) ∧ w.cell? ⟨b, off + i * 4 + 1, none⟩ = some (.int .i64 (tmAt ts i).num) ∧
      w.cell? ⟨b, off + i * 4 + 2, none⟩ = some (.slice A1 (tmAt ts i).perm.length c1) ∧ w.cell? ⟨b, off + i * 4 + 3, none⟩ = some kv ∧
      PairsAt w A1 (tmAt ts i).perm ∧ TmsIn w kv (tmAt ts i).kids := by
  obtain ⟨A', c', e⟩ := h.form
  injection e with e1 e2 e3
  subst e2
  obtain ⟨b, off, rfl, hb, hc⟩ := At.get h hp
  refine ⟨b, off, rfl, hb, fun i hi => ?_⟩
  obtain ⟨p0, p1, p2, p3⟩ := encTs_parts hi
  obtain ⟨u0, d0, a0⟩ := hc _ _ p0
  obtain ⟨u1, d1, a1⟩ := hc _ _ p1
  obtain ⟨u2, d2, a2⟩ := hc _ _ p2
  obtain ⟨u3, d3, a3⟩ := hc _ _ p3
  rw [a0.cell_eq] at d0
  rw [a1.cell_eq] at d1
  obtain ⟨A1, c1, rfl, hpp⟩ := at_pairs a2
  exact ⟨A1, c1, u3, d0, by rw [Nat.add_assoc]; exact d1, by rw [Nat.add_assoc]; exact d2, by rw [Nat.add_assoc]; exact d3, hpp, a3⟩

/-- Pairs of the call's own, as a tree. -/
theorem own_pairMem {w : World} {base : Nat} {v : Value} {l : List (Int × Int)} (h : w.ownsRow base 135 2 v l.length (cellsOf l)) :
    ∃ S, Own w S v (pairMem l) ∧ (∀ b ∈ S, base ≤ b) ∧ S = v.ownBlock.toList := by
  rcases h.2 with ⟨rfl, h0⟩ | ⟨g, cap, cur, rfl, hb, hg, hn, hm, hs, ht⟩
  · have e : l = [] := List.eq_nil_of_length_eq_zero h0
    subst e
    exact ⟨[], .nil _ _, fun b hb => by simp at hb, rfl⟩
  · refine ⟨[g], .row (by rw [List.length_map, cellsOf_len]) ⟨h.1, .inr ⟨g, cap, cur, rfl, Nat.zero_le _, hg, hn, hm, hs, ht⟩⟩ (ownL_cells w _) (by simp), fun b hb' => ?_, rfl⟩
    simp at hb'
    omega

mutual
/-- No list within is longer than the bound. -/
def Fit : Tm → Prop
  | .mk _ _ p ks => p.length ≤ 1048576 ∧ ks.length ≤ 1048576 ∧ Fits ks
def Fits : List Tm → Prop
  | [] => True
  | t :: r => Fit t ∧ Fits r
end

theorem fit_eq (t : Tm) : Fit t ↔ t.perm.length ≤ 1048576 ∧ t.kids.length ≤ 1048576 ∧ Fits t.kids := by cases t; simp [Fit, Tm.perm, Tm.kids]
theorem fits_at : ∀ {ts : List Tm} {i : Nat}, Fits ts → i < ts.length → Fit (tmAt ts i)
  | [], i, _, h => by simp at h
  | t :: r, 0, h, _ => h.1
  | t :: r, i + 1, h, hi => by rw [tmAt_cons_succ]; exact fits_at h.2 (by simpa using hi)

mutual
theorem fit_of : ∀ t : Tm, cntT t ≤ 1048576 → Fit t
  | .mk o n p ks, h => by
    rw [cntT] at h
    exact ⟨by omega, by omega, fits_of ks (by omega)⟩
theorem fits_of : ∀ ts : List Tm, sumT ts ≤ 1048576 → Fits ts
  | [], _ => trivial
  | t :: r, h => by
    rw [sumT] at h
    exact ⟨fit_of t (by omega), fits_of r (by omega)⟩
end
end Go.Proofs.Ytnomidnjglbedaa
