/-
  What must be known for an atom to be fresh for a term: plain words.
-/
import Derived.Test.YtlhjgjfnmejiaaaGreatKComesOf13
import Derived.Test.YtlhjgjfnmejiaaaGreatKComesOf7
import Derived.Test.YtlhjgjfnmejiaaaGreatKComesOf12
import Derived.Test.YtlhjgjfnmejiaaaGreatKComesOf20
namespace Go.Proofs.YtlhjgjfnmejiaaaGreat
open Go.RowKit Go.Sort
set_option linter.unusedVariables false

mutual
/-- Whether an atom can be fresh for a term. -/
def okT (a : Int) : Tm → Bool
  | .mk o n p ks => if o = 1 then n != a else if o = 4 then true else if o = 3 ∧ n = a then true else okTs a ks
def okTs (a : Int) : List Tm → Bool
  | [] => true
  | t :: r => okT a t && okTs a r
end
mutual
/-- The elements that are needed, in the order in which they are met. -/
def ndT (a : Int) : Tm → List (Int × Int)
  | .mk o n p ks => if o = 1 then [] else if o = 4 then [(backL p a, n)] else if o = 3 ∧ n = a then [] else ndTs a ks
def ndTs (a : Int) : List Tm → List (Int × Int)
  | [] => []
  | t :: r => ndT a t ++ ndTs a r
end

theorem okTs_append (a : Int) : ∀ x y : List Tm, okTs a (x ++ y) = (okTs a x && okTs a y)
  | [], y => by simp [okTs]
  | t :: r, y => by rw [List.cons_append, okTs, okTs, okTs_append a r y, Bool.and_assoc]
theorem ndTs_append (a : Int) : ∀ x y : List Tm, ndTs a (x ++ y) = ndTs a x ++ ndTs a y
  | [], y => by simp [ndTs]
  | t :: r, y => by rw [List.cons_append, ndTs, ndTs, ndTs_append a r y, List.append_assoc]
theorem okTs_next (a : Int) {ts : List Tm} {k : Nat} (h : k < ts.length) : okTs a (ts.take (k + 1)) = (okTs a (ts.take k) && okT a (tmAt ts k)) := by
  rw [tm_take_next h, okTs_append]; simp [okTs]
theorem ndTs_next (a : Int) {ts : List Tm} {k : Nat} (h : k < ts.length) : ndTs a (ts.take (k + 1)) = ndTs a (ts.take k) ++ ndT a (tmAt ts k) := by
  rw [tm_take_next h, ndTs_append]; simp [ndTs]
theorem okTs_no (a : Int) {ts : List Tm} {k : Nat} (h : k < ts.length) (hk : okT a (tmAt ts k) = false) : okTs a ts = false := by
  have e : ts = ts.take k ++ (tmAt ts k :: ts.drop (k + 1)) := by rw [← tm_drop h, List.take_append_drop]
  rw [e, okTs_append, okTs, hk]; simp
theorem ndTs_split (a : Int) {ts : List Tm} {k : Nat} (h : k < ts.length) : ndTs a ts = ndTs a (ts.take k) ++ (ndT a (tmAt ts k) ++ ndTs a (ts.drop (k + 1))) := by
  have e : ts = ts.take k ++ (tmAt ts k :: ts.drop (k + 1)) := by rw [← tm_drop h, List.take_append_drop]
  conv => lhs; rw [e, ndTs_append, ndTs]

mutual
theorem ndT_len (a : Int) : ∀ t : Tm, (ndT a t).length ≤ szT t
  | .mk o n p ks => by
    have h := ndTs_len a ks
    rw [ndT, szT]
    split
    · simp
    · split
      · simp
      · split
        · simp
        · omega
theorem ndTs_len (a : Int) : ∀ ts : List Tm, (ndTs a ts).length ≤ szTs ts
  | [] => by simp [ndTs]
  | t :: r => by
    have h1 := ndT_len a t
    have h2 := ndTs_len a r
    rw [ndTs, List.length_append, szTs]
    omega
end

theorem okT_1 (a n : Int) : okT a (.mk 1 n [] []) = (n != a) := by simp [okT]
theorem okT_2 (a n : Int) (ks : List Tm) : okT a (.mk 2 n [] ks) = okTs a ks := by simp [okT]
theorem okT_3 (a n : Int) (k : Tm) : okT a (.mk 3 n [] [k]) = (n == a || okT a k) := by
  by_cases h : n = a <;> simp [okT, okTs, h]
theorem okT_4 (a n : Int) (p : List (Int × Int)) : okT a (.mk 4 n p []) = true := by simp [okT]
theorem ndT_1 (a n : Int) : ndT a (.mk 1 n [] []) = [] := by simp [ndT]
theorem ndT_2 (a n : Int) (ks : List Tm) : ndT a (.mk 2 n [] ks) = ndTs a ks := by simp [ndT]
theorem ndT_3 (a n : Int) (k : Tm) : ndT a (.mk 3 n [] [k]) = if n = a then [] else ndT a k := by
  by_cases h : n = a <;> simp [ndT, ndTs, h]
theorem ndT_4 (a n : Int) (p : List (Int × Int)) : ndT a (.mk 4 n p []) = [(backL p a, n)] := by simp [ndT]

theorem backL_cases : ∀ (l : List (Int × Int)) (a : Int), backL l a = a ∨ ∃ x ∈ l, backL l a = x.1
  | [], a => .inl rfl
  | p :: r, a => by
    unfold backL
    split
    · exact .inr ⟨p, by simp, rfl⟩
    · rcases backL_cases r a with h | ⟨x, hx, h⟩
      · exact .inl h
      · exact .inr ⟨x, List.mem_cons_of_mem _ hx, h⟩

theorem backL_atom {p : List (Int × Int)} (hp : permB p = true) {a : Int} (ha : atomB a = true) : atomB (backL p a) = true := by
  rcases backL_cases p a with h | ⟨x, hx, h⟩
  · rw [h]; exact ha
  · rw [h]
    have := (isP_of hp).dom x.1 (List.mem_map.2 ⟨x, hx, rfl⟩)
    simp [atomB]; omega

mutual
/-- What a term needs are elements of contexts. -/
theorem ndT_right {a : Int} (ha : atomB a = true) : ∀ t : Tm, goodT t = true → ∀ x ∈ ndT a t, atomB x.1 = true ∧ holeB x.2 = true
  | .mk o n p ks, hg => by
    rw [goodT, Bool.and_eq_true] at hg
    have hk := ndTs_right ha ks hg.2
    intro x hx
    rw [ndT] at hx
    by_cases h1 : o = 1
    · rw [if_pos h1] at hx; cases hx
    · rw [if_neg h1] at hx
      by_cases h4 : o = 4
      · rw [if_pos h4] at hx
        have hs := hg.1
        unfold shapeB at hs
        rw [op_mk, num_mk, perm_mk, if_neg (by omega), if_neg (by omega), if_neg (by omega), if_pos h4, Bool.and_eq_true, Bool.and_eq_true] at hs
        simp only [List.mem_singleton] at hx
        subst hx
        exact ⟨backL_atom hs.2.1 ha, hs.1⟩
      · rw [if_neg h4] at hx
        split at hx
        · cases hx
        · exact hk x hx
theorem ndTs_right {a : Int} (ha : atomB a = true) : ∀ ts : List Tm, goodTs ts = true → ∀ x ∈ ndTs a ts, atomB x.1 = true ∧ holeB x.2 = true
  | [], _ => by simp [ndTs]
  | t :: r, hg => by
    rw [goodTs, Bool.and_eq_true] at hg
    have h1 := ndT_right ha t hg.1
    have h2 := ndTs_right ha r hg.2
    intro x hx
    rw [ndTs] at hx
    exact (List.mem_append.1 hx).elim (h1 x) (h2 x)
end

/-- The context in the model: in order. -/
def frL (a : Int) (t : Tm) : List (Int × Int) := if okT a t then sortF (ndT a t) else []
theorem frL_yes {a : Int} {t : Tm} (h : okT a t = true) : frL a t = sortF (ndT a t) := by simp [frL, h]
theorem frL_no {a : Int} {t : Tm} (h : okT a t = false) : frL a t = [] := by simp [frL, h]
theorem frL_len (a : Int) (t : Tm) : (frL a t).length ≤ szT t := by
  unfold frL
  split
  · exact Nat.le_trans (sortF_len_le _) (ndT_len a t)
  · simp
theorem sortF_join (S T : List (Int × Int)) : joinF (sortF S) (sortF T) = sortF (S ++ T) :=
  ascF_same (joinF_asc (sortF_asc S) _) (sortF_asc _) fun z => by rw [mem_joinF, mem_sortF, mem_sortF, mem_sortF, List.mem_append]

theorem okPs_at {M : Nat} : ∀ {ts : List Tm} {i : Nat}, OkPs M ts → i < ts.length → OkP M (tmAt ts i)
  | [], i, _, h => by simp at h
  | t :: r, 0, h, _ => h.1
  | t :: r, i + 1, h, hi => by
    rw [tmAt_cons_succ]
    exact okPs_at (ts := r) h.2 (by simpa using hi)

theorem ndTs_kid {a : Int} {ts : List Tm} {k : Nat} (h : k < ts.length) {x : Int × Int} (hx : x ∈ ndT a (tmAt ts k)) : x ∈ ndTs a ts := by
  rw [ndTs_split a h]
  exact List.mem_append_right _ (List.mem_append_left _ hx)

theorem szTs_before : ∀ {ts : List Tm} {i : Nat}, i < ts.length → szTs (ts.take i) + szT (tmAt ts i) ≤ szTs ts
  | [], i, h => by simp at h
  | t :: r, 0, _ => by rw [List.take_zero, szTs, szTs, tmAt_cons_zero]; omega
  | t :: r, i + 1, h => by
    have := szTs_before (ts := r) (i := i) (by simpa using h)
    rw [List.take_succ_cons, szTs, szTs, tmAt_cons_succ]; omega

end Go.Proofs.YtlhjgjfnmejiaaaGreat
