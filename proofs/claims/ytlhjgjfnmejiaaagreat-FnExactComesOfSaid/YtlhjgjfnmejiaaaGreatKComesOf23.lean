/-
  What must be known for two terms to be equal up to renaming: plain words. What must be known for two terms to be equal: elements of contexts, and few enough; plain words. The comparison as the model makes it: its list and its judgment; plain words.
-/
import Derived.Test.YtlhjgjfnmejiaaaGreatKComesOf21
import Derived.Test.YtlhjgjfnmejiaaaGreatKComesOf22
import Derived.Test.YtlhjgjfnmejiaaaGreatKComesOf15
section
namespace Go.Proofs.YtlhjgjfnmejiaaaGreat
open Go.RowKit Go.Sort
set_option linter.unusedVariables false

mutual
/-- Whether two terms can be judged equal; what is fresh, and which holes are the same, is asked. -/
def eqOk (F : Int → Tm → Bool) (H : Int → List (Int × Int) → Int → List (Int × Int) → Bool) : Tm → Tm → Bool
  | .mk o n p ks, t =>
    if o = 1 then decide (t.op = 1) && (n == t.num)
    else if o = 2 then decide (t.op = 2) && ((n == t.num) && eqOks F H ks t.kids)
    else if o = 3 then decide (t.op = 3) && (if n = t.num then eqOks F H ks t.kids else F n (tmAt t.kids 0) && eqOks F H ks [actT (swapL t.num n) (tmAt t.kids 0)])
    else decide (t.op = 4) && H n p t.num t.perm
def eqOks (F : Int → Tm → Bool) (H : Int → List (Int × Int) → Int → List (Int × Int) → Bool) : List Tm → List Tm → Bool
  | [], [] => true
  | [], _ :: _ => false
  | _ :: _, [] => false
  | s :: r, t :: q => eqOk F H s t && eqOks F H r q
end
mutual
/-- The elements that are needed, in the order in which they are met. -/
def eqNd (F : Int → Tm → List (Int × Int)) (H : Int → List (Int × Int) → Int → List (Int × Int) → List (Int × Int)) : Tm → Tm → List (Int × Int)
  | .mk o n p ks, t =>
    if o = 1 then []
    else if o = 2 then (if t.op = 2 ∧ n = t.num then eqNds F H ks t.kids else [])
    else if o = 3 then (if t.op = 3 then (if n = t.num then eqNds F H ks t.kids else F n (tmAt t.kids 0) ++ eqNds F H ks [actT (swapL t.num n) (tmAt t.kids 0)]) else [])
    else (if t.op = 4 then H n p t.num t.perm else [])
def eqNds (F : Int → Tm → List (Int × Int)) (H : Int → List (Int × Int) → Int → List (Int × Int) → List (Int × Int)) : List Tm → List Tm → List (Int × Int)
  | [], _ => []
  | _ :: _, [] => []
  | s :: r, t :: q => eqNd F H s t ++ eqNds F H r q
end

/-- Which holes are the same. -/
def hoOk (n : Int) (_ : List (Int × Int)) (m : Int) (_ : List (Int × Int)) : Bool := n == m
def hoNd (n : Int) (p : List (Int × Int)) (m : Int) (q : List (Int × Int)) : List (Int × Int) := if n = m then (differL p q).map fun a => (a, n) else []

theorem eqOks_take (F : Int → Tm → Bool) (H : Int → List (Int × Int) → Int → List (Int × Int) → Bool) : ∀ {ks ls : List Tm} {i : Nat}, i < ks.length → i < ls.length → eqOks F H (ks.take (i + 1)) (ls.take (i + 1)) = (eqOks F H (ks.take i) (ls.take i) && eqOk F H (tmAt ks i) (tmAt ls i))
  | [], _, i, h, _ => by simp at h
  | _ :: _, [], i, _, h => by simp at h
  | s :: r, t :: q, 0, _, _ => by simp [eqOks, tmAt_cons_zero]
  | s :: r, t :: q, i + 1, h, h' => by
    rw [List.take_succ_cons, List.take_succ_cons, List.take_succ_cons, List.take_succ_cons, eqOks, eqOks, eqOks_take F H (ks := r) (ls := q) (i := i) (by simpa using h) (by simpa using h'), tmAt_cons_succ, tmAt_cons_succ, Bool.and_assoc]
theorem eqOks_no (F : Int → Tm → Bool) (H : Int → List (Int × Int) → Int → List (Int × Int) → Bool) : ∀ {ks ls : List Tm} {i : Nat}, i < ks.length → i < ls.length → eqOk F H (tmAt ks i) (tmAt ls i) = false → eqOks F H ks ls = false
  | [], _, i, h, _, _ => by simp at h
  | _ :: _, [], i, _, h, _ => by simp at h
  | s :: r, t :: q, 0, _, _, e => by rw [tmAt_cons_zero, tmAt_cons_zero] at e; rw [eqOks, e]; simp
  | s :: r, t :: q, i + 1, h, h', e => by
    rw [tmAt_cons_succ, tmAt_cons_succ] at e
    rw [eqOks, eqOks_no F H (ks := r) (ls := q) (i := i) (by simpa using h) (by simpa using h') e]; simp
theorem eqOks_len (F : Int → Tm → Bool) (H : Int → List (Int × Int) → Int → List (Int × Int) → Bool) : ∀ {ks ls : List Tm}, ks.length ≠ ls.length → eqOks F H ks ls = false
  | [], [], h => absurd rfl h
  | [], _ :: _, _ => by rw [eqOks]
  | _ :: _, [], _ => by rw [eqOks]
  | s :: r, t :: q, h => by
    rw [eqOks, eqOks_len F H (ks := r) (ls := q) (by simpa using h)]; simp
end Go.Proofs.YtlhjgjfnmejiaaaGreat
end

section
namespace Go.Proofs.YtlhjgjfnmejiaaaGreat
open Go.RowKit Go.Sort
set_option linter.unusedVariables false

theorem isP_none : IsP [] := ⟨by simp [froms, AscP], fun _ h => by simp at h, fun _ h => by simp [froms] at h, by simp [froms, tos]⟩
theorem isP_pair {a b : Int} (h0 : 0 ≤ a) (h1 : b ≤ 999) (h : a < b) : IsP [(a, b), (b, a)] := by
  refine ⟨?_, ?_, ?_, ?_⟩
  · simp [froms, AscP, h]
  · intro x hx
    simp at hx
    rcases hx with rfl | rfl
    · show a ≠ b; omega
    · show b ≠ a; omega
  · intro x hx
    simp [froms] at hx
    omega
  · exact List.Perm.swap b a []
theorem isP_sw (a b : Int) : IsP (swapL a b) := by
  unfold swapL
  split
  · exact isP_none
  · split
    · exact isP_pair (by omega) (by omega) (by omega)
    · exact isP_pair (by omega) (by omega) (by omega)
theorem sw_len (a b : Int) : (swapL a b).length ≤ 2 := by
  unfold swapL
  split
  · simp
  · split <;> simp

mutual
/-- Binders' atoms, holes and permutations are of the language, however great. -/
def RgT : Tm → Prop
  | .mk o n p ks => (o = 3 → atomB n = true ∧ ks.length = 1) ∧ (o = 4 → holeB n = true) ∧ IsP p ∧ RgTs ks
def RgTs : List Tm → Prop
  | [] => True
  | t :: r => RgT t ∧ RgTs r
end
theorem rg_at : ∀ {ts : List Tm} {i : Nat}, RgTs ts → i < ts.length → RgT (tmAt ts i)
  | [], i, _, h => by simp at h
  | t :: r, 0, h, _ => h.1
  | t :: r, i + 1, h, hi => by rw [tmAt_cons_succ]; exact rg_at h.2 (by simpa using hi)
theorem atomB_iff {a : Int} : atomB a = true ↔ 0 ≤ a ∧ a ≤ 999 := by simp [atomB]

mutual
theorem rg_good : ∀ {t : Tm}, goodT t = true → RgT t
  | .mk o n p ks, h => by
    rw [goodT_eq, Bool.and_eq_true] at h
    have h1 := h.1
    unfold shapeB at h1
    rw [op_mk, num_mk, perm_mk, kids_mk] at h1
    refine ⟨fun e => ?_, fun e => ?_, ?_, rgs_good h.2⟩
    · subst e
      simp at h1
      exact ⟨h1.1, h1.2.2⟩
    · subst e
      simp at h1
      simp [holeB, h1.1]
    · have hnil : p.length = 0 → IsP p := fun h0 => by rw [List.length_eq_zero_iff.1 h0]; exact isP_none
      by_cases e1 : o = 1
      · subst e1; simp at h1; exact hnil (by simp [h1.2.1])
      · by_cases e2 : o = 2
        · subst e2; simp at h1; exact hnil (by simp [h1.2.1])
        · by_cases e3 : o = 3
          · subst e3; simp at h1; exact hnil (by simp [h1.2.1])
          · by_cases e4 : o = 4
            · subst e4; simp at h1; exact isP_of h1.2.1
            · simp [e1, e2, e3, e4] at h1
theorem rgs_good : ∀ {ts : List Tm}, goodTs ts = true → RgTs ts
  | [], _ => trivial
  | t :: r, h => by
    rw [goodTs, Bool.and_eq_true] at h
    exact ⟨rg_good h.1, rgs_good h.2⟩
end
mutual
theorem rg_act {q : List (Int × Int)} (hq : IsP q) : ∀ {t : Tm}, RgT t → RgT (actT q t)
  | .mk o n p ks, h => by
    rw [actT]
    refine ⟨fun e => ?_, fun e => ?_, ?_, rgs_act hq h.2.2.2⟩
    · subst e
      rw [if_pos (Or.inr rfl), actTs_len]
      exact ⟨atomB_iff.2 (hq.atom (atomB_iff.1 (h.1 rfl).1)), (h.1 rfl).2⟩
    · subst e
      rw [if_neg (by decide)]
      exact h.2.1 rfl
    · split
      · exact isP_thenL hq h.2.2.1
      · exact h.2.2.1
theorem rgs_act {q : List (Int × Int)} (hq : IsP q) : ∀ {ts : List Tm}, RgTs ts → RgTs (actTs q ts)
  | [], _ => trivial
  | t :: r, h => ⟨rg_act hq h.1, rgs_act hq h.2⟩
end
theorem back_rg {p : List (Int × Int)} (hp : IsP p) {a : Int} (ha : atomB a = true) : atomB (backL p a) = true := by
  rcases backL_cases p a with h | ⟨x, hx, h⟩
  · rw [h]; exact ha
  · rw [h]
    exact atomB_iff.2 (hp.dom x.1 (List.mem_map.2 ⟨x, hx, rfl⟩))

mutual
theorem ndT_rg {a : Int} (ha : atomB a = true) : ∀ t : Tm, RgT t → ∀ x ∈ ndT a t, atomB x.1 = true ∧ holeB x.2 = true
  | .mk o n p ks, hg => by
    have hk := ndTs_rg ha ks hg.2.2.2
    intro x hx
    rw [ndT] at hx
    by_cases h1 : o = 1
    · rw [if_pos h1] at hx; cases hx
    · rw [if_neg h1] at hx
      by_cases h4 : o = 4
      · rw [if_pos h4] at hx
        simp only [List.mem_singleton] at hx
        subst hx
        exact ⟨back_rg hg.2.2.1 ha, hg.2.1 h4⟩
      · rw [if_neg h4] at hx
        split at hx
        · cases hx
        · exact hk x hx
theorem ndTs_rg {a : Int} (ha : atomB a = true) : ∀ ts : List Tm, RgTs ts → ∀ x ∈ ndTs a ts, atomB x.1 = true ∧ holeB x.2 = true
  | [], _ => by simp [ndTs]
  | t :: r, hg => by
    intro x hx
    rw [ndTs] at hx
    exact (List.mem_append.1 hx).elim (ndT_rg ha t hg.1 x) (ndTs_rg ha r hg.2 x)
end

mutual
/-- Every node is of one of the four kinds. -/
def OpsT : Tm → Prop
  | .mk _ _ _ ks => OpsTs ks
def OpsTs : List Tm → Prop
  | [] => True
  | t :: r => (t.op = 1 ∨ t.op = 2 ∨ t.op = 3 ∨ t.op = 4) ∧ OpsT t ∧ OpsTs r
end
theorem op_good {t : Tm} (h : goodT t = true) : t.op = 1 ∨ t.op = 2 ∨ t.op = 3 ∨ t.op = 4 := by
  cases t with
  | mk o n p ks =>
    rw [goodT_eq, Bool.and_eq_true] at h
    have h1 := h.1
    unfold shapeB at h1
    rw [op_mk] at h1 ⊢
    by_cases e1 : o = 1
    · exact .inl e1
    · by_cases e2 : o = 2
      · exact .inr (.inl e2)
      · by_cases e3 : o = 3
        · exact .inr (.inr (.inl e3))
        · by_cases e4 : o = 4
          · exact .inr (.inr (.inr e4))
          · simp [e1, e2, e3, e4] at h1
mutual
theorem ops_good : ∀ {t : Tm}, goodT t = true → OpsT t
  | .mk o n p ks, h => by
    rw [goodT_eq, Bool.and_eq_true] at h
    exact opss_good h.2
theorem opss_good : ∀ {ts : List Tm}, goodTs ts = true → OpsTs ts
  | [], _ => trivial
  | t :: r, h => by
    rw [goodTs, Bool.and_eq_true] at h
    exact ⟨op_good h.1, ops_good h.1, opss_good h.2⟩
end

theorem hoNd_rg {n m : Int} {p q : List (Int × Int)} (hn : holeB n = true) (hp : IsP p) (hq : IsP q) : ∀ x ∈ hoNd n p m q, atomB x.1 = true ∧ holeB x.2 = true := by
  intro x hx
  unfold hoNd at hx
  split at hx
  · obtain ⟨a, ha, rfl⟩ := List.mem_map.1 hx
    unfold differL at ha
    have h := (List.mem_filter.1 ha).1
    rcases mem_atomsL.1 h with h | h
    · exact ⟨atomB_iff.2 (hp.dom a h), hn⟩
    · exact ⟨atomB_iff.2 (hq.dom a h), hn⟩
  · cases hx

/-- The second term of a comparison: of two shapes of terms that stand side by side. -/
def szB (M : Nat) (s t : Tm) : Nat := 40 + M + 2 * szT s + szT t

mutual
/-- What two terms need are elements of contexts, and not too many. -/
theorem eqNd_rg : ∀ (s : Tm) (M B : Nat) (t : Tm), (s.op = 1 ∨ s.op = 2 ∨ s.op = 3 ∨ s.op = 4) → OpsT s → RgT s → RgT t → OkP 40 s → OkP M t → szB M s t ≤ B →
    (∀ x ∈ eqNd ndT hoNd s t, atomB x.1 = true ∧ holeB x.2 = true) ∧ (eqNd ndT hoNd s t).length ≤ szT s * B
  | .mk o n p ks, M, B, .mk o' n' p' ls, ho, hO, hs, ht, hps, hpt, hB => by
    rw [op_mk] at ho
    unfold szB at hB
    rw [szT, szT] at hB
    rw [eqNd, szT, op_mk, num_mk, perm_mk, kids_mk, Nat.add_mul, Nat.one_mul]
    by_cases h1 : o = 1
    · rw [if_pos h1]; exact ⟨fun x hx => (by cases hx), Nat.zero_le _⟩
    · rw [if_neg h1]
      by_cases h2 : o = 2
      · rw [if_pos h2]
        split
        · have h := eqNds_rg ks M B ls hO hs.2.2.2 ht.2.2.2 hps.2.2 hpt.2.2 (by omega)
          exact ⟨h.1, by omega⟩
        · exact ⟨fun x hx => (by cases hx), Nat.zero_le _⟩
      · rw [if_neg h2]
        by_cases h3 : o = 3
        · rw [if_pos h3]
          split
          · rename_i e'
            have hl1 := (ht.1 e').2
            split
            · have h := eqNds_rg ks M B ls hO hs.2.2.2 ht.2.2.2 hps.2.2 hpt.2.2 (by omega)
              exact ⟨h.1, by omega⟩
            · have h0 : (0 : Nat) < ls.length := by omega
              have hr := rg_at ht.2.2.2 h0
              have hz := szT_at h0
              have hd := ndT_rg (hs.1 h3).1 (tmAt ls 0) hr
              have hdl := ndT_len n (tmAt ls 0)
              have h := eqNds_rg ks (M + 2) B [actT (swapL n' n) (tmAt ls 0)] hO hs.2.2.2 ⟨rg_act (isP_sw n' n) hr, trivial⟩ hps.2.2
                ⟨okP_le (by have := sw_len n' n; omega) (okP_act (swapL n' n) (okP_at hpt.2.2 h0)), trivial⟩ (by simp only [szTs, szT_actT]; omega)
              refine ⟨fun x hx => (List.mem_append.1 hx).elim (hd x) (h.1 x), ?_⟩
              rw [List.length_append]
              omega
          · exact ⟨fun x hx => (by cases hx), Nat.zero_le _⟩
        · rw [if_neg h3]
          have h4 : o = 4 := by omega
          split
          · refine ⟨hoNd_rg (hs.2.1 h4) hs.2.2.1 ht.2.2.1, ?_⟩
            have hl : (hoNd n p n' p').length ≤ p.length + p'.length := by
              unfold hoNd
              split
              · rw [List.length_map]
                exact Nat.le_trans (List.length_filter_le _ _) (len_atomsL p p')
              · simp
            have g1 := hps.2.1
            have g2 := hpt.2.1
            omega
          · exact ⟨fun x hx => (by cases hx), Nat.zero_le _⟩
theorem eqNds_rg : ∀ (ss : List Tm) (M B : Nat) (ts : List Tm), OpsTs ss → RgTs ss → RgTs ts → OkPs 40 ss → OkPs M ts → 40 + M + 2 * szTs ss + szTs ts ≤ B →
    (∀ x ∈ eqNds ndT hoNd ss ts, atomB x.1 = true ∧ holeB x.2 = true) ∧ (eqNds ndT hoNd ss ts).length ≤ szTs ss * B
  | [], M, B, ts, _, _, _, _, _, _ => by rw [eqNds]; exact ⟨fun x hx => (by cases hx), Nat.zero_le _⟩
  | s :: r, M, B, [], _, _, _, _, _, _ => by rw [eqNds]; exact ⟨fun x hx => (by cases hx), Nat.zero_le _⟩
  | s :: r, M, B, t :: q, hO, hs, ht, hps, hpt, hB => by
    rw [szTs, szTs] at hB
    have h1 := eqNd_rg s M B t hO.1 hO.2.1 hs.1 ht.1 hps.1 hpt.1 (by unfold szB; omega)
    have h2 := eqNds_rg r M B q hO.2.2 hs.2 ht.2 hps.2 hpt.2 (by omega)
    rw [eqNds, szTs, Nat.add_mul]
    refine ⟨fun x hx => (List.mem_append.1 hx).elim (h1.1 x) (h2.1 x), ?_⟩
    rw [List.length_append]
    omega
end

end Go.Proofs.YtlhjgjfnmejiaaaGreat
end

section
namespace Go.Proofs.YtlhjgjfnmejiaaaGreat
open Go.RowKit Go.Sort
set_option linter.unusedVariables false

theorem swapL_comm (a b : Int) : swapL a b = swapL b a := by
  by_cases h : a = b ∨ a < 0 ∨ 999 < a ∨ b < 0 ∨ 999 < b
  · rw [swapL_none h, swapL_none (by omega)]
  · by_cases h2 : a < b
    · rw [swapL_up (by omega) (by omega) h2, swapL_down (by omega) (by omega) h2]
    · rw [swapL_down (by omega) (by omega) (by omega), swapL_up (by omega) (by omega) (by omega)]

mutual
/-- The elements that the model gathers, whether or not the judgment fails, before they are put in order. -/
def rL : Tm → Tm → List (Int × Int)
  | .mk o n p ks, t =>
    if o ≠ t.op ∨ ks.length ≠ t.kids.length then []
    else if o = 3 ∧ n ≠ t.num then (if okT n (tmAt t.kids 0) then ndT n (tmAt t.kids 0) else []) ++ rLs ks [actT (swapL n t.num) (tmAt t.kids 0)]
    else if o = 4 then (differL p t.perm).map fun a => (a, n)
    else rLs ks t.kids
def rLs : List Tm → List Tm → List (Int × Int)
  | [], _ => []
  | _ :: _, [] => []
  | s :: r, t :: q => rL s t ++ rLs r q
end
mutual
/-- The model's judgment. -/
def bL : Tm → Tm → Bool
  | .mk o n p ks, t =>
    if o ≠ t.op ∨ ks.length ≠ t.kids.length then false
    else if o = 3 ∧ n ≠ t.num then okT n (tmAt t.kids 0) && bLs ks [actT (swapL n t.num) (tmAt t.kids 0)]
    else if o = 4 then n == t.num
    else (n == t.num) && bLs ks t.kids
def bLs : List Tm → List Tm → Bool
  | [], _ => true
  | _ :: _, [] => true
  | s :: r, t :: q => bL s t && bLs r q
end

mutual
/-- The kids are as many as the kind asks. -/
def ShT : Tm → Prop
  | .mk o _ _ ks => (o = 1 ∨ o = 2 ∨ o = 3 ∨ o = 4) ∧ (o = 1 ∨ o = 4 → ks = []) ∧ (o = 3 → ks.length = 1) ∧ ShTs ks
def ShTs : List Tm → Prop
  | [] => True
  | t :: r => ShT t ∧ ShTs r
end
mutual
theorem sh_good : ∀ {t : Tm}, goodT t = true → ShT t
  | .mk o n p ks, h => by
    have ho := op_good h
    rw [op_mk] at ho
    rw [goodT_eq, Bool.and_eq_true] at h
    have h1 := h.1
    unfold shapeB at h1
    rw [op_mk, num_mk, perm_mk, kids_mk] at h1
    refine ⟨ho, fun e => ?_, fun e => ?_, shs_good h.2⟩
    · rcases e with e | e
      · subst e; simp at h1; exact h1.2.2
      · subst e; simp at h1; exact h1.2.2
    · subst e; simp at h1; exact h1.2.2
theorem shs_good : ∀ {ts : List Tm}, goodTs ts = true → ShTs ts
  | [], _ => trivial
  | t :: r, h => by
    rw [goodTs, Bool.and_eq_true] at h
    exact ⟨sh_good h.1, shs_good h.2⟩
end
mutual
theorem sh_act (q : List (Int × Int)) : ∀ {t : Tm}, ShT t → ShT (actT q t)
  | .mk o n p ks, h => by
    rw [actT]
    refine ⟨h.1, fun e => ?_, fun e => ?_, shs_act q h.2.2.2⟩
    · rw [h.2.1 e]; rfl
    · rw [actTs_len]; exact h.2.2.1 e
theorem shs_act (q : List (Int × Int)) : ∀ {ts : List Tm}, ShTs ts → ShTs (actTs q ts)
  | [], _ => trivial
  | t :: r, h => ⟨sh_act q h.1, shs_act q h.2⟩
end
theorem sh_at : ∀ {ts : List Tm} {i : Nat}, ShTs ts → i < ts.length → ShT (tmAt ts i)
  | [], i, _, h => by simp at h
  | t :: r, 0, h, _ => h.1
  | t :: r, i + 1, h, hi => by rw [tmAt_cons_succ]; exact sh_at h.2 (by simpa using hi)

mutual
/-- The model's judgment is the program's; where it holds, the lists are the same. -/
theorem bL_eq : ∀ (s t : Tm), ShT s → ShT t → bL s t = eqOk okT hoOk s t ∧ (eqOk okT hoOk s t = true → rL s t = eqNd ndT hoNd s t)
  | .mk o n p ks, .mk o' n' p' ls, hs, ht => by
    rw [bL, rL, eqOk, eqNd, op_mk, num_mk, perm_mk, kids_mk]
    by_cases h1 : o = 1
    · subst h1
      have e := hs.2.1 (.inl rfl)
      subst e
      by_cases h : o' = 1
      · subst h
        have e' := ht.2.1 (.inl rfl)
        subst e'
        simp [bLs, rLs]
      · simp [h, Ne.symm h]
    · by_cases h2 : o = 2
      · subst h2
        by_cases h : o' = 2
        · subst h
          by_cases hl : ks.length = ls.length
          · have hk := bLs_eq ks ls hs.2.2.2 ht.2.2.2 hl
            simp only [hl, ne_eq, not_true_eq_false, or_self, if_false, h1]
            simp only [show ¬ ((2 : Int) = 3) by decide, show ¬ ((2 : Int) = 4) by decide, false_and, if_false, if_true, decide_true, Bool.true_and, true_and]
            rw [hk.1]
            refine ⟨rfl, fun h => ?_⟩
            rw [Bool.and_eq_true] at h
            have hn : n = n' := by simpa using h.1
            rw [if_pos hn]
            exact hk.2 h.2
          · have hf := eqOks_len okT hoOk hl
            simp [hl, hf]
        · simp [h, Ne.symm h]
      · by_cases h3 : o = 3
        · subst h3
          by_cases h : o' = 3
          · subst h
            have g1 := hs.2.2.1 rfl
            have g2 := ht.2.2.1 rfl
            have hl : ks.length = ls.length := by omega
            by_cases hn : n = n'
            · subst hn
              have hk := bLs_eq ks ls hs.2.2.2 ht.2.2.2 hl
              simp only [hl, ne_eq, not_true_eq_false, or_self, if_false, h1, and_false]
              simp only [show ¬ ((3 : Int) = 2) by decide, show ¬ ((3 : Int) = 4) by decide, if_false, if_true, decide_true, Bool.true_and, beq_self_eq_true]
              exact ⟨hk.1, hk.2⟩
            · have h0 : 0 < ls.length := by omega
              have hk := bLs_eq ks [actT (swapL n n') (tmAt ls 0)] hs.2.2.2 ⟨sh_act _ (sh_at ht.2.2.2 h0), trivial⟩ (by simpa using g1)
              rw [swapL_comm n' n]
              simp only [hl, ne_eq, not_true_eq_false, or_self, if_false, h1, hn, not_false_eq_true, and_self, if_true]
              simp only [show ¬ ((3 : Int) = 2) by decide, if_false, decide_true, Bool.true_and]
              rw [hk.1]
              refine ⟨rfl, fun h => ?_⟩
              rw [Bool.and_eq_true] at h
              rw [if_pos h.1, hk.2 h.2]
          · simp [h, Ne.symm h]
        · have h4 : o = 4 := by have := hs.1; omega
          subst h4
          have e := hs.2.1 (.inr rfl)
          subst e
          by_cases h : o' = 4
          · subst h
            have e' := ht.2.1 (.inr rfl)
            subst e'
            simp [hoOk, hoNd]
            intro hn
            simp [hn]
          · simp [h, Ne.symm h]
theorem bLs_eq : ∀ (ks ls : List Tm), ShTs ks → ShTs ls → ks.length = ls.length → bLs ks ls = eqOks okT hoOk ks ls ∧ (eqOks okT hoOk ks ls = true → rLs ks ls = eqNds ndT hoNd ks ls)
  | [], [], _, _, _ => by simp [bLs, eqOks, rLs, eqNds]
  | [], _ :: _, _, _, h => by simp at h
  | _ :: _, [], _, _, h => by simp at h
  | s :: r, t :: q, hs, ht, hl => by
    have h1 := bL_eq s t hs.1 ht.1
    have h2 := bLs_eq r q hs.2 ht.2 (by simpa using hl)
    rw [bLs, eqOks, rLs, eqNds, h1.1, h2.1]
    refine ⟨rfl, fun h => ?_⟩
    rw [Bool.and_eq_true] at h
    rw [h1.2 h.1, h2.2 h.2]
end

mutual
/-- The model's list is not too long. -/
theorem rL_len : ∀ (s : Tm) (M B : Nat) (t : Tm), ShT s → ShT t → OkP 40 s → OkP M t → szB M s t ≤ B → (rL s t).length ≤ szT s * B
  | .mk o n p ks, M, B, .mk o' n' p' ls, hs, ht, hps, hpt, hB => by
    unfold szB at hB
    rw [szT, szT] at hB
    rw [rL, szT, op_mk, num_mk, perm_mk, kids_mk, Nat.add_mul, Nat.one_mul]
    by_cases h0 : o ≠ o' ∨ ks.length ≠ ls.length
    · rw [if_pos h0]; exact Nat.zero_le _
    · rw [if_neg h0]
      have ho : o = o' := by omega
      have hl : ks.length = ls.length := by omega
      by_cases h3 : o = 3 ∧ n ≠ n'
      · rw [if_pos h3]
        have g0 : (0 : Nat) < ls.length := by have := hs.2.2.1 h3.1; omega
        have hz := szT_at g0
        have hdl := ndT_len n (tmAt ls 0)
        have hq : (if okT n (tmAt ls 0) = true then ndT n (tmAt ls 0) else []).length ≤ szT (tmAt ls 0) := by
          split
          · exact hdl
          · exact Nat.zero_le _
        have h := rLs_len ks (M + 2) B [actT (swapL n n') (tmAt ls 0)] hs.2.2.2 ⟨sh_act _ (sh_at ht.2.2.2 g0), trivial⟩ hps.2.2
          ⟨okP_le (by have := sw_len n n'; omega) (okP_act (swapL n n') (okP_at hpt.2.2 g0)), trivial⟩ (by simp only [szTs, szT_actT]; omega)
        rw [List.length_append]
        omega
      · rw [if_neg h3]
        by_cases h4 : o = 4
        · rw [if_pos h4, List.length_map]
          have g := Nat.le_trans (List.length_filter_le (difB p p') _) (len_atomsL p p')
          have g' : (differL p p').length ≤ p.length + p'.length := g
          have g1 := hps.2.1
          have g2 := hpt.2.1
          omega
        · rw [if_neg h4]
          have h := rLs_len ks M B ls hs.2.2.2 ht.2.2.2 hps.2.2 hpt.2.2 (by omega)
          omega
theorem rLs_len : ∀ (ss : List Tm) (M B : Nat) (ts : List Tm), ShTs ss → ShTs ts → OkPs 40 ss → OkPs M ts → 40 + M + 2 * szTs ss + szTs ts ≤ B → (rLs ss ts).length ≤ szTs ss * B
  | [], M, B, ts, _, _, _, _, _ => by rw [rLs]; exact Nat.zero_le _
  | s :: r, M, B, [], _, _, _, _, _ => by rw [rLs]; exact Nat.zero_le _
  | s :: r, M, B, t :: q, hs, ht, hps, hpt, hB => by
    rw [szTs, szTs] at hB
    have h1 := rL_len s M B t hs.1 ht.1 hps.1 hpt.1 (by unfold szB; omega)
    have h2 := rLs_len r M B q hs.2 ht.2 hps.2 hpt.2 (by omega)
    rw [rLs, szTs, Nat.add_mul, List.length_append]
    omega
end

theorem sh_kids {t : Tm} (h : ShT t) : ShTs t.kids := by
  cases t with
  | mk o n p ks => exact h.2.2.2
theorem okP_kids {M : Nat} {t : Tm} (h : OkP M t) : OkPs M t.kids := by
  cases t with
  | mk o n p ks => exact h.2.2

end Go.Proofs.YtlhjgjfnmejiaaaGreat
end

