/-
  The comparison of two forms without holes, in the program, as contracts. Canonical terms: plain words. Paths, and terms that come of terms: plain words, no program is walked here. A term put in the place of an atom: plain words, no program is walked here. A form put in the place of an atom, in the program, as contracts. A form put in the place of an atom, in the program, as contracts: the walk over the form. The canonical form of a form, in the program, as a contract.
-/
import Derived.Test.YtenejdfnhkbafaaGreatKHoldsFor17
import Derived.Test.YtenejdfnhkbafaaGreatKHoldsFor24
import Derived.Test.YtenejdfnhkbafaaGreatKHoldsFor25
import Derived.Test.YtenejdfnhkbafaaGreatKHoldsFor14
import Derived.Test.YtenejdfnhkbafaaGreatKHoldsFor7
import Derived.Test.YtenejdfnhkbafaaGreatKHoldsFor9
import Derived.Test.YtenejdfnhkbafaaGreatKHoldsFor18
section
namespace Go.Proofs.YtenejdfnhkbafaaGreat
open Go.RowKit Go.Sort Go.ChangeShapes Go.WideShapes
set_option linter.unusedVariables false
attribute [local go_sem] ask_atom_atom ask_atom_node ask_atom_bind ask_atom_hole ask_node_atom ask_node_node ask_node_bind ask_node_hole ask_bind_atom ask_bind_node ask_bind_bind ask_bind_hole ask_hole_atom ask_hole_node ask_hole_bind ask_hole_hole

def frG (n : Int) (t : Tm) : Bool := !hasB (freeT t) n
def hoG (_ : Int) (_ : List (Int × Int)) (_ : Int) (_ : List (Int × Int)) : Bool := false

theorem gfield_bind (n : Int) (T : TypeId) (x : Value) (w : World) : (Instr.field 161 (.agg #[.int .i64 n, .iface T x]) 1).run Tryz.prog w = .ok (.iface T x) w := by kernel_rfl
attribute [local go_sem] gfield_bind

theorem gty_1 (m : Int) : fty (.mk 1 m [] []) = 155 := rfl
theorem gty_2 (m : Int) (ks : List Tm) : fty (.mk 2 m [] ks) = 158 := rfl
theorem gty_3 (m : Int) (k : Tm) : fty (.mk 3 m [] [k]) = 161 := rfl
theorem gty_4 (m : Int) (p : List (Int × Int)) : fty (.mk 4 m p []) = 124 := rfl
theorem gOk_1 (n : Int) (t : Tm) : eqOk frG hoG (.mk 1 n [] []) t = (decide (t.op = 1) && (n == t.num)) := by simp [eqOk]
theorem gOk_2 (n : Int) (ks : List Tm) (t : Tm) : eqOk frG hoG (.mk 2 n [] ks) t = (decide (t.op = 2) && ((n == t.num) && eqOks frG hoG ks t.kids)) := by simp [eqOk]
theorem gOk_3 (n : Int) (k : Tm) (t : Tm) : eqOk frG hoG (.mk 3 n [] [k]) t = (decide (t.op = 3) && (if n = t.num then eqOks frG hoG [k] t.kids else frG n (tmAt t.kids 0) && eqOks frG hoG [k] [actT (swapL t.num n) (tmAt t.kids 0)])) := by simp [eqOk]
theorem gOks_one (k l : Tm) : eqOks frG hoG [k] [l] = eqOk frG hoG k l := by simp [eqOks]

mutual
theorem holesB_act (p : List (Int × Int)) : ∀ t : Tm, holesB (actT p t) = holesB t
  | .mk o n q ks => by rw [actT, holesB, holesB, holesBs_act p ks]
theorem holesBs_act (p : List (Int × Int)) : ∀ ts : List Tm, holesBs (actTs p ts) = holesBs ts
  | [] => by simp [actTs]
  | t :: r => by rw [actTs, holesBs, holesBs, holesB_act p t, holesBs_act p r]
end
theorem ground_no {t : Tm} (h : groundB t = true) : holesB t = false := by
  unfold groundB at h
  simp only [Bool.and_eq_true] at h
  simpa using h.2
theorem noHole_kid {t : Tm} {i : Nat} (h : holesB t = false) (hi : i < t.kids.length) : holesB (tmAt t.kids i) = false := by
  cases hk : holesB (tmAt t.kids i) with
  | false => rfl
  | true =>
    rw [holesB_eq, holesBs_yes hi hk] at h
    simp at h

theorem bel3 (w : World) (o1 o2 o3 : Obj) : Below w.heap.size w (((w.alloc o1).alloc o2).alloc o3) :=
  (((Below.refl _ w).alloc (Nat.le_refl _) _).alloc (by simp) _).alloc (by simp; omega) _

def gbOk (n : Int) (k : Tm) (m : Int) (l : Tm) : Bool := if n = m then eqOk frG hoG k l else frG n l && eqOk frG hoG k (actT (swapL m n) l)

end Go.Proofs.YtenejdfnhkbafaaGreat
end

section
namespace Go.Proofs.YtenejdfnhkbafaaGreat
open Go.RowKit Go.Sort
set_option linter.unusedVariables false

/-- The canonical term, of a term with N nodes at most. -/
def canN : Nat → Tm → Tm
  | 0, t => t
  | N + 1, .mk o n p ks => if o = 3 then .mk 3 (leastF (freeT (.mk o n p ks))) p (ks.map fun k => canN N (actT (swapL n (leastF (freeT (.mk o n p ks)))) k)) else .mk o n p (ks.map (canN N))
theorem canN_3 (N : Nat) (n : Int) (k : Tm) : canN (N + 1) (.mk 3 n [] [k]) = .mk 3 (leastF (freeT (.mk 3 n [] [k]))) [] [canN N (actT (swapL n (leastF (freeT (.mk 3 n [] [k])))) k)] := by simp [canN]
theorem canN_2 (N : Nat) (n : Int) (ks : List Tm) : canN (N + 1) (.mk 2 n [] ks) = .mk 2 n [] (ks.map (canN N)) := by simp [canN]
theorem canN_1 (N : Nat) (n : Int) : canN (N + 1) (.mk 1 n [] []) = .mk 1 n [] [] := by simp [canN]

theorem tmAt_map (f : Tm → Tm) : ∀ {ks : List Tm} {i : Nat}, i < ks.length → tmAt (ks.map f) i = f (tmAt ks i)
  | [], i, h => by simp at h
  | t :: r, 0, _ => by rw [List.map_cons, tmAt_cons_zero, tmAt_cons_zero]
  | t :: r, i + 1, h => by rw [List.map_cons, tmAt_cons_succ, tmAt_cons_succ, tmAt_map f (ks := r) (by simpa using h)]
theorem szTs_map {f : Tm → Tm} : ∀ {ks : List Tm}, (∀ k, szT (f k) = szT k) → szTs (ks.map f) = szTs ks
  | [], _ => rfl
  | t :: r, h => by rw [List.map_cons, szTs, szTs, h t, szTs_map h]
theorem szT_canN : ∀ (N : Nat) (t : Tm), szT (canN N t) = szT t
  | 0, t => rfl
  | N + 1, .mk o n p ks => by
    unfold canN
    split
    · rw [szT, szT, szTs_map (fun k => by rw [szT_canN N, szT_actT])]
    · rw [szT, szT, szTs_map (fun k => szT_canN N k)]
theorem okPs_map {M L : Nat} {f : Tm → Tm} : ∀ {ks : List Tm}, (∀ k, OkP M k → OkP L (f k)) → OkPs M ks → OkPs L (ks.map f)
  | [], _, _ => trivial
  | t :: r, h, hk => ⟨h t hk.1, okPs_map h hk.2⟩
theorem okP_canN : ∀ (N M : Nat) (t : Tm), OkP M t → OkP (M + 2 * N) (canN N t)
  | 0, M, t, h => h
  | N + 1, M, .mk o n p ks, h => by
    unfold canN
    split
    · exact ⟨h.1, by have := h.2.1; omega, okPs_map (M := M) (fun k hk => okP_le (by have := sw_len n (leastF (freeT (.mk o n p ks))); omega) (okP_canN N (M + (swapL n (leastF (freeT (.mk o n p ks)))).length) _ (okP_act _ hk))) h.2.2⟩
    · exact ⟨h.1, by have := h.2.1; omega, okPs_map (M := M) (fun k hk => okP_le (by omega) (okP_canN N M k hk)) h.2.2⟩
end Go.Proofs.YtenejdfnhkbafaaGreat
end

section
namespace Go.Proofs.YtenejdfnhkbafaaGreat
open Go.RowKit Go.Sort
set_option linter.unusedVariables false

/-- The term to which a path leads. -/
def walkP : Tm → List Int → Option Tm
  | t, [] => some t
  | t, i :: r => if 0 ≤ i ∧ i < (t.kids.length : Int) then walkP (tmAt t.kids i.toNat) r else none

theorem walkP_nil (t : Tm) : walkP t [] = some t := by simp [walkP]
theorem walkP_yes {t : Tm} {l : List Int} {k : Nat} (hk : k < l.length) (h : 0 ≤ itAt l k ∧ itAt l k < (t.kids.length : Int)) : walkP t (l.drop k) = walkP (tmAt t.kids (itAt l k).toNat) (l.drop (k + 1)) := by
  rw [List.drop_eq_getElem_cons hk, itAt_get l k hk] at *
  rw [walkP, if_pos h]
theorem walkP_no {t : Tm} {l : List Int} {k : Nat} (hk : k < l.length) (h : ¬ (0 ≤ itAt l k ∧ itAt l k < (t.kids.length : Int))) : walkP t (l.drop k) = none := by
  rw [List.drop_eq_getElem_cons hk, itAt_get l k hk] at *
  rw [walkP, if_neg h]

/-- Whether a path leads to a term within a term. -/
def atB (t : Tm) (l : List Int) : Bool := isTermB t && (walkP t l).isSome
def atR (t : Tm) (l : List Int) : Tm := (walkP t l).getD tm0
theorem atB_no {t : Tm} {l : List Int} (h : isTermB t = false) : atB t l = false := by simp [atB, h]
theorem atB_none {t : Tm} {l : List Int} (h : walkP t l = none) : atB t l = false := by simp [atB, h]
theorem atB_some {t u : Tm} {l : List Int} (h1 : isTermB t = true) (h : walkP t l = some u) : atB t l = true ∧ atR t l = u := by simp [atB, atR, h, h1]
theorem walk_term : ∀ {l : List Int} {t u : Tm}, isTermB t = true → walkP t l = some u → isTermB u = true
  | [], t, u, ht, h => by
    rw [walkP_nil] at h
    injection h with h
    exact h ▸ ht
  | i :: r, t, u, ht, h => by
    rw [walkP] at h
    split at h
    · rename_i hi
      exact walk_term (kid_term ht (by omega)) h
    · cases h
theorem at_term {t : Tm} {l : List Int} (h : atB t l = true) : isTermB (atR t l) = true := by
  unfold atB at h
  simp only [Bool.and_eq_true] at h
  obtain ⟨h1, h2⟩ := h
  cases hw : walkP t l with
  | none => rw [hw] at h2; cases h2
  | some u => unfold atR; rw [hw]; exact walk_term h1 hw

/-- Bounds of what is a term. -/
theorem cnt_term {t : Tm} (h : isTermB t = true) : cntT t ≤ 10000 := by
  have h1 := cnt_ok (okP_good (term_good h))
  have h2 : (40 + 1) * szT t ≤ 41 * 60 := Nat.mul_le_mul (by decide) (term_size h)
  omega
theorem fit_orB {r : Tm} {b : Bool} (h : b = true → isTermB r = true) : Fit (orT r b) := by
  cases b with
  | false => rw [orT_no]; exact fit_of _ (by decide)
  | true => exact fit_of _ (by have := cnt_term (h rfl); show cntT r ≤ 1048576; omega)
theorem mc_orB {r : Tm} {b : Bool} (h : b = true → isTermB r = true) : mcR (orT r b) ≤ 2097152 := by
  cases b with
  | false => rw [orT_no]; decide
  | true =>
    show mcR r ≤ 2097152
    have h1 := cnt_term (h rfl)
    have h2 := mcTs_le r.kids
    have h3 := cntT_eq r
    unfold mcR
    omega

/-- Acting with nothing changes no term. -/
theorem imgL_nil (n : Int) : imgL [] n = n := imgL_out (by simp [froms])
theorem thenL_nil {q : List (Int × Int)} (h : permB q = true) : thenL [] q = q := by
  have hp := isP_of h
  refine same_img (asc_thenL [] q) hp.asc (moves_thenL [] q) hp.mv fun a => ?_
  rw [img_thenL, imgL_nil]
mutual
theorem actT_nil : ∀ {t : Tm}, goodT t = true → actT [] t = t
  | .mk o n p ks, h => by
    rw [goodT_eq, Bool.and_eq_true] at h
    rw [actT, actTs_nil (ts := ks) h.2, imgL_nil, ite_self]
    by_cases h4 : o = 4
    · rw [if_pos h4]
      have h1 := h.1
      unfold shapeB at h1
      rw [op_mk, if_neg (by omega), if_neg (by omega), if_neg (by omega), if_pos h4] at h1
      simp only [Bool.and_eq_true] at h1
      rw [thenL_nil (q := p) h1.2.1]
    · rw [if_neg h4]
theorem actTs_nil : ∀ {ts : List Tm}, goodTs ts = true → actTs [] ts = ts
  | [], _ => rfl
  | t :: r, h => by
    rw [goodTs, Bool.and_eq_true] at h
    rw [actTs, actT_nil h.1, actTs_nil h.2]
end
end Go.Proofs.YtenejdfnhkbafaaGreat
end

section
namespace Go.Proofs.YtenejdfnhkbafaaGreat
open Go.RowKit Go.Sort
set_option linter.unusedVariables false

/-- The atom that a binder of n, around k, gets when u takes the place of a. -/
def capN (n : Int) (k : Tm) (a : Int) (u : Tm) : Int := if hasB (freeT u) n = true then leastF (freeT u ++ freeT k ++ [a]) else n
/-- What is below the binder then. -/
def capT (n : Int) (k : Tm) (a : Int) (u : Tm) : Tm := if hasB (freeT u) n = true then actT (swapL n (leastF (freeT u ++ freeT k ++ [a]))) k else k
/-- A term with u in the place of a, of a term with N nodes at most. -/
def repN : Nat → Tm → Int → Tm → Tm
  | 0, t, _, _ => t
  | N + 1, .mk o n p ks, a, u =>
    if o = 1 then (if n = a then u else .mk o n p ks)
    else if o = 2 then .mk o n p (ks.map fun k => repN N k a u)
    else if o = 3 then (if hasB (freeT (.mk o n p ks)) a = true then .mk o (capN n (tmAt ks 0) a u) p (ks.map fun k => repN N (capT n k a u) a u) else .mk o n p ks)
    else .mk o n p ks
theorem repN_1 (N : Nat) (n a : Int) (u : Tm) : repN (N + 1) (.mk 1 n [] []) a u = if n = a then u else .mk 1 n [] [] := by simp [repN]
theorem repN_2 (N : Nat) (n a : Int) (ks : List Tm) (u : Tm) : repN (N + 1) (.mk 2 n [] ks) a u = .mk 2 n [] (ks.map fun k => repN N k a u) := by simp [repN]
theorem repN_3 (N : Nat) (n a : Int) (k u : Tm) : repN (N + 1) (.mk 3 n [] [k]) a u = if hasB (freeT (.mk 3 n [] [k])) a = true then .mk 3 (capN n k a u) [] [repN N (capT n k a u) a u] else .mk 3 n [] [k] := by simp [repN, tmAt_cons_zero]
theorem repN_3y (N : Nat) (n a : Int) (k u : Tm) (h : hasB (freeT (.mk 3 n [] [k])) a = true) : repN (N + 1) (.mk 3 n [] [k]) a u = .mk 3 (capN n k a u) [] [repN N (capT n k a u) a u] := by rw [repN_3, if_pos h]
theorem repN_3n (N : Nat) (n a : Int) (k u : Tm) (h : hasB (freeT (.mk 3 n [] [k])) a = false) : repN (N + 1) (.mk 3 n [] [k]) a u = .mk 3 n [] [k] := by rw [repN_3, if_neg (by rw [h]; decide)]

theorem capN_yes {n a : Int} {k u : Tm} (h : hasB (freeT u) n = true) : capN n k a u = leastF (freeT u ++ freeT k ++ [a]) := if_pos h
theorem capN_no {n a : Int} {k u : Tm} (h : hasB (freeT u) n = false) : capN n k a u = n := if_neg (by rw [h]; decide)
theorem capT_yes {n a : Int} {k u : Tm} (h : hasB (freeT u) n = true) : capT n k a u = actT (swapL n (leastF (freeT u ++ freeT k ++ [a]))) k := if_pos h
theorem capT_no {n a : Int} {k u : Tm} (h : hasB (freeT u) n = false) : capT n k a u = k := if_neg (by rw [h]; decide)
theorem szT_capT (n : Int) (k : Tm) (a : Int) (u : Tm) : szT (capT n k a u) = szT k := by
  unfold capT
  split
  · rw [szT_actT]
  · rfl
theorem okP_capT {M : Nat} (n : Int) {k : Tm} (a : Int) (u : Tm) (h : OkP M k) : OkP (M + 2) (capT n k a u) := by
  unfold capT
  split
  · exact okP_le (by have := sw_len n (leastF (freeT u ++ freeT k ++ [a])); omega) (okP_act _ h)
  · exact okP_le (by omega) h
theorem holesB_capT (n : Int) (k : Tm) (a : Int) (u : Tm) : holesB (capT n k a u) = holesB k := by
  unfold capT
  split
  · rw [holesB_act]
  · rfl

theorem szTs_map_le {f : Tm → Tm} {S : Nat} : ∀ {ks : List Tm}, (∀ i, i < ks.length → szT (f (tmAt ks i)) ≤ szT (tmAt ks i) * S) → szTs (ks.map f) ≤ szTs ks * S
  | [], _ => by simp [szTs]
  | t :: r, h => by
    rw [List.map_cons, szTs, szTs, Nat.add_mul]
    have h1 := h 0 (by simp)
    rw [tmAt_cons_zero] at h1
    have h2 := szTs_map_le (ks := r) (f := f) (S := S) fun i hi => by
      have := h (i + 1) (by simpa using hi)
      rwa [tmAt_cons_succ] at this
    omega
theorem szT_repN : ∀ (N : Nat) (t : Tm) (a : Int) (u : Tm), szT (repN N t a u) ≤ szT t * szT u
  | 0, t, a, u => by
    have h := szT_eq u
    rw [repN]
    exact Nat.le_mul_of_pos_right _ (by omega)
  | N + 1, .mk o n p ks, a, u => by
    have h := szT_eq u
    have hp : 0 < szT u := by omega
    have hs : szT (.mk o n p ks) ≤ szT (.mk o n p ks) * szT u := Nat.le_mul_of_pos_right _ hp
    unfold repN
    split
    · split
      · rw [szT, Nat.add_mul, Nat.one_mul]; omega
      · exact hs
    · split
      · rw [szT, szT, Nat.add_mul, Nat.one_mul]
        have h1 := szTs_map_le (ks := ks) (f := fun k => repN N k a u) (S := szT u) fun i hi => szT_repN N _ a u
        omega
      · split
        · split
          · rw [szT, szT, Nat.add_mul, Nat.one_mul]
            have h1 := szTs_map_le (ks := ks) (f := fun k => repN N (capT n k a u) a u) (S := szT u) fun i hi => by
              have h2 := szT_repN N (capT n (tmAt ks i) a u) a u
              rwa [szT_capT] at h2
            omega
          · exact hs
        · exact hs
theorem okPs_map' {L : Nat} {f : Tm → Tm} : ∀ {ks : List Tm}, (∀ i, i < ks.length → OkP L (f (tmAt ks i))) → OkPs L (ks.map f)
  | [], _ => trivial
  | t :: r, h => by
    have h1 := h 0 (by simp)
    rw [tmAt_cons_zero] at h1
    exact ⟨h1, okPs_map' (ks := r) fun i hi => by have := h (i + 1) (by simpa using hi); rwa [tmAt_cons_succ] at this⟩
theorem okP_repN : ∀ (N M : Nat) (t : Tm) (a : Int) (u : Tm), 40 ≤ M → OkP M t → OkP 40 u → OkP (M + 2 * N) (repN N t a u)
  | 0, M, t, a, u, _, h, _ => h
  | N + 1, M, .mk o n p ks, a, u, hM, h, hu => by
    have hs : OkP (M + 2 * (N + 1)) (.mk o n p ks) := okP_le (by omega) h
    unfold repN
    split
    · split
      · exact okP_le (by omega) hu
      · exact hs
    · split
      · exact ⟨h.1, by have := h.2.1; omega, okPs_map' fun i hi => okP_le (by omega) (okP_repN N M _ a u hM (okP_at h.2.2 hi) hu)⟩
      · split
        · split
          · exact ⟨h.1, by have := h.2.1; omega, okPs_map' fun i hi => okP_le (by omega) (okP_repN N (M + 2) _ a u (by omega) (okP_capT n a u (okP_at h.2.2 hi)) hu)⟩
          · exact hs
        · exact hs

theorem leastF_congr {l m : List Int} (h : ∀ b : Int, hasB l b = hasB m b) : leastF l = leastF m := by
  have e : (fun a : Nat => !hasB l (a : Int)) = (fun a : Nat => !hasB m (a : Int)) := funext fun a => by rw [h]
  unfold leastF
  rw [e]
theorem hasB_iff {l : List Int} {a : Int} : hasB l a = true ↔ a ∈ l := by unfold hasB; exact List.contains_iff_mem
theorem hasB_ext {l m : List Int} (h : ∀ b : Int, b ∈ l ↔ b ∈ m) (b : Int) : hasB l b = hasB m b := by
  rw [Bool.eq_iff_iff, hasB_iff, hasB_iff, h]
theorem leastF_turn (a : Int) (x y : List Int) : leastF ([a] ++ x ++ y) = leastF (y ++ x ++ [a]) :=
  leastF_congr (hasB_ext fun b => by simp only [List.mem_append, List.mem_singleton]; constructor <;> intro h <;> (rcases h with (h | h) | h) <;> simp [h])

theorem freeTs_mem : ∀ {ts : List Tm} {i : Nat} {b : Int}, i < ts.length → b ∈ freeT (tmAt ts i) → b ∈ freeTs ts
  | [], i, b, h, _ => by simp at h
  | t :: r, 0, b, _, hb => by rw [freeTs, List.mem_append]; exact .inl (by rwa [tmAt_cons_zero] at hb)
  | t :: r, i + 1, b, h, hb => by rw [freeTs, List.mem_append]; rw [tmAt_cons_succ] at hb; exact .inr (freeTs_mem (by simpa using h) hb)
theorem map_same {f : Tm → Tm} : ∀ {ks : List Tm}, (∀ i, i < ks.length → f (tmAt ks i) = tmAt ks i) → ks.map f = ks
  | [], _ => rfl
  | t :: r, h => by
    have h1 := h 0 (by simp)
    rw [tmAt_cons_zero] at h1
    rw [List.map_cons, h1, map_same (ks := r) fun i hi => by have := h (i + 1) (by simpa using hi); rwa [tmAt_cons_succ] at this]
theorem mem_free_node {n : Int} {ks : List Tm} {b : Int} : b ∈ freeT (.mk 2 n [] ks) ↔ b ∈ freeTs ks := by
  rw [freeT_2, mem_insAll]
  simp
/-- Where the atom is not free, nothing changes. -/
theorem repN_id : ∀ (N : Nat) (t : Tm) (a : Int) (u : Tm), goodT t = true → hasB (freeT t) a = false → repN N t a u = t
  | 0, t, a, u, _, _ => rfl
  | N + 1, t, a, u, hg, hf => by
    by_cases h1 : t.op = 1
    · rw [good1 hg h1] at hf ⊢
      rw [repN_1, if_neg]
      intro e
      rw [freeT_1, e] at hf
      simp [hasB] at hf
    · by_cases h2 : t.op = 2
      · have h := (good2 hg h2).1
        rw [goodT_eq, Bool.and_eq_true] at hg
        rw [h] at hf
        rw [h, repN_2]
        have hn : ¬ (a ∈ freeT (.mk 2 t.num [] t.kids)) := fun hm => by rw [hasB_iff.2 hm] at hf; cases hf
        rw [mem_free_node] at hn
        rw [map_same fun i hi => repN_id N (tmAt t.kids i) a u (goodTs_at hg.2 hi) (by
          cases hb : hasB (freeT (tmAt t.kids i)) a with
          | false => rfl
          | true => exact absurd (freeTs_mem hi (hasB_iff.1 hb)) hn)]
      · by_cases h3 : t.op = 3
        · rw [(good3 hg h3).1] at hf ⊢
          rw [repN_3n _ _ _ _ _ hf]
        · cases t with
          | mk o n p ks =>
            rw [op_mk] at h1 h2 h3
            unfold repN
            rw [if_neg h1, if_neg h2, if_neg h3]

/-- Whether it can be put there. -/
def repB (t : Tm) (a : Int) (u : Tm) : Bool := groundB t && (atomB a && (groundB u && isTermB (repN 60 t a u)))
theorem repB_term {t u : Tm} {a : Int} (h : repB t a u = true) : isTermB (repN 60 t a u) = true := by
  unfold repB at h
  simp only [Bool.and_eq_true] at h
  exact h.2.2.2
end Go.Proofs.YtenejdfnhkbafaaGreat
end

section
namespace Go.Proofs.YtenejdfnhkbafaaGreat
open Go.RowKit Go.Sort Go.ChangeShapes Go.WideShapes
set_option linter.unusedVariables false
attribute [local go_sem] ask_atom_atom ask_atom_node ask_atom_bind ask_atom_hole ask_node_atom ask_node_node ask_node_bind ask_node_hole ask_bind_atom ask_bind_node ask_bind_bind ask_bind_hole ask_hole_atom ask_hole_node ask_hole_bind ask_hole_hole

theorem int_infoR : (Tryz.prog.info? 3).map (fun i => (i.zero, i.size, i.bytes)) = some (some (.int .i64 0), 1, 8) := by kernel_rfl

set_option maxRecDepth 100000 in
set_option maxHeartbeats 4000000 in
/-- The binder whose atom is not free in what is put below it. -/
theorem cap_no (n a : Int) (v : Value) (k u : Tm) (fx : Value) (q p : Nat → Prop) (w : World) (hv : FIn w q v k) (hu : FIn w p (.iface (fty u) fx) u) (hszu : szT u ≤ 1048576) (hin : hasB (freeT u) n = false) :
    Calls Tryz.prog 115 #[.agg #[.int .i64 n, v], .int .i64 a, .iface (fty u) fx] w fun e w' => ∃ y, e = .returned (.agg #[.int .i64 (capN n k a u), y]) ∧ FIn w' (SinceQ q w.heap.size) y (capT n k a u) ∧ Below w.heap.size w w' := by
  rw [capN_no hin, capT_no hin]
  obtain ⟨vx, rfl⟩ := hv.iface
  have hm := askFree u
  have hn := enterFree u
  have hb0 : Below w.heap.size w ((w.alloc (.cells #[.int .i64 n, .iface (fty k) vx] 161)).alloc (.cells #[.int .i64 0, .nilIface] 161)) := ((Below.refl _ w).alloc (Nat.le_refl _) _).alloc (by simp) _
  have h1 := (Below.heap_alloc (w.alloc (.cells #[.int .i64 n, .iface (fty k) vx] 161)) (.cells #[.int .i64 0, .nilIface] 161) w.heap.size (by simp)).trans (heap_alloc_new w (.cells #[.int .i64 n, .iface (fty k) vx] 161))
  have h2 := heap_alloc_new (w.alloc (.cells #[.int .i64 n, .iface (fty k) vx] 161)) (.cells #[.int .i64 0, .nilIface] 161)
  rw [World.size_alloc] at h2
  have hsz2 : ((w.alloc (.cells #[.int .i64 n, .iface (fty k) vx] 161)).alloc (.cells #[.int .i64 0, .nilIface] 161)).heap.size = w.heap.size + 2 := by simp
  have hfu := free_any (szT u) u (Nat.le_refl _) hszu p ((w.alloc (.cells #[.int .i64 n, .iface (fty k) vx] 161)).alloc (.cells #[.int .i64 0, .nilIface] 161)) fx (hu.keep hb0)
  have hlu := freeT_len u
  have HV := Lib.hid hv
  have HIN := Lib.hid hin
  clear hv hu hin
  generalize freeF u = F at hm hn hfu
  generalize fty u = TU at *
  generalize fty k = T at *
  generalize freeT u = L at hfu hlu HIN
  go_enter Tryz.func115, Tryz.ntmps115
  go_wp2_with fail
  refine hfu.mono ?_
  generalize ((w.alloc (.cells #[.int .i64 n, .iface T vx] 161)).alloc (.cells #[.int .i64 0, .nilIface] 161)) = W at hb0 h1 h2 hsz2 ⊢
  rintro e w2 ⟨g2, cap2, rfl, ho2, hb2⟩
  have hia : IntsAt w2 (some ⟨g2, 0, none⟩) L := by
    obtain ⟨A, c, e, h⟩ := own_intsAt ho2
    simp only [Value.slice.injEq] at e
    rw [e.1]
    exact h
  have hco := contains_any (some ⟨g2, 0, none⟩) cap2 L n w2 hia (by omega)
  rw [HIN.out] at hco
  have k1 := (hb2.block w.heap.size (by rw [hsz2]; omega)).trans h1
  have k2 := (hb2.block (w.heap.size + 1) (by rw [hsz2]; omega)).trans h2
  obtain ⟨m0, m1, _, _⟩ := row2 k1
  obtain ⟨r0, r1, z0, z1⟩ := row2 k2
  have hb02 := hb0.trans (hb2.mono hb0.size)
  have HK2 := Lib.hid k2
  clear hfu ho2 hia hb0 hb2 hsz2 h1 h2 k1 k2 hm hn
  go_wp2_with fail
  refine hco.mono ?_
  rintro e w3 ⟨rfl, rfl⟩
  have k5 := set2_block (a := .int .i64 n) (b := .iface T vx) HK2.out
  obtain ⟨s0, s1, _, _⟩ := row2 k5
  have hfin : ∃ y, Ending.returned (.agg #[.int .i64 n, .iface T vx]) = .returned (.agg #[.int .i64 n, y]) ∧ FIn ((w2.setCell ⟨w.heap.size + 1, 0, none⟩ (.int .i64 n)).setCell ⟨w.heap.size + 1, 1, none⟩ (.iface T vx)) (SinceQ q w.heap.size) y k ∧ Below w.heap.size w ((w2.setCell ⟨w.heap.size + 1, 0, none⟩ (.int .i64 n)).setCell ⟨w.heap.size + 1, 1, none⟩ (.iface T vx)) := by
    have hbz := (hb02.setCell (p := ⟨w.heap.size + 1, 0, none⟩) (show w.heap.size ≤ w.heap.size + 1 by omega) (.int .i64 n)).setCell (p := ⟨w.heap.size + 1, 1, none⟩) (show w.heap.size ≤ w.heap.size + 1 by omega) (.iface T vx)
    exact ⟨_, rfl, (HV.out.keep hbz).kind fun b _ h => .inl h, hbz⟩
  clear hco HK2 hb02 k5 HV HIN
  go_wp2
  (try simp only [Exit.inBlock, Exit.then])
  exact bodyPost_ret (v := .agg #[.int .i64 n, .iface T vx]) (by simp [results, Tryz.results115, go_sem, s0, s1]) rfl hfin

theorem ints_row {w : World} {base g n cap : Nat} {e : TypeId} {l : List Int} (hn : n = l.length) (h : w.ownsRow base e 1 (.slice (some ⟨g, 0, none⟩) n cap) n (icells l)) : IntsAt w (some ⟨g, 0, none⟩) l := by
  subst hn
  obtain ⟨A, c, e, hh⟩ := own_intsAt h
  simp only [Value.slice.injEq] at e
  rw [e.1]
  exact hh

set_option maxRecDepth 100000 in
set_option maxHeartbeats 8000000 in
/-- The binder whose atom is free in what is put below it. -/
theorem cap_yes (n a : Int) (v : Value) (k u : Tm) (fx : Value) (q p : Nat → Prop) (w : World) (hv : FIn w q v k) (hu : FIn w p (.iface (fty u) fx) u) (hszu : szT u ≤ 100000) (hszk : szT k ≤ 100000) (hP : OkP 1048576 k) (hin : hasB (freeT u) n = true) :
    Calls Tryz.prog 115 #[.agg #[.int .i64 n, v], .int .i64 a, .iface (fty u) fx] w fun e w' => ∃ y, e = .returned (.agg #[.int .i64 (capN n k a u), y]) ∧ FIn w' (SinceQ q w.heap.size) y (capT n k a u) ∧ Below w.heap.size w w' := by
  rw [capN_yes hin, capT_yes hin]
  obtain ⟨i0, hi0, hz0, hz1, hz2⟩ := info_parts int_infoR
  have HS := Lib.hid hz2
  clear hz2
  obtain ⟨vx, rfl⟩ := hv.iface
  have hm := askFree u
  have hn := enterFree u
  have hmk := askFree k
  have hnk := enterFree k
  have hb0 : Below w.heap.size w ((w.alloc (.cells #[.int .i64 n, .iface (fty k) vx] 161)).alloc (.cells #[.int .i64 0, .nilIface] 161)) := ((Below.refl _ w).alloc (Nat.le_refl _) _).alloc (by simp) _
  have h1 := (Below.heap_alloc (w.alloc (.cells #[.int .i64 n, .iface (fty k) vx] 161)) (.cells #[.int .i64 0, .nilIface] 161) w.heap.size (by simp)).trans (heap_alloc_new w (.cells #[.int .i64 n, .iface (fty k) vx] 161))
  have h2 := heap_alloc_new (w.alloc (.cells #[.int .i64 n, .iface (fty k) vx] 161)) (.cells #[.int .i64 0, .nilIface] 161)
  rw [World.size_alloc] at h2
  have hsz2 : ((w.alloc (.cells #[.int .i64 n, .iface (fty k) vx] 161)).alloc (.cells #[.int .i64 0, .nilIface] 161)).heap.size = w.heap.size + 2 := by simp
  have hfu := free_any (szT u) u (Nat.le_refl _) (by omega) p ((w.alloc (.cells #[.int .i64 n, .iface (fty k) vx] 161)).alloc (.cells #[.int .i64 0, .nilIface] 161)) fx (hu.keep hb0)
  have HFK := Lib.hid (fun (W : World) (hW : FIn W q (.iface (fty k) vx) k) => free_any (szT k) k (Nat.le_refl _) (by omega) q W vx hW)
  have HREN := Lib.hid (fun (c : Int) (W : World) (hW : FIn W q (.iface (fty k) vx) k) => renamed_any n c _ k q W hW (by omega) hP)
  have hlu := Nat.le_trans (freeT_len u) hszu
  have hlk := Nat.le_trans (freeT_len k) hszk
  have HV := Lib.hid hv
  have HIN := Lib.hid hin
  clear hv hu hin hP hszu hszk
  generalize freeF u = F at hm hn hfu
  generalize freeF k = FK at hmk hnk HFK
  generalize fty u = TU at *
  generalize fty k = T at *
  generalize freeT u = L at *
  generalize freeT k = K at *
  generalize hcc : leastF (L ++ K ++ [a]) = c at *
  have HCC := Lib.hid hcc
  clear hcc
  have HREN1 := Lib.hid (HREN.out c)
  generalize actT (swapL n c) k = r at *
  clear HREN
  go_enter Tryz.func115, Tryz.ntmps115
  go_wp2_with fail
  refine hfu.mono ?_
  generalize ((w.alloc (.cells #[.int .i64 n, .iface T vx] 161)).alloc (.cells #[.int .i64 0, .nilIface] 161)) = W at hb0 h1 h2 hsz2 ⊢
  rintro e w2 ⟨g2, cap2, rfl, ho2, hb2⟩
  have hco := contains_any (some ⟨g2, 0, none⟩) cap2 L n w2 (ints_row rfl ho2) (by omega)
  rw [HIN.out] at hco
  have H1 := Lib.hid h1
  have H2 := Lib.hid h2
  have HZ := Lib.hid hsz2
  have HB0 := Lib.hid hb0
  have HB2 := Lib.hid hb2
  have HO2 := Lib.hid ho2
  obtain ⟨m0, m1, _, _⟩ := row2 ((hb2.block w.heap.size (by rw [hsz2]; omega)).trans h1)
  have hfk := HFK.out w2 (HV.out.keep (hb0.trans (hb2.mono hb0.size)))
  clear hfu ho2 hb0 hb2 hsz2 h1 h2 hm hn HFK HIN
  go_wp2_with fail
  refine hco.mono ?_
  rintro e w3 ⟨rfl, rfl⟩
  clear hco
  go_wp2_with fail
  refine hfk.mono ?_
  rintro e w4 ⟨g4, cap4, rfl, ho4, hb4⟩
  have ho24 := own_below HO2.out hb4
  have HN := Lib.hid (ints_news (ints_row rfl ho4))
  have HL := Lib.hid (show (icells K).length = K.length * 1 by rw [icells_len, Nat.mul_one])
  have hb04 := HB2.out.trans (hb4.mono HB2.out.size)
  have hs4 := hb04.size
  clear hfk ho4 hb4 hmk hnk m0 m1
  go_wp2_with (at_builtin; refine wpList_append_own _ rfl (.tmp 16) (.tmp 19) 146 rfl W.heap.size 3 i0 (.int .i64 0) 1 8 Tryz.underlying146 hi0 hz0 hz1 HS.out rfl (by decide) _ L.length _ rfl ho24 ⟨g4, 0, none⟩ K.length cap4 (icells K) rfl HL.out HN.out (icells_one _) ?c3 ?c4 ?c5 ?_)
  case c3 => unfold maxLen; omega
  case c4 => omega
  case c5 => exact hs4
  intro v5 w5 ho5 hg5 hnil
  have hb5 := below_own hb04 ho24 (Nat.le_refl _) hs4 hg5
  have hform : ∃ g1 cap1, v5 = .slice (some ⟨g1, 0, none⟩) (L.length + K.length) cap1 := by
    rcases ho5.2 with ⟨e0, _⟩ | ⟨g1, cap1, cur, e0, _⟩
    · exact absurd e0 hnil
    · exact ⟨g1, cap1, e0⟩
  obtain ⟨g5, cap5, rfl⟩ := hform
  rw [← icells_append] at ho5
  have hlM : L.length + K.length = (L ++ K).length := by rw [List.length_append]
  have HLM := Lib.hid hlM
  have hl2 : (L ++ K).length ≤ 200000 := by omega
  rw [hlM] at ho5 ⊢
  generalize L ++ K = M at *
  clear hlM hg5 hnil ho24 HN HL hb04 hs4 HLM HO2 HB2
  have hdw : Below w5.heap.size w5 w5.drew := ⟨rfl, rfl, rfl, Nat.le_refl _, fun _ _ => rfl⟩
  have hb5d := hb5.trans (hdw.mono hb5.size)
  have HB5 := Lib.hid hb5
  have hlt0 : w.heap.size < W.heap.size := by rw [HZ.out]; omega
  have hlt1 : w.heap.size + 1 < W.heap.size := by rw [HZ.out]; omega
  have hne : w.heap.size ≠ w.heap.size + 1 := by omega
  have hs5 : W.heap.size ≤ w5.heap.size := hb5.size
  have HROW := Lib.hid (fun (w' : World) (h : Below W.heap.size W w') => row2 ((h.block w.heap.size hlt0).trans H1.out))
  have HRES := Lib.hid (fun (w' : World) (h : Below W.heap.size W w') => row2 ((h.block (w.heap.size + 1) hlt1).trans H2.out))
  have HRB := Lib.hid (fun (w' : World) (h : Below W.heap.size W w') => (h.block (w.heap.size + 1) hlt1).trans H2.out)
  have HVK := Lib.hid (fun (w' : World) (h : Below W.heap.size W w') => HV.out.keep (HB0.out.trans (h.mono HB0.out.size)))
  obtain ⟨m0, m1, _, _⟩ := HROW.out _ hb5d
  have hal : Below W.heap.size W (w5.alloc (.cells #[.int .i64 a] 3)).drew := by
    have h := hb5.alloc hb5.size (.cells #[.int .i64 a] 3)
    exact h.trans ⟨rfl, rfl, rfl, Nat.le_refl _, fun _ _ => rfl⟩
  obtain ⟨n0, n1, _, _⟩ := HROW.out _ hal
  have HAL := Lib.hid hal
  have HO5 := Lib.hid ho5
  clear hdw hb5d hb5 hal ho5
  go_wp2
  go_region_held3 (fun w' => w'.cell? ⟨w.heap.size, 0, none⟩ = some (.int .i64 n) ∧ w'.cell? ⟨w.heap.size, 1, none⟩ = some (.iface T vx))
    (first | ((try dsimp only); (with_reducible exact ⟨by assumption, by assumption⟩)) | (with_reducible exact ⟨set2_keep (by assumption) (by assumption), set2_keep (by assumption) (by assumption)⟩) | go_keep)
    (first
      | (go_at_call 150; refine hle.mono ?_; rintro e w7 ⟨rfl, hb7⟩; have hb07 := hb06.trans (hb7.mono hb06.size); obtain ⟨q0, q1, _, _⟩ := HROW.out w7 hb07; have hrn := HREN1.out w7 (HVK.out w7 hb07))
      | (go_at_call 149; refine hrn.mono ?_; rintro e w8 ⟨y, rfl, hy, hb8⟩; obtain ⟨fy, rfl⟩ := hy.iface; have hb08 := hb07.trans (hb8.mono hb07.size); obtain ⟨x0, x1, _, _⟩ := HROW.out w8 hb08; obtain ⟨r0, r1, z0, z1⟩ := HRES.out w8 hb08)
      | (refine step_append_lies _ (by rfl) _ _ _ (by rfl) W.heap.size 3 i0 _ 1 8 Tryz.underlying146 hi0 hz0 hz1 HS.out rfl (by omega) _ M.length _ (by rfl) ((HO5.out.alloc _).drew)
          ⟨w5.heap.size, 0, none⟩ 1 1 [.int .i64 a] (by rfl) (by rfl) (World.news_of_block (cs := #[.int .i64 a]) (t := 3) (fr := (0, 0)) (heap_alloc_new _ _)) (icells_one [a])
          (by omega) (by unfold maxLen; omega) (by omega) (by simp; omega) (w5.heap.size + 1) (by simp) ?_; intro g6 cap6 w6 ho6 hgrow hat hlt6; have hb06 := below_own HAL.out ((HO5.out.alloc _).drew) (Nat.le_refl _) (by first | (simp; done) | (simp; omega)) hgrow; obtain ⟨p0, p1, _, _⟩ := HROW.out w6 hb06; have hle := least_impl (some ⟨g6, 0, none⟩) cap6 (M ++ [a]) w6 (ints_row (show M.length + 1 = (M ++ [a]).length by simp) (by rw [icells_append]; exact ho6)) (by simp only [List.length_append, List.length_cons, List.length_nil]; omega); rw [HCC.out, show (M ++ [a]).length = M.length + 1 by simp] at hle)
      | fail)
  have k5 := set2_block (a := .int .i64 c) (b := .iface (fty r) fy) (HRB.out w8 hb08)
  obtain ⟨s0, s1, _, _⟩ := row2 k5
  have hs7 : W.heap.size ≤ w7.heap.size := hb07.size
  have hfin : ∃ y, Ending.returned (.agg #[.int .i64 c, .iface (fty r) fy]) = .returned (.agg #[.int .i64 c, y]) ∧ FIn ((w8.setCell ⟨w.heap.size + 1, 0, none⟩ (.int .i64 c)).setCell ⟨w.heap.size + 1, 1, none⟩ (.iface (fty r) fy)) (SinceQ q w.heap.size) y r ∧ Below w.heap.size w ((w8.setCell ⟨w.heap.size + 1, 0, none⟩ (.int .i64 c)).setCell ⟨w.heap.size + 1, 1, none⟩ (.iface (fty r) fy)) := by
    refine ⟨_, rfl, hy.over ⟨by simp, fun b hq _ => set2_other (fun e => ?_), fun b hq _ => ?_⟩, ((HB0.out.trans (hb08.mono HB0.out.size)).setCell (p := ⟨w.heap.size + 1, 0, none⟩) (show w.heap.size ≤ w.heap.size + 1 by omega) _).setCell (p := ⟨w.heap.size + 1, 1, none⟩) (show w.heap.size ≤ w.heap.size + 1 by omega) _⟩
    · have : w7.heap.size ≤ b := hq
      omega
    · have : w7.heap.size ≤ b := hq
      exact .inr (by omega)
  generalize (w8.setCell ⟨w.heap.size + 1, 0, none⟩ (.int .i64 c)).setCell ⟨w.heap.size + 1, 1, none⟩ (.iface (fty r) fy) = W9 at hfin s0 s1 ⊢
  clear hle hrn HROW HRES HRB HVK HREN1 HV HB0 HB5 H1 H2 HZ HAL HO5 hb06 hb07 hb08 hb7 hb8 hy hgrow hat ho6 k5
  go_wp2
  (try simp only [Exit.inBlock, Exit.then])
  exact bodyPost_ret (v := .agg #[.int .i64 c, .iface (fty r) fy]) (by simp [results, Tryz.results115, go_sem, s0, s1]) rfl hfin

/-- The binder, renamed where it must be. -/
theorem cap_any (n a : Int) (v : Value) (k u : Tm) (fx : Value) (q p : Nat → Prop) (w : World) (hv : FIn w q v k) (hu : FIn w p (.iface (fty u) fx) u) (hszu : szT u ≤ 100000) (hszk : szT k ≤ 100000) (hP : OkP 1048576 k) :
    Calls Tryz.prog 115 #[.agg #[.int .i64 n, v], .int .i64 a, .iface (fty u) fx] w fun e w' => ∃ y, e = .returned (.agg #[.int .i64 (capN n k a u), y]) ∧ FIn w' (SinceQ q w.heap.size) y (capT n k a u) ∧ Below w.heap.size w w' := by
  cases h : hasB (freeT u) n with
  | false => exact cap_no n a v k u fx q p w hv hu (by omega) h
  | true => exact cap_yes n a v k u fx q p w hv hu hszu hszk hP h
end Go.Proofs.YtenejdfnhkbafaaGreat
end

section
namespace Go.Proofs.YtenejdfnhkbafaaGreat
open Go.RowKit Go.Sort Go.ChangeShapes Go.WideShapes
set_option linter.unusedVariables false
attribute [local go_sem] ask_atom_atom ask_atom_node ask_atom_bind ask_atom_hole ask_node_atom ask_node_node ask_node_bind ask_node_hole ask_bind_atom ask_bind_node ask_bind_bind ask_bind_hole ask_hole_atom ask_hole_node ask_hole_bind ask_hole_hole

theorem three_below (w : World) (a b c : Obj) : Below w.heap.size w (((w.alloc a).alloc b).alloc c) :=
  (((Below.refl _ w).alloc (Nat.le_refl _) _).alloc (by simp) _).alloc (by simp; omega) _
theorem three_cells (w : World) (x y : Value) (T U : TypeId) (c : Obj) :
    (((w.alloc (.cells #[x] T)).alloc (.cells #[y] U)).alloc c).cell? ⟨w.heap.size, 0, none⟩ = some x ∧ (((w.alloc (.cells #[x] T)).alloc (.cells #[y] U)).alloc c).cell? ⟨w.heap.size + 1, 0, none⟩ = some y := by
  have h1 : (((w.alloc (.cells #[x] T)).alloc (.cells #[y] U)).alloc c).heap[w.heap.size]? = some (.cells #[x] T (0, 0)) :=
    (Below.heap_alloc _ _ _ (by simp; omega)).trans ((Below.heap_alloc _ _ _ (by simp)).trans (heap_alloc_new w _))
  have h2 : (((w.alloc (.cells #[x] T)).alloc (.cells #[y] U)).alloc c).heap[w.heap.size + 1]? = some (.cells #[y] U (0, 0)) := by
    have h := heap_alloc_new (w.alloc (.cells #[x] T)) (.cells #[y] U)
    rw [World.size_alloc] at h
    exact (Below.heap_alloc _ _ _ (by simp)).trans h
  exact ⟨by rw [cell_of_row _ _ _ _ _ _ h1]; rfl, by rw [cell_of_row _ _ _ _ _ _ h2]; rfl⟩

set_option maxRecDepth 100000 in
set_option maxHeartbeats 2000000 in
theorem rep_atom (n a : Int) (u : Tm) (fx : Value) (q : Nat → Prop) (w : World) (hu : FIn w q (.iface (fty u) fx) u) :
    Calls Tryz.prog 60 #[.iface 155 (.agg #[.int .i64 n]), .int .i64 a, .iface (fty u) fx] w (FormQ q (if n = a then u else .mk 1 n [] []) w) := by
  have hb0 := three_below w (.cells #[.int .i64 a] 3) (.cells #[.iface (fty u) fx] 93) (.cells #[.int .i64 n] 155)
  have hc := three_cells w (.int .i64 a) (.iface (fty u) fx) 3 93 (.cells #[.int .i64 n] 155)
  obtain ⟨hc0, hc1⟩ := hc
  by_cases h : n = a
  · have hq : (n == a) = true := by simp [h]
    have hpost : FormQ q (if n = a then u else .mk 1 n [] []) w (.returned (.iface (fty u) fx)) (((w.alloc (.cells #[.int .i64 a] 3)).alloc (.cells #[.iface (fty u) fx] 93)).alloc (.cells #[.int .i64 n] 155)) := by
      rw [if_pos h]
      exact ⟨_, rfl, (hu.keep hb0).kind fun b _ h => .inl h, hb0⟩
    have HP := Lib.hid hpost
    clear h hu hb0 hpost
    generalize fty u = TU at *
    generalize (if n = a then u else .mk 1 n [] []) = r at *
    go_enter Tryz.func60, Tryz.ntmps60
    go_wp2
    go_ret
    exact HP.out
  · have hq : (n == a) = false := by simp [h]
    have hpost : FormQ q (if n = a then u else .mk 1 n [] []) w (.returned (.iface 155 (.agg #[.int .i64 n]))) (((w.alloc (.cells #[.int .i64 a] 3)).alloc (.cells #[.iface (fty u) fx] 93)).alloc (.cells #[.int .i64 n] 155)) := by
      rw [if_neg h]
      exact ⟨_, rfl, form_atom (t := .mk 1 n [] []) rfl, hb0⟩
    have HP := Lib.hid hpost
    clear h hu hb0 hpost
    generalize fty u = TU at *
    generalize (if n = a then u else .mk 1 n [] []) = r at *
    go_enter Tryz.func60, Tryz.ntmps60
    go_wp2
    go_ret
    exact HP.out

set_option maxRecDepth 100000 in
theorem rep_one (B C : Nat) (T : TypeId) (y : Value) (a : Int) (TU : TypeId) (fx : Value) (R : Ending → World → Prop) (w : World) (hc0 : w.cell? ⟨B, 0, none⟩ = some (.int .i64 a)) (hc1 : w.cell? ⟨C, 0, none⟩ = some (.iface TU fx))
    (ih : Calls Tryz.prog 60 #[.iface T y, .int .i64 a, .iface TU fx] w (fun e w' => (∃ U z, e = .returned (.iface U z)) ∧ R e w')) :
    Calls Tryz.prog 113 (#[.iface T y] ++ #[.pointer (some ⟨B, 0, none⟩), .pointer (some ⟨C, 0, none⟩)]) w R := by
  show Calls Tryz.prog 113 #[.iface T y, .pointer (some ⟨B, 0, none⟩), .pointer (some ⟨C, 0, none⟩)] w R
  go_enter Tryz.func113, Tryz.ntmps113
  go_wp2_with fail
  refine ih.mono ?_
  rintro e w2 ⟨⟨U, z, rfl⟩, hR⟩
  have HR := Lib.hid hR
  clear hR ih
  go_wp2
  exact HR.out

set_option maxRecDepth 100000 in
set_option maxHeartbeats 2000000 in
theorem rep_node (N : Nat) (n a : Int) (u : Tm) (fx : Value) (b off c0 : Nat) (xs : List Value) (ks : List Tm) (q : Nat → Prop) (w : World) (hq : ∀ b, q b → b < w.heap.size) (hu : FIn w q (.iface (fty u) fx) u) (hbl : b < w.heap.size) (hc : ∀ j u, xs[j]? = some u → w.cell? ⟨b, off + j, none⟩ = some u) (hxs : FsIn w q xs ks) (hlen : ks.length ≤ 1048576)
    (ih : ∀ i, i < ks.length → ∀ (w' : World) (T : TypeId) (y : Value), Below w.heap.size w w' → FIn w' q (.iface T y) (tmAt ks i) → Calls Tryz.prog 60 #[.iface T y, .int .i64 a, .iface (fty u) fx] w' (FormQ q (repN N (tmAt ks i) a u) w')) :
    Calls Tryz.prog 60 #[.iface 158 (.agg #[.int .i64 n, .slice (some ⟨b, off, none⟩) ks.length c0]), .int .i64 a, .iface (fty u) fx] w (FormQ q (.mk 2 n [] (ks.map fun k => repN N k a u)) w) := by
  have hb0 := three_below w (.cells #[.int .i64 a] 3) (.cells #[.iface (fty u) fx] 93) (.cells #[.int .i64 n, .slice (some ⟨b, off, none⟩) ks.length c0] 158)
  obtain ⟨hc0, hc1⟩ := three_cells w (.int .i64 a) (.iface (fty u) fx) 3 93 (.cells #[.int .i64 n, .slice (some ⟨b, off, none⟩) ks.length c0] 158)
  have hszW : (((w.alloc (.cells #[.int .i64 a] 3)).alloc (.cells #[.iface (fty u) fx] 93)).alloc (.cells #[.int .i64 n, .slice (some ⟨b, off, none⟩) ks.length c0] 158)).heap.size = w.heap.size + 3 := by simp
  have eg : ∀ args w, (callFunc 113 args).run Tryz.prog w = .ok (.enter 113 args) w := enters_of Tryz.func113 (by kernel_rfl) rfl
  have hwk := withKidsQ_any n b off c0 xs ks (ks.map fun k => repN N k a u) q _ q 113 #[.pointer (some ⟨w.heap.size, 0, none⟩), .pointer (some ⟨w.heap.size + 1, 0, none⟩)] (by simp) (fun b h => Nat.lt_of_lt_of_le (hq b h) hb0.size) eg (Nat.lt_of_lt_of_le hbl hb0.size)
    (fun j u hj => (hb0.cell (p := ⟨b, off + j, none⟩) hbl).trans (hc j u hj)) (hxs.over ⟨hb0.size, fun b _ hl => hb0.block b hl, fun _ h _ => h⟩) hlen
    (fun i hi w' T y hb hf => by
      have hb' := hb0.trans (hb.mono hb0.size)
      refine rep_one w.heap.size (w.heap.size + 1) T y a (fty u) fx _ w' ((hb.cell (p := ⟨w.heap.size, 0, none⟩) (by rw [hszW]; (try dsimp only); omega)).trans hc0) ((hb.cell (p := ⟨w.heap.size + 1, 0, none⟩) (by rw [hszW]; (try dsimp only); omega)).trans hc1) ((ih i hi w' T y hb' hf).mono ?_)
      rintro e w2 ⟨v, rfl, hv, hb2⟩
      obtain ⟨fy, rfl⟩ := hv.iface
      rw [tmAt_map (fun k => repN N k a u) hi]
      exact ⟨⟨_, _, rfl⟩, _, rfl, hv, hb2⟩)
  have HB := Lib.hid hb0
  clear hc hxs ih eg hb0 hbl hu hq hszW
  generalize hrs : (ks.map fun k => repN N k a u) = rs at hwk ⊢
  clear hrs
  generalize fty u = TU at *
  go_enter Tryz.func60, Tryz.ntmps60
  go_wp2_with fail
  refine hwk.mono ?_
  rintro e w2 ⟨g, cap, rfl, hf, hb2⟩
  have hpost : FormQ q (.mk 2 n [] rs) w (.returned (.iface 158 (.agg #[.int .i64 n, .slice (some ⟨g, 0, none⟩) rs.length cap]))) w2 :=
    ⟨_, rfl, hf.kind fun b _ h => sinceQ_le h HB.out.size, HB.out.trans (hb2.mono HB.out.size)⟩
  clear hwk HB hf hb2
  go_wp2
  go_ret
  exact hpost

set_option maxRecDepth 100000 in
set_option maxHeartbeats 8000000 in
theorem rep_bind (N : Nat) (n a : Int) (u : Tm) (fx v : Value) (k : Tm) (q : Nat → Prop) (w : World) (hq : ∀ b, q b → b < w.heap.size) (hu : FIn w q (.iface (fty u) fx) u) (hszu : szT u ≤ 100000) (hv : FIn w q v k) (hsz : szT k ≤ 100000) (hP : OkP 1048576 k)
    (ih : ∀ (q2 : Nat → Prop) (w' : World) (T : TypeId) (y : Value), (∀ b, q2 b → b < w'.heap.size) → FIn w' q2 (.iface T y) (capT n k a u) → FIn w' q2 (.iface (fty u) fx) u → Calls Tryz.prog 60 #[.iface T y, .int .i64 a, .iface (fty u) fx] w' (FormQ q2 (repN N (capT n k a u) a u) w')) :
    Calls Tryz.prog 60 #[.iface 161 (.agg #[.int .i64 n, v]), .int .i64 a, .iface (fty u) fx] w (FormQ q (repN (N + 1) (.mk 3 n [] [k]) a u) w) := by
  obtain ⟨kx, rfl⟩ := hv.iface
  have hb0 := three_below w (.cells #[.int .i64 a] 3) (.cells #[.iface (fty u) fx] 93) (.cells #[.int .i64 n, .iface (fty k) kx] 161)
  obtain ⟨hc0, hc1⟩ := three_cells w (.int .i64 a) (.iface (fty u) fx) 3 93 (.cells #[.int .i64 n, .iface (fty k) kx] 161)
  have hszW : (((w.alloc (.cells #[.int .i64 a] 3)).alloc (.cells #[.iface (fty u) fx] 93)).alloc (.cells #[.int .i64 n, .iface (fty k) kx] 161)).heap.size = w.heap.size + 3 := by simp
  have hx := heap_alloc_new ((w.alloc (.cells #[.int .i64 a] 3)).alloc (.cells #[.iface (fty u) fx] 93)) (.cells #[.int .i64 n, .iface (fty k) kx] 161)
  rw [World.size_alloc, World.size_alloc] at hx
  have hbd : FIn w q (.iface 161 (.agg #[.int .i64 n, .iface (fty k) kx])) (.mk 3 n [] [k]) := .bind _ hv
  have hszb : szT (.mk 3 n [] [k]) = 1 + szT k := by simp [szT, szTs]
  have hif := isFreeIn_any (.mk 3 n [] [k]) q a _ (((w.alloc (.cells #[.int .i64 a] 3)).alloc (.cells #[.iface (fty u) fx] 93)).alloc (.cells #[.int .i64 n, .iface (fty k) kx] 161)) (hbd.keep hb0) (by omega)
  cases hfr : hasB (freeT (.mk 3 n [] [k])) a with
  | false =>
    rw [repN_3n _ _ _ _ _ hfr]
    rw [hfr] at hif
    have HB := Lib.hid hb0
    have HBD := Lib.hid hbd
    clear hfr hb0 hbd hv ih hP hu hszb hq hx hszW
    generalize fty u = TU at *
    generalize fty k = T at *
    go_enter Tryz.func60, Tryz.ntmps60
    go_wp2_with fail
    refine hif.mono ?_
    rintro e w4 ⟨rfl, hb4⟩
    have hb04 := HB.out.trans (hb4.mono HB.out.size)
    have hpost : FormQ q (.mk 3 n [] [k]) w (.returned (.iface 161 (.agg #[.int .i64 n, .iface T kx]))) w4 :=
      ⟨_, rfl, (HBD.out.keep hb04).kind fun b _ h => .inl h, hb04⟩
    clear hif HB HBD hb04 hb4 hc0 hc1
    go_wp2
    go_ret
    exact hpost
  | true =>
    rw [repN_3y _ _ _ _ _ hfr]
    rw [hfr] at hif
    have HB := Lib.hid hb0
    have HQ := Lib.hid hq
    have HU := Lib.hid (fun (W : World) (h : Below w.heap.size w W) => hu.keep h)
    have HC := Lib.hid (fun (W : World) (h : Below w.heap.size w W) => cap_any n a (.iface (fty k) kx) k u fx q q W (hv.keep h) (hu.keep h) hszu hsz hP)
    have HI := Lib.hid ih
    have H0 := Lib.hid hc0
    have H1 := Lib.hid hc1
    have HX := Lib.hid hx
    have HZ := Lib.hid hszW
    generalize hr : repN N (capT n k a u) a u = r at HI ⊢
    generalize capT n k a u = k2 at *
    generalize capN n k a u = c at *
    generalize fty u = TU at *
    generalize fty k = T at *
    clear hfr hb0 hbd hv ih hP hu hszb hq hx hszW hr hszu hsz hc0 hc1
    go_enter Tryz.func60, Tryz.ntmps60
    go_wp2_with fail
    refine hif.mono ?_
    generalize (((w.alloc (.cells #[.int .i64 a] 3)).alloc (.cells #[.iface TU fx] 93)).alloc (.cells #[.int .i64 n, .iface T kx] 161)) = W at *
    rintro e w4 ⟨rfl, hb4⟩
    have hb04 := HB.out.trans (hb4.mono HB.out.size)
    have hxa := (hb4.block (w.heap.size + 2) (by rw [HZ.out]; omega)).trans HX.out
    obtain ⟨m0, m1, _, _⟩ := row2 hxa
    have a0 := (hb4.cell (p := ⟨w.heap.size, 0, none⟩) (by rw [HZ.out]; (try dsimp only); omega)).trans H0.out
    have a1 := (hb4.cell (p := ⟨w.heap.size + 1, 0, none⟩) (by rw [HZ.out]; (try dsimp only); omega)).trans H1.out
    have hcp := HC.out w4 hb04
    have HB4 := Lib.hid hb4
    have HB04 := Lib.hid hb04
    clear hif hb4 hb04 HC hxa
    go_wp2_with fail
    refine hcp.mono ?_
    rintro e w5 ⟨y, rfl, hy, hb5⟩
    obtain ⟨fy, rfl⟩ := hy.iface
    generalize hTy : fty k2 = T2 at *
    have hb45 := HB4.out.trans (hb5.mono HB4.out.size)
    have hx5 := (hb45.block (w.heap.size + 2) (by rw [HZ.out]; omega)).trans HX.out
    obtain ⟨x0, x1, z0, z1⟩ := row2 hx5
    have k6 := set2_block (a := .int .i64 c) (b := .iface T2 fy) hx5
    have hb06 := ((HB.out.trans (hb45.mono HB.out.size)).setCell (p := ⟨w.heap.size + 2, 0, none⟩) (show w.heap.size ≤ w.heap.size + 2 by omega) (.int .i64 c)).setCell (p := ⟨w.heap.size + 2, 1, none⟩) (show w.heap.size ≤ w.heap.size + 2 by omega) (.iface T2 fy)
    have c0 := set2_keep (a := .int .i64 c) (b := .iface T2 fy) ((hb45.cell (p := ⟨w.heap.size, 0, none⟩) (by rw [HZ.out]; (try dsimp only); omega)).trans H0.out) (show w.heap.size ≠ w.heap.size + 2 by omega)
    have c1 := set2_keep (a := .int .i64 c) (b := .iface T2 fy) ((hb45.cell (p := ⟨w.heap.size + 1, 0, none⟩) (by rw [HZ.out]; (try dsimp only); omega)).trans H1.out) (show w.heap.size + 1 ≠ w.heap.size + 2 by omega)
    have hs4 : w.heap.size + 3 ≤ w4.heap.size := by have := HB4.out.size; rw [HZ.out] at this; exact this
    have hs5 : w4.heap.size ≤ w5.heap.size := hb5.size
    have hq2 : ∀ b, SinceQ q w4.heap.size b → b ≠ w.heap.size + 2 := by
      intro b h
      rcases h with h | h
      · have := HQ.out b h; omega
      · omega
    have hy6 := ((hy.setOther ⟨w.heap.size + 2, 0, none⟩ (.int .i64 c) hq2).setOther ⟨w.heap.size + 2, 1, none⟩ (.iface T2 fy) hq2)
    have hsz6 : ((w5.setCell ⟨w.heap.size + 2, 0, none⟩ (.int .i64 c)).setCell ⟨w.heap.size + 2, 1, none⟩ (.iface T2 fy)).heap.size = w5.heap.size := by simp
    clear hcp hy hb5 hb45 hx5 m0 m1 a0 a1 HB4 HB04 hq2 HX H0 H1 HB
    go_wp2
    generalize (w5.setCell ⟨w.heap.size + 2, 0, none⟩ (.int .i64 c)).setCell ⟨w.heap.size + 2, 1, none⟩ (.iface T2 fy) = W6 at *
    have hdw : Below W6.heap.size W6 W6.drew := ⟨rfl, rfl, rfl, Nat.le_refl _, fun _ _ => rfl⟩
    have hb06d := hb06.trans (hdw.mono hb06.size)
    have hs6 : w.heap.size + 3 ≤ W6.heap.size := by omega
    have hxd : W6.drew.heap[w.heap.size + 2]? = _ := k6
    obtain ⟨t0, t1, _, _⟩ := row2 hxd
    have d0 := (hdw.cell (p := ⟨w.heap.size, 0, none⟩) (by show w.heap.size < W6.heap.size; omega)).trans c0
    have d1 := (hdw.cell (p := ⟨w.heap.size + 1, 0, none⟩) (by show w.heap.size + 1 < W6.heap.size; omega)).trans c1
    have hry := (hy6.keep hdw).kind (q' := fun b => b < W6.drew.heap.size ∧ SinceQ q w.heap.size b) fun b hl h => ⟨hl, sinceQ_le h (by omega)⟩
    have hru := (HU.out W6.drew hb06d).kind (q' := fun b => b < W6.drew.heap.size ∧ SinceQ q w.heap.size b) fun b hl h => ⟨hl, .inl h⟩
    have hrec := HI.out (fun b => b < W6.drew.heap.size ∧ SinceQ q w.heap.size b) W6.drew T2 fy (fun b h => h.1) hry hru
    have HBD := Lib.hid hb06d
    have HROW := Lib.hid (fun (w' : World) (h : Below W6.drew.heap.size W6.drew w') => row2 ((h.block (w.heap.size + 2) (show w.heap.size + 2 < W6.heap.size by omega)).trans hxd))
    have HCA := Lib.hid (fun (w' : World) (h : Below W6.drew.heap.size W6.drew w') => (h.cell (p := ⟨w.heap.size, 0, none⟩) (show w.heap.size < W6.heap.size by omega)).trans d0)
    have HCU := Lib.hid (fun (w' : World) (h : Below W6.drew.heap.size W6.drew w') => (h.cell (p := ⟨w.heap.size + 1, 0, none⟩) (show w.heap.size + 1 < W6.heap.size by omega)).trans d1)
    have HS6 := Lib.hid hb06.size
    clear hdw hb06d hxd hry hru hy6 hb06 c0 c1 k6 hsz6 HI HU hTy x0 x1 z0 z1
    go_region_held3 (fun w' => w'.cell? ⟨w.heap.size, 0, none⟩ = some (.int .i64 a) ∧ w'.cell? ⟨w.heap.size + 1, 0, none⟩ = some (.iface TU fx) ∧ w'.cell? ⟨w.heap.size + 2, 0, none⟩ = some (.int .i64 c) ∧ w'.cell? ⟨w.heap.size + 2, 1, none⟩ = some (.iface T2 fy))
      (first | (with_reducible exact ⟨by assumption, by assumption, by assumption, by assumption⟩) | ((try dsimp only); exact ⟨by assumption, by assumption, by assumption, by assumption⟩) | go_keep)
      (first
        | (go_at_call 60; refine hrec.mono ?_; rintro e w7 ⟨v7, rfl, hv7, hb7⟩; obtain ⟨f7, rfl⟩ := hv7.iface; obtain ⟨u0, u1, _, _⟩ := HROW.out w7 hb7; have u2 := HCA.out w7 hb7; have u3 := HCU.out w7 hb7)
        | fail)
    have hpost : FormQ q (.mk 3 c [] [r]) w (.returned (.iface 161 (.agg #[.int .i64 c, .iface (fty r) f7]))) w7 :=
      ⟨_, rfl, .bind _ (hv7.kind fun b _ h => by
        rcases h with h | h
        · exact h.2
        · exact .inr (Nat.le_trans HS6.out h)), HBD.out.trans (hb7.mono HBD.out.size)⟩
    clear hrec hv7 hb7 HBD HROW HCA HCU t0 t1 d0 d1 u0 u1 u2 u3
    go_wp2
    go_ret
    exact hpost

/-- A form put in the place of an atom. -/
theorem replaced_any : ∀ (N : Nat) (t : Tm), szT t ≤ N → N ≤ 1000 → holesB t = false → ∀ M : Nat, M + 2 * N ≤ 1048576 → OkP M t → ∀ (a : Int) (u : Tm), szT u ≤ 100000 → ∀ (q : Nat → Prop) (w : World) (T : TypeId) (y fx : Value), (∀ b, q b → b < w.heap.size) → FIn w q (.iface T y) t → FIn w q (.iface (fty u) fx) u →
    Calls Tryz.prog 60 #[.iface T y, .int .i64 a, .iface (fty u) fx] w (FormQ q (repN N t a u) w) := by
  intro N
  induction N with
  | zero => intro t h; rw [szT_eq] at h; omega
  | succ N ih =>
    intro t hN h1000 hH M hM hP a u hszu q w T y fx hq h hu
    obtain ⟨fx', e⟩ := h.iface
    injection e with e1 e2
    subst e1; subst e2
    rcases form_cases h with ⟨n, rfl, rfl⟩ | ⟨n, b, off, c', xs, ks, rfl, rfl, _, hb, hc, hxs⟩ | ⟨n, v, k, rfl, rfl, hk⟩ | ⟨n, A', c', r, rfl, rfl, hr, _⟩
    · rw [repN_1, gty_1]
      exact rep_atom n a u fx q w hu
    · rw [repN_2, gty_2]
      rw [szT_eq, kids_mk] at hN
      have hkl := len_szTs ks
      refine rep_node N n a u fx b off c' xs ks q w hq hu hb hc hxs (by omega) fun i hi w' T y hb' hy => ih (tmAt ks i) (by have := szT_at hi; omega) (by omega) (noHole_kid hH hi) M (by omega) (okP_at hP.2.2 hi) a u hszu q w' T y fx (fun b h => Nat.lt_of_lt_of_le (hq b h) hb'.size) hy (hu.keep hb')
    · rw [gty_3]
      have hszk : szT (.mk 3 n [] [k]) = 1 + szT k := by simp [szT, szTs]
      rw [hszk] at hN
      have hHk : holesB k = false := noHole_kid (t := .mk 3 n [] [k]) (i := 0) hH (by simp [kids_mk])
      exact rep_bind N n a u fx v k q w hq hu hszu hk (by omega) (okP_le (by omega) hP.2.2.1) fun q2 w' T y hq2 hy hu2 => ih _ (by rw [szT_capT]; omega) (by omega) (by rw [holesB_capT]; exact hHk) (M + 2) (by omega) (okP_capT n a u hP.2.2.1) a u hszu q2 w' T y fx hq2 hy hu2
    · rw [holesB_eq, op_mk] at hH
      simp at hH
end Go.Proofs.YtenejdfnhkbafaaGreat
end

section
namespace Go.Proofs.YtenejdfnhkbafaaGreat
open Go.RowKit Go.Sort Go.ChangeShapes Go.WideShapes
set_option linter.unusedVariables false
attribute [local go_sem] ask_atom_atom ask_atom_node ask_atom_bind ask_atom_hole ask_node_atom ask_node_node ask_node_bind ask_node_hole ask_bind_atom ask_bind_node ask_bind_bind ask_bind_hole ask_hole_atom ask_hole_node ask_hole_bind ask_hole_hole

theorem can_orT {t : Tm} (h : groundB t = false) : groundB t = false ∧ orT (canN 60 t) (groundB t) = tm0 := by rw [h]; exact ⟨rfl, orT_no _⟩

end Go.Proofs.YtenejdfnhkbafaaGreat
end

