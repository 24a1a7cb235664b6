/-
  The comparison of two forms without holes, in the program, as contracts. Canonical terms: plain words. Paths, and terms that come of terms: plain words, no program is walked here.
-/
import Derived.Test.YtenejdfnhkbafaaKTermAt14
import Derived.Test.YtenejdfnhkbafaaKTermAt21
import Derived.Test.YtenejdfnhkbafaaKTermAt22
import Derived.Test.YtenejdfnhkbafaaKTermAt11
import Derived.Test.YtenejdfnhkbafaaKTermAt4
import Derived.Test.YtenejdfnhkbafaaKTermAt8
import Derived.Test.YtenejdfnhkbafaaKTermAt6
import Derived.Test.YtenejdfnhkbafaaKTermAt15
section
namespace Go.Proofs.Ytenejdfnhkbafaa
open Go.RowKit Go.Sort Go.ChangeShapes Go.WideShapes
set_option linter.unusedVariables false
attribute [local go_sem] ask_atom_atom ask_atom_node ask_atom_bind ask_atom_hole ask_node_atom ask_node_node ask_node_bind ask_node_hole ask_bind_atom ask_bind_node ask_bind_bind ask_bind_hole ask_hole_atom ask_hole_node ask_hole_bind ask_hole_hole

def frG (n : Int) (t : Tm) : Bool := !hasB (freeT t) n
def hoG (_ : Int) (_ : List (Int × Int)) (_ : Int) (_ : List (Int × Int)) : Bool := false

theorem gfield_bind (n : Int) (T : TypeId) (x : Value) (w : World) : (Instr.field 134 (.agg #[.int .i64 n, .iface T x]) 1).run Try.prog w = .ok (.iface T x) w := by kernel_rfl
attribute [local go_sem] gfield_bind

theorem gty_1 (m : Int) : fty (.mk 1 m [] []) = 136 := rfl
theorem gty_2 (m : Int) (ks : List Tm) : fty (.mk 2 m [] ks) = 131 := rfl
theorem gty_3 (m : Int) (k : Tm) : fty (.mk 3 m [] [k]) = 134 := rfl
theorem gty_4 (m : Int) (p : List (Int × Int)) : fty (.mk 4 m p []) = 138 := rfl
theorem gOk_1 (n : Int) (t : Tm) : eqOk frG hoG (.mk 1 n [] []) t = (decide (t.op = 1) && (n == t.num)) := by simp [eqOk]
theorem gOk_2 (n : Int) (ks : List Tm) (t : Tm) : eqOk frG hoG (.mk 2 n [] ks) t = (decide (t.op = 2) && ((n == t.num) && eqOks frG hoG ks t.kids)) := by simp [eqOk]
theorem gOk_3 (n : Int) (k : Tm) (t : Tm) : eqOk frG hoG (.mk 3 n [] [k]) t = (decide (t.op = 3) && (if n = t.num then eqOks frG hoG [k] t.kids else frG n (tmAt t.kids 0) && eqOks frG hoG [k] [actT (swapL t.num n) (tmAt t.kids 0)])) := by simp [eqOk]
theorem gOks_one (k l : Tm) : eqOks frG hoG [k] [l] = eqOk frG hoG k l := by simp [eqOks]

mutual
theorem holesB_act (p : List (Int × Int)) : ∀ t : Tm, holesB (actT p t) = holesB t
  | .mk o n q ks => by rw [actT, holesB, holesB, holesBs_act p ks]
theorem holesBs_act (p : List (Int × Int)) : ∀ ts : List Tm, holesBs (actTs p ts) = holesBs ts
  | [] => by simp [actTs]
  | t :: r => by rw [actTs, holesBs, holesBs, holesB_act p t, holesBs_act p r]
end
theorem ground_no {t : Tm} (h : groundB t = true) : holesB t = false := by
  unfold groundB at h
  simp only [Bool.and_eq_true] at h
  simpa using h.2
theorem noHole_kid {t : Tm} {i : Nat} (h : holesB t = false) (hi : i < t.kids.length) : holesB (tmAt t.kids i) = false := by
  cases hk : holesB (tmAt t.kids i) with
  | false => rfl
  | true =>
    rw [holesB_eq, holesBs_yes hi hk] at h
    simp at h

theorem bel3 (w : World) (o1 o2 o3 : Obj) : Below w.heap.size w (((w.alloc o1).alloc o2).alloc o3) :=
  (((Below.refl _ w).alloc (Nat.le_refl _) _).alloc (by simp) _).alloc (by simp; omega) _

def gbOk (n : Int) (k : Tm) (m : Int) (l : Tm) : Bool := if n = m then eqOk frG hoG k l else frG n l && eqOk frG hoG k (actT (swapL m n) l)

end Go.Proofs.Ytenejdfnhkbafaa
end

section
namespace Go.Proofs.Ytenejdfnhkbafaa
open Go.RowKit Go.Sort
set_option linter.unusedVariables false

/-- The canonical term, of a term with N nodes at most. -/
def canN : Nat → Tm → Tm
  | 0, t => t
  | N + 1, .mk o n p ks => if o = 3 then .mk 3 (leastF (freeT (.mk o n p ks))) p (ks.map fun k => canN N (actT (swapL n (leastF (freeT (.mk o n p ks)))) k)) else .mk o n p (ks.map (canN N))
theorem canN_3 (N : Nat) (n : Int) (k : Tm) : canN (N + 1) (.mk 3 n [] [k]) = .mk 3 (leastF (freeT (.mk 3 n [] [k]))) [] [canN N (actT (swapL n (leastF (freeT (.mk 3 n [] [k])))) k)] := by simp [canN]
theorem canN_2 (N : Nat) (n : Int) (ks : List Tm) : canN (N + 1) (.mk 2 n [] ks) = .mk 2 n [] (ks.map (canN N)) := by simp [canN]
theorem canN_1 (N : Nat) (n : Int) : canN (N + 1) (.mk 1 n [] []) = .mk 1 n [] [] := by simp [canN]

theorem tmAt_map (f : Tm → Tm) : ∀ {ks : List Tm} {i : Nat}, i < ks.length → tmAt (ks.map f) i = f (tmAt ks i)
  | [], i, h => by simp at h
  | t :: r, 0, _ => by rw [List.map_cons, tmAt_cons_zero, tmAt_cons_zero]
  | t :: r, i + 1, h => by rw [List.map_cons, tmAt_cons_succ, tmAt_cons_succ, tmAt_map f (ks := r) (by simpa using h)]
theorem szTs_map {f : Tm → Tm} : ∀ {ks : List Tm}, (∀ k, szT (f k) = szT k) → szTs (ks.map f) = szTs ks
  | [], _ => rfl
  | t :: r, h => by rw [List.map_cons, szTs, szTs, h t, szTs_map h]
theorem szT_canN : ∀ (N : Nat) (t : Tm), szT (canN N t) = szT t
  | 0, t => rfl
  | N + 1, .mk o n p ks => by
    unfold canN
    split
    · rw [szT, szT, szTs_map (fun k => by rw [szT_canN N, szT_actT])]
    · rw [szT, szT, szTs_map (fun k => szT_canN N k)]
theorem okPs_map {M L : Nat} {f : Tm → Tm} : ∀ {ks : List Tm}, (∀ k, OkP M k → OkP L (f k)) → OkPs M ks → OkPs L (ks.map f)
  | [], _, _ => trivial
  | t :: r, h, hk => ⟨h t hk.1, okPs_map h hk.2⟩
theorem okP_canN : ∀ (N M : Nat) (t : Tm), OkP M t → OkP (M + 2 * N) (canN N t)
  | 0, M, t, h => h
  | N + 1, M, .mk o n p ks, h => by
    unfold canN
    split
    · exact ⟨h.1, by have := h.2.1; omega, okPs_map (M := M) (fun k hk => okP_le (by have := sw_len n (leastF (freeT (.mk o n p ks))); omega) (okP_canN N (M + (swapL n (leastF (freeT (.mk o n p ks)))).length) _ (okP_act _ hk))) h.2.2⟩
    · exact ⟨h.1, by have := h.2.1; omega, okPs_map (M := M) (fun k hk => okP_le (by omega) (okP_canN N M k hk)) h.2.2⟩
end Go.Proofs.Ytenejdfnhkbafaa
end

section
namespace Go.Proofs.Ytenejdfnhkbafaa
open Go.RowKit Go.Sort
set_option linter.unusedVariables false

/-- The term to which a path leads. -/
def walkP : Tm → List Int → Option Tm
  | t, [] => some t
  | t, i :: r => if 0 ≤ i ∧ i < (t.kids.length : Int) then walkP (tmAt t.kids i.toNat) r else none

theorem walkP_nil (t : Tm) : walkP t [] = some t := by simp [walkP]
theorem walkP_yes {t : Tm} {l : List Int} {k : Nat} (hk : k < l.length) (h : 0 ≤ itAt l k ∧ itAt l k < (t.kids.length : Int)) : walkP t (l.drop k) = walkP (tmAt t.kids (itAt l k).toNat) (l.drop (k + 1)) := by
  rw [List.drop_eq_getElem_cons hk, itAt_get l k hk] at *
  rw [walkP, if_pos h]
theorem walkP_no {t : Tm} {l : List Int} {k : Nat} (hk : k < l.length) (h : ¬ (0 ≤ itAt l k ∧ itAt l k < (t.kids.length : Int))) : walkP t (l.drop k) = none := by
  rw [List.drop_eq_getElem_cons hk, itAt_get l k hk] at *
  rw [walkP, if_neg h]

/-- Whether a path leads to a term within a term. -/
def atB (t : Tm) (l : List Int) : Bool := isTermB t && (walkP t l).isSome
def atR (t : Tm) (l : List Int) : Tm := (walkP t l).getD tm0
theorem atB_no {t : Tm} {l : List Int} (h : isTermB t = false) : atB t l = false := by simp [atB, h]
theorem atB_none {t : Tm} {l : List Int} (h : walkP t l = none) : atB t l = false := by simp [atB, h]
theorem atB_some {t u : Tm} {l : List Int} (h1 : isTermB t = true) (h : walkP t l = some u) : atB t l = true ∧ atR t l = u := by simp [atB, atR, h, h1]
theorem walk_term : ∀ {l : List Int} {t u : Tm}, isTermB t = true → walkP t l = some u → isTermB u = true
  | [], t, u, ht, h => by
    rw [walkP_nil] at h
    injection h with h
    exact h ▸ ht
  | i :: r, t, u, ht, h => by
    rw [walkP] at h
    split at h
    · rename_i hi
      exact walk_term (kid_term ht (by omega)) h
    · cases h
theorem at_term {t : Tm} {l : List Int} (h : atB t l = true) : isTermB (atR t l) = true := by
  unfold atB at h
  simp only [Bool.and_eq_true] at h
  obtain ⟨h1, h2⟩ := h
  cases hw : walkP t l with
  | none => rw [hw] at h2; cases h2
  | some u => unfold atR; rw [hw]; exact walk_term h1 hw

/-- Bounds of what is a term. -/
theorem cnt_term {t : Tm} (h : isTermB t = true) : cntT t ≤ 10000 := by
  have h1 := cnt_ok (okP_good (term_good h))
  have h2 : (40 + 1) * szT t ≤ 41 * 60 := Nat.mul_le_mul (by decide) (term_size h)
  omega
theorem fit_orB {r : Tm} {b : Bool} (h : b = true → isTermB r = true) : Fit (orT r b) := by
  cases b with
  | false => rw [orT_no]; exact fit_of _ (by decide)
  | true => exact fit_of _ (by have := cnt_term (h rfl); show cntT r ≤ 1048576; omega)
theorem mc_orB {r : Tm} {b : Bool} (h : b = true → isTermB r = true) : mcR (orT r b) ≤ 2097152 := by
  cases b with
  | false => rw [orT_no]; decide
  | true =>
    show mcR r ≤ 2097152
    have h1 := cnt_term (h rfl)
    have h2 := mcTs_le r.kids
    have h3 := cntT_eq r
    unfold mcR
    omega

/-- Acting with nothing changes no term. -/
theorem imgL_nil (n : Int) : imgL [] n = n := imgL_out (by simp [froms])
theorem thenL_nil {q : List (Int × Int)} (h : permB q = true) : thenL [] q = q := by
  have hp := isP_of h
  refine same_img (asc_thenL [] q) hp.asc (moves_thenL [] q) hp.mv fun a => ?_
  rw [img_thenL, imgL_nil]
mutual
theorem actT_nil : ∀ {t : Tm}, goodT t = true → actT [] t = t
  | .mk o n p ks, h => by
    rw [goodT_eq, Bool.and_eq_true] at h
    rw [actT, actTs_nil (ts := ks) h.2, imgL_nil, ite_self]
    by_cases h4 : o = 4
    · rw [if_pos h4]
      have h1 := h.1
      unfold shapeB at h1
      rw [op_mk, if_neg (by omega), if_neg (by omega), if_neg (by omega), if_pos h4] at h1
      simp only [Bool.and_eq_true] at h1
      rw [thenL_nil (q := p) h1.2.1]
    · rw [if_neg h4]
theorem actTs_nil : ∀ {ts : List Tm}, goodTs ts = true → actTs [] ts = ts
  | [], _ => rfl
  | t :: r, h => by
    rw [goodTs, Bool.and_eq_true] at h
    rw [actTs, actT_nil h.1, actTs_nil h.2]
end
end Go.Proofs.Ytenejdfnhkbafaa
end

