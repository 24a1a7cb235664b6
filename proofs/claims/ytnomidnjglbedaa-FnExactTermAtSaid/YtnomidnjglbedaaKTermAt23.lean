/-
  The comparison of two forms without holes, in the program, as contracts. Canonical terms: plain words. Paths, and terms that come of terms: plain words, no program is walked here.
-/
import Derived.Test.YtnomidnjglbedaaKTermAt14
import Derived.Test.YtnomidnjglbedaaKTermAt21
import Derived.Test.YtnomidnjglbedaaKTermAt22
import Derived.Test.YtnomidnjglbedaaKTermAt11
import Derived.Test.YtnomidnjglbedaaKTermAt4
import Derived.Test.YtnomidnjglbedaaKTermAt8
import Derived.Test.YtnomidnjglbedaaKTermAt6
import Derived.Test.YtnomidnjglbedaaKTermAt15
section
namespace Go.Proofs.Ytnomidnjglbedaa
open Go.RowKit Go.Sort Go.ChangeShapes Go.WideShapes
set_option linter.unusedVariables false
attribute [local go_sem] ask_atom_atom ask_atom_node ask_atom_bind ask_atom_hole ask_node_atom ask_node_node ask_node_bind ask_node_hole ask_bind_atom ask_bind_node ask_bind_bind ask_bind_hole ask_hole_atom ask_hole_node ask_hole_bind ask_hole_hole

theorem gfield_bind (n : Int) (T : TypeId) (x : Value) (w : World) : (Instr.field 157 (.agg #[.int .i64 n, .iface T x]) 1).run Try.prog w = .ok (.iface T x) w := by kernel_rfl
attribute [local go_sem] gfield_bind

mutual
theorem holesB_act (p : List (Int × Int)) : ∀ t : Tm, holesB (actT p t) = holesB t
  | .mk o n q ks => by rw [actT, holesB, holesB, holesBs_act p ks]
theorem holesBs_act (p : List (Int × Int)) : ∀ ts : List Tm, holesBs (actTs p ts) = holesBs ts
  | [] => by simp [actTs]
  | t :: r => by rw [actTs, holesBs, holesBs, holesB_act p t, holesBs_act p r]
end
end Go.Proofs.Ytnomidnjglbedaa
end

section
namespace Go.Proofs.Ytnomidnjglbedaa
open Go.RowKit Go.Sort
set_option linter.unusedVariables false

end Go.Proofs.Ytnomidnjglbedaa
end

section
namespace Go.Proofs.Ytnomidnjglbedaa
open Go.RowKit Go.Sort
set_option linter.unusedVariables false

/-- The term to which a path leads. -/
def walkP : Tm → List Int → Option Tm
  | t, [] => some t
  | t, i :: r => if 0 ≤ i ∧ i < (t.kids.length : Int) then walkP (tmAt t.kids i.toNat) r else none

theorem walkP_nil (t : Tm) : walkP t [] = some t := by simp [walkP]
theorem walkP_yes {t : Tm} {l : List Int} {k : Nat} (hk : k < l.length) (h : 0 ≤ itAt l k ∧ itAt l k < (t.kids.length : Int)) : walkP t (l.drop k) = walkP (tmAt t.kids (itAt l k).toNat) (l.drop (k + 1)) := by
  rw [List.drop_eq_getElem_cons hk, itAt_get l k hk] at *
  rw [walkP, if_pos h]
theorem walkP_no {t : Tm} {l : List Int} {k : Nat} (hk : k < l.length) (h : ¬ (0 ≤ itAt l k ∧ itAt l k < (t.kids.length : Int))) : walkP t (l.drop k) = none := by
  rw [List.drop_eq_getElem_cons hk, itAt_get l k hk] at *
  rw [walkP, if_neg h]

/-- Whether a path leads to a term within a term. -/
def atB (t : Tm) (l : List Int) : Bool := isTermB t && (walkP t l).isSome
def atR (t : Tm) (l : List Int) : Tm := (walkP t l).getD tm0
theorem atB_no {t : Tm} {l : List Int} (h : isTermB t = false) : atB t l = false := by simp [atB, h]
theorem atB_none {t : Tm} {l : List Int} (h : walkP t l = none) : atB t l = false := by simp [atB, h]
theorem atB_some {t u : Tm} {l : List Int} (h1 : isTermB t = true) (h : walkP t l = some u) : atB t l = true ∧ atR t l = u := by simp [atB, atR, h, h1]
theorem walk_term : ∀ {l : List Int} {t u : Tm}, isTermB t = true → walkP t l = some u → isTermB u = true
  | [], t, u, ht, h => by
    rw [walkP_nil] at h
    injection h with h
    exact h ▸ ht
  | i :: r, t, u, ht, h => by
    rw [walkP] at h
    split at h
    · rename_i hi
      exact walk_term (kid_term ht (by omega)) h
    · cases h
theorem at_term {t : Tm} {l : List Int} (h : atB t l = true) : isTermB (atR t l) = true := by
  unfold atB at h
  simp only [Bool.and_eq_true] at h
  obtain ⟨h1, h2⟩ := h
  cases hw : walkP t l with
  | none => rw [hw] at h2; cases h2
  | some u => unfold atR; rw [hw]; exact walk_term h1 hw

/-- Bounds of what is a term. -/
theorem cnt_term {t : Tm} (h : isTermB t = true) : cntT t ≤ 10000 := by
  have h1 := cnt_ok (okP_good (term_good h))
  have h2 : (40 + 1) * szT t ≤ 41 * 60 := Nat.mul_le_mul (by decide) (term_size h)
  omega
theorem fit_orB {r : Tm} {b : Bool} (h : b = true → isTermB r = true) : Fit (orT r b) := by
  cases b with
  | false => rw [orT_no]; exact fit_of _ (by decide)
  | true => exact fit_of _ (by have := cnt_term (h rfl); show cntT r ≤ 1048576; omega)
theorem mc_orB {r : Tm} {b : Bool} (h : b = true → isTermB r = true) : mcR (orT r b) ≤ 2097152 := by
  cases b with
  | false => rw [orT_no]; decide
  | true =>
    show mcR r ≤ 2097152
    have h1 := cnt_term (h rfl)
    have h2 := mcTs_le r.kids
    have h3 := cntT_eq r
    unfold mcR
    omega

/-- Acting with nothing changes no term. -/
theorem imgL_nil (n : Int) : imgL [] n = n := imgL_out (by simp [froms])
theorem thenL_nil {q : List (Int × Int)} (h : permB q = true) : thenL [] q = q := by
  have hp := isP_of h
  refine same_img (asc_thenL [] q) hp.asc (moves_thenL [] q) hp.mv fun a => ?_
  rw [img_thenL, imgL_nil]
mutual
theorem actT_nil : ∀ {t : Tm}, goodT t = true → actT [] t = t
  | .mk o n p ks, h => by
    rw [goodT_eq, Bool.and_eq_true] at h
    rw [actT, actTs_nil (ts := ks) h.2, imgL_nil, ite_self]
    by_cases h4 : o = 4
    · rw [if_pos h4]
      have h1 := h.1
      unfold shapeB at h1
      rw [op_mk, if_neg (by omega), if_neg (by omega), if_neg (by omega), if_pos h4] at h1
      simp only [Bool.and_eq_true] at h1
      rw [thenL_nil (q := p) h1.2.1]
    · rw [if_neg h4]
theorem actTs_nil : ∀ {ts : List Tm}, goodTs ts = true → actTs [] ts = ts
  | [], _ => rfl
  | t :: r, h => by
    rw [goodTs, Bool.and_eq_true] at h
    rw [actTs, actT_nil h.1, actTs_nil h.2]
end
end Go.Proofs.Ytnomidnjglbedaa
end

