/-
  The comparison of two forms without holes, in the program, as contracts. Canonical terms: plain words. Paths, and terms that come of terms: plain words, no program is walked here. A term put in the place of an atom: plain words, no program is walked here. A form put in the place of an atom, in the program, as contracts. A form put in the place of an atom, in the program, as contracts: the walk over the form. The canonical form of a form, in the program, as a contract.
-/
import Derived.Test.YtbfkfklaplgebaaGreatKHoldsFor16
import Derived.Test.YtbfkfklaplgebaaGreatKHoldsFor23
import Derived.Test.YtbfkfklaplgebaaGreatKHoldsFor24
import Derived.Test.YtbfkfklaplgebaaGreatKHoldsFor13
import Derived.Test.YtbfkfklaplgebaaGreatKHoldsFor7
import Derived.Test.YtbfkfklaplgebaaGreatKHoldsFor9
import Derived.Test.YtbfkfklaplgebaaGreatKHoldsFor17
section
namespace Go.Proofs.YtbfkfklaplgebaaGreat
open Go.RowKit Go.Sort Go.ChangeShapes Go.WideShapes
set_option linter.unusedVariables false
attribute [local go_sem] ask_atom_atom ask_atom_node ask_atom_bind ask_atom_hole ask_node_atom ask_node_node ask_node_bind ask_node_hole ask_bind_atom ask_bind_node ask_bind_bind ask_bind_hole ask_hole_atom ask_hole_node ask_hole_bind ask_hole_hole

theorem gfield_bind (n : Int) (T : TypeId) (x : Value) (w : World) : (Instr.field 147 (.agg #[.int .i64 n, .iface T x]) 1).run Tryz.prog w = .ok (.iface T x) w := by kernel_rfl
attribute [local go_sem] gfield_bind

theorem gty_1 (m : Int) : fty (.mk 1 m [] []) = 139 := rfl
theorem gty_2 (m : Int) (ks : List Tm) : fty (.mk 2 m [] ks) = 143 := rfl
theorem gty_3 (m : Int) (k : Tm) : fty (.mk 3 m [] [k]) = 147 := rfl
theorem gty_4 (m : Int) (p : List (Int × Int)) : fty (.mk 4 m p []) = 83 := rfl
mutual
theorem holesB_act (p : List (Int × Int)) : ∀ t : Tm, holesB (actT p t) = holesB t
  | .mk o n q ks => by rw [actT, holesB, holesB, holesBs_act p ks]
theorem holesBs_act (p : List (Int × Int)) : ∀ ts : List Tm, holesBs (actTs p ts) = holesBs ts
  | [] => by simp [actTs]
  | t :: r => by rw [actTs, holesBs, holesBs, holesB_act p t, holesBs_act p r]
end
end Go.Proofs.YtbfkfklaplgebaaGreat
end

section
namespace Go.Proofs.YtbfkfklaplgebaaGreat
open Go.RowKit Go.Sort
set_option linter.unusedVariables false

theorem tmAt_map (f : Tm → Tm) : ∀ {ks : List Tm} {i : Nat}, i < ks.length → tmAt (ks.map f) i = f (tmAt ks i)
  | [], i, h => by simp at h
  | t :: r, 0, _ => by rw [List.map_cons, tmAt_cons_zero, tmAt_cons_zero]
  | t :: r, i + 1, h => by rw [List.map_cons, tmAt_cons_succ, tmAt_cons_succ, tmAt_map f (ks := r) (by simpa using h)]
end Go.Proofs.YtbfkfklaplgebaaGreat
end

section
namespace Go.Proofs.YtbfkfklaplgebaaGreat
open Go.RowKit Go.Sort
set_option linter.unusedVariables false

/-- Bounds of what is a term. -/
theorem cnt_term {t : Tm} (h : isTermB t = true) : cntT t ≤ 10000 := by
  have h1 := cnt_ok (okP_good (term_good h))
  have h2 : (40 + 1) * szT t ≤ 41 * 60 := Nat.mul_le_mul (by decide) (term_size h)
  omega
/-- Acting with nothing changes no term. -/
theorem imgL_nil (n : Int) : imgL [] n = n := imgL_out (by simp [froms])
theorem thenL_nil {q : List (Int × Int)} (h : permB q = true) : thenL [] q = q := by
  have hp := isP_of h
  refine same_img (asc_thenL [] q) hp.asc (moves_thenL [] q) hp.mv fun a => ?_
  rw [img_thenL, imgL_nil]
mutual
theorem actT_nil : ∀ {t : Tm}, goodT t = true → actT [] t = t
  | .mk o n p ks, h => by
    rw [goodT_eq, Bool.and_eq_true] at h
    rw [actT, actTs_nil (ts := ks) h.2, imgL_nil, ite_self]
    by_cases h4 : o = 4
    · rw [if_pos h4]
      have h1 := h.1
      unfold shapeB at h1
      rw [op_mk, if_neg (by omega), if_neg (by omega), if_neg (by omega), if_pos h4] at h1
      simp only [Bool.and_eq_true] at h1
      rw [thenL_nil (q := p) h1.2.1]
    · rw [if_neg h4]
theorem actTs_nil : ∀ {ts : List Tm}, goodTs ts = true → actTs [] ts = ts
  | [], _ => rfl
  | t :: r, h => by
    rw [goodTs, Bool.and_eq_true] at h
    rw [actTs, actT_nil h.1, actTs_nil h.2]
end
end Go.Proofs.YtbfkfklaplgebaaGreat
end

section
namespace Go.Proofs.YtbfkfklaplgebaaGreat
open Go.RowKit Go.Sort
set_option linter.unusedVariables false

end Go.Proofs.YtbfkfklaplgebaaGreat
end

section
namespace Go.Proofs.YtbfkfklaplgebaaGreat
open Go.RowKit Go.Sort Go.ChangeShapes Go.WideShapes
set_option linter.unusedVariables false
attribute [local go_sem] ask_atom_atom ask_atom_node ask_atom_bind ask_atom_hole ask_node_atom ask_node_node ask_node_bind ask_node_hole ask_bind_atom ask_bind_node ask_bind_bind ask_bind_hole ask_hole_atom ask_hole_node ask_hole_bind ask_hole_hole

end Go.Proofs.YtbfkfklaplgebaaGreat
end

section
namespace Go.Proofs.YtbfkfklaplgebaaGreat
open Go.RowKit Go.Sort Go.ChangeShapes Go.WideShapes
set_option linter.unusedVariables false
attribute [local go_sem] ask_atom_atom ask_atom_node ask_atom_bind ask_atom_hole ask_node_atom ask_node_node ask_node_bind ask_node_hole ask_bind_atom ask_bind_node ask_bind_bind ask_bind_hole ask_hole_atom ask_hole_node ask_hole_bind ask_hole_hole

end Go.Proofs.YtbfkfklaplgebaaGreat
end

section
namespace Go.Proofs.YtbfkfklaplgebaaGreat
open Go.RowKit Go.Sort Go.ChangeShapes Go.WideShapes
set_option linter.unusedVariables false
attribute [local go_sem] ask_atom_atom ask_atom_node ask_atom_bind ask_atom_hole ask_node_atom ask_node_node ask_node_bind ask_node_hole ask_bind_atom ask_bind_node ask_bind_bind ask_bind_hole ask_hole_atom ask_hole_node ask_hole_bind ask_hole_hole

end Go.Proofs.YtbfkfklaplgebaaGreat
end

