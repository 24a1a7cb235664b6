/-
  The comparison of two pairs, in the program, as a contract. The comparison of two elements of contexts, in the program, as a contract. Whether a list of elements is a context, as the program decides it: a contract. Lists of elements of contexts in order: an element put in its place, lists joined, what is told by its members alone. Whether a list of elements is a context, as the model decides it: a contract.
-/
import Derived.Test.YtbfkfklaplgebaaGreatKApplySubstitution5
import Derived.StillTailTactics
import Derived.OwnWalk
import Derived.Laws.Pointers
import Derived.Sort.Grow
import Derived.Test.YtbfkfklaplgebaaGreatKApplySubstitution6
section
namespace Go.Proofs.YtbfkfklaplgebaaGreat
section
open Go.RowKit Go.Sort

end

section
open Go.RowKit Go.Sort
set_option linter.unusedVariables false

end
end Go.Proofs.YtbfkfklaplgebaaGreat
end

section
namespace Go.Proofs.YtbfkfklaplgebaaGreat
open Go.RowKit Go.Sort
set_option linter.unusedVariables false

def holeB (n : Int) : Bool := decide (0 ≤ n ∧ n ≤ 9)
theorem isHole_c (n : Int) (w : World) :
    Calls Tryz.prog 134 #[.int .i64 n] w fun e w' => e = .returned (.bool (holeB n)) ∧ w = w' := by
  by_cases h1 : 0 ≤ n
  · by_cases h2 : n ≤ 9
    · go_enter Tryz.func134, Tryz.ntmps134
      go_wp2
      go_ret
      exact ⟨bool_end (by simp [holeB, h1, h2]), rfl⟩
    · have k2 : decide (n ≤ 9) = false := by simpa using h2
      have k3 : 9 < n := by omega
      clear h2
      go_enter Tryz.func134, Tryz.ntmps134
      go_wp2
      go_ret
      exact ⟨bool_end (by simp [holeB]; omega), rfl⟩
  · have k1 : n < 0 := by omega
    clear h1
    go_enter Tryz.func134, Tryz.ntmps134
    go_wp2
    go_ret
    exact ⟨bool_end (by simp [holeB]; omega), rfl⟩

end Go.Proofs.YtbfkfklaplgebaaGreat
end

section
namespace Go.Proofs.YtbfkfklaplgebaaGreat
open Go.RowKit Go.Sort
set_option linter.unusedVariables false

end Go.Proofs.YtbfkfklaplgebaaGreat
end

section
namespace Go.Proofs.YtbfkfklaplgebaaGreat
open Go.RowKit Go.Sort
set_option linter.unusedVariables false

theorem l1In_is (a lo hi : Int) (b : Bool) (h : b = decide (lo ≤ a ∧ a ≤ hi)) (w : World) :
    Calls Tryz.prog 133 #[.int .i64 a, .int .i64 lo, .int .i64 hi] w fun e w' => e = .returned (.bool b) ∧ Below w.heap.size w w' := by
  by_cases h1 : lo ≤ a
  · by_cases h2 : a ≤ hi
    · have hb : Hid (b = true) := by rw [h]; show decide _ = true; simp [h1, h2]
      clear h
      go_enter Tryz.func133, Tryz.ntmps133
      go_wp2
      go_ret
      exact ⟨bool_end hb.out.symm, Below.refl _ _⟩
    · have k3 : hi < a := by omega
      have hb : Hid (b = false) := by rw [h]; show decide _ = false; simp; omega
      clear h2 h
      go_enter Tryz.func133, Tryz.ntmps133
      go_wp2
      go_ret
      exact ⟨bool_end ((decide_eq_false (by omega)).trans hb.out.symm), Below.refl _ _⟩
  · have k1 : a < lo := by omega
    have hb : Hid (b = false) := by rw [h]; show decide _ = false; simp; omega
    clear h1 h
    go_enter Tryz.func133, Tryz.ntmps133
    go_wp2
    go_ret
    exact ⟨bool_end hb.out.symm, Below.refl _ _⟩

end Go.Proofs.YtbfkfklaplgebaaGreat
end

