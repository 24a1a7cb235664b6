/-
  A node with what a function makes of each kid, in the program, as a contract. The term of a form, in the program, as contracts. The term of a form, unless it would be none: in the program, as a contract.
-/
import Derived.Test.YtnomidnjglbedaaKAreRules10
import Derived.Test.YtnomidnjglbedaaKAreRules13
import Derived.Test.YtnomidnjglbedaaKAreRules9
import Derived.Test.YtnomidnjglbedaaKAreRules7
namespace Go.Proofs.Ytnomidnjglbedaa
section
open Go.RowKit Go.Sort
set_option linter.unusedVariables false

end

section
open Go.RowKit Go.Sort
set_option linter.unusedVariables false

end

section
open Go.RowKit Go.Sort
set_option linter.unusedVariables false

mutual
theorem cnt_ok {M : Nat} : ∀ {t : Tm}, OkP M t → cntT t + 1 ≤ (M + 1) * szT t
  | .mk o n p ks, h => by
    have h1 := cnts_ok h.2.2
    have h2 := h.2.1
    rw [cntT, szT, Nat.mul_add, Nat.mul_one]
    omega
theorem cnts_ok {M : Nat} : ∀ {ts : List Tm}, OkPs M ts → ts.length + sumT ts ≤ (M + 1) * szTs ts
  | [], _ => by simp [sumT, szTs]
  | t :: r, h => by
    have h1 := cnt_ok h.1
    have h2 := cnts_ok h.2
    rw [sumT, szTs, List.length_cons, Nat.mul_add]
    omega
end

end
end Go.Proofs.Ytnomidnjglbedaa
