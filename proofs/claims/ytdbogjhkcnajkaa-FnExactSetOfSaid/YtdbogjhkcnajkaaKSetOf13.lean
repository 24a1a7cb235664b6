/-
  Orbit sets in the program: whether they are valid, as contracts.
-/
import Derived.Test.YtdbogjhkcnajkaaKSetOf9
import Derived.Test.YtdbogjhkcnajkaaKSetOf2
import Derived.Test.YtdbogjhkcnajkaaKSetOf4
namespace Go.Proofs.Ytdbogjhkcnajkaa
open Go.RowKit Go.Sort
set_option linter.unusedVariables false

theorem isWidth_any (z : Int) (w : World) :
    Calls Try.prog 62 #[.int .i64 z] w fun e w' => e = .returned (.bool (widB z)) ∧ w = w' := by
  by_cases h1 : 0 ≤ z
  · by_cases h2 : z ≤ 4
    · go_enter Try.func62, Try.ntmps62
      go_wp2
      go_ret
      exact ⟨bool_end (by simp [widB, h1, h2]), rfl⟩
    · have h3 : 4 < z := by omega
      clear h2
      go_enter Try.func62, Try.ntmps62
      go_wp2
      go_ret
      exact ⟨bool_end (by simp [widB]; omega), rfl⟩
  · have h3 : z < 0 := by omega
    clear h1
    go_enter Try.func62, Try.ntmps62
    go_wp2
    go_ret
    exact ⟨bool_end (by simp [widB]; omega), rfl⟩

end Go.Proofs.Ytdbogjhkcnajkaa
