/-
  maps.Keys over a set of elements: its iterator stops as it should, for every loop body.
-/
import Derived.Test.YtddmoempagcjeaaNeedK
import Derived.RangeFuncSeq
import Derived.RangeFuncStops
import Derived.Sort.MapsRangeIn
import Derived.WalkKit
import Derived.OwnWalkIn
import Derived.TacticsInMore
import Derived.RegionIn
import Derived.LoopNIn
import Derived.LoopIn
namespace Go.Proofs.Ytddmoempagcjeaa
open Go.RowKit Go.Sort Go.Maps
set_option linter.unusedVariables false

/-- The elements that have come: each once, exactly those whose keys are no longer left. -/
def CameF (D0 : DataW Unit) (left : Lit → Bool) (ss : List (Int × Int)) : Prop :=
  ss.Nodup ∧ (∀ x ∈ ss, okF x) ∧ ∀ x, okF x → (x ∈ ss ↔ (has D0 (keyF x) = true ∧ left (keyF x) = false))

theorem CameF.start (D0 : DataW Unit) : CameF D0 (has D0) [] := ⟨List.nodup_nil, by simp, fun x _ => by cases has D0 (keyF x) <;> simp⟩

theorem CameF.step {D0 : DataW Unit} {left : Lit → Bool} {ss : List (Int × Int)} (w : World) (h : CameF D0 left ss) {x : Int × Int} {y : DataW Unit} (hok : okF x) (hlk : left (keyF x) = true) (hat : ∀ zd, D0.atKey (keyF x) zd = y) :
    CameF D0 (fun z => left z && !z.sameKey (keyF x)) (ss ++ [x]) := by
  have hhas : has D0 (keyF x) = true := has_true_of_atKey hat
  have hnew : x ∉ ss := fun hx => by have := ((h.2.2 x hok).1 hx).2; rw [hlk] at this; cases this
  refine ⟨List.nodup_append.2 ⟨h.1, by simp, fun a ha b hb => by simp at hb; subst hb; exact fun e => hnew (e ▸ ha)⟩, ?_, fun z hz => ?_⟩
  · intro z hz
    rcases List.mem_append.1 hz with h1 | h1
    · exact h.2.1 z h1
    · simp at h1; subst h1; exact hok
  · by_cases hy : z = x
    · subst hy
      simp [hhas, WideAt.sameKey_self (frKeyed.key (keyF_of w hok))]
    · have hne : (keyF z).sameKey (keyF x) = false := sameKey_ne (fun e => hy (keyF_inj w hz hok e))
      simp [h.2.2 z hz, hy, hne]

end Go.Proofs.Ytddmoempagcjeaa
