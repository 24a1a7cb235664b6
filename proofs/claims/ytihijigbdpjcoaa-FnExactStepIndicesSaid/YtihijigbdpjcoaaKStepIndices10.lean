/-
  All terms within a term, in the program, as contracts. IsTerm in the program, as a contract.
-/
import Derived.Test.YtihijigbdpjcoaaKStepIndices3
import Derived.Laws.AppendOwnNone
import Derived.Maps.AppendAt
namespace Go.Proofs.Ytihijigbdpjcoaa
section
open Go.RowKit Go.Sort

theorem own_row_form {w : World} {base : Nat} {e : TypeId} {size n : Nat} {v : Value} {xs : List Value} (h : w.ownsRow base e size v n xs) (hn : 0 < n) : ∃ g cap, v = .slice (some ⟨g, 0, none⟩) n cap := by
  rcases h.2 with ⟨_, h0⟩ | ⟨g, cap, cur, rfl, _⟩
  · omega
  · exact ⟨g, cap, rfl⟩

end

section
open Go.RowKit Go.Sort

end
end Go.Proofs.Ytihijigbdpjcoaa
