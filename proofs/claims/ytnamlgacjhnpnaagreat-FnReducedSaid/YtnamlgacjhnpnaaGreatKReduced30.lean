/-
  ExtendSet of both sides, as contracts. l6Both of the model: what is in one of two orbit sets, or in both, as a contract.
-/
import Derived.Test.YtnamlgacjhnpnaaGreatKReduced21
import Derived.Test.YtnamlgacjhnpnaaGreatKReduced19
import Derived.Test.YtnamlgacjhnpnaaGreatKReduced18
section
namespace Go.Proofs.YtnamlgacjhnpnaaGreat
open Go.RowKit Go.Sort
set_option linter.unusedVariables false

end Go.Proofs.YtnamlgacjhnpnaaGreat
end

section
namespace Go.Proofs.YtnamlgacjhnpnaaGreat
open Go.RowKit Go.Sort
set_option linter.unusedVariables false

theorem orb_parts {w : World} {S : List Nat} {z : Int} {l : List Int} {m : List (List Int)} {A B : Option Addr} {c d : Nat} (h : OwnL w S [.int .i64 z, .slice A l.length c, .slice B m.length d] (encO z l m)) : ConstAt w A c l ∧ RowsIn w (.slice B m.length d) m := by
  obtain ⟨A', c', B', d', e, h1, h2, _⟩ := orbOut_ix h
  simp only [Value.agg.injEq, Array.mk.injEq, List.cons.injEq, Value.slice.injEq, and_true, true_and] at e
  obtain ⟨⟨rfl, rfl⟩, rfl, rfl⟩ := e
  exact ⟨h1, h2⟩

end Go.Proofs.YtnamlgacjhnpnaaGreat
end

