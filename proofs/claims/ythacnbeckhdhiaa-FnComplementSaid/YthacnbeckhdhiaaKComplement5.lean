/-
  The size of a term that the laws count, as contracts. The laws' own copy of a term, as contracts.
-/
import Derived.Test.YthacnbeckhdhiaaKComplement1
import Derived.Test.YthacnbeckhdhiaaKComplement3
import Derived.BigQuiet
import Derived.Lib.QuietBelow
section
namespace Go.Proofs.Ythacnbeckhdhiaa
open Go.RowKit Go.Sort

mutual
/-- .. anywhere within. -/
def Short : Tm → Prop
  | .mk _ _ p ks => p.length ≤ maxLen ∧ ks.length ≤ maxLen ∧ Shorts ks
def Shorts : List Tm → Prop
  | [] => True
  | t :: r => Short t ∧ Shorts r
end

end Go.Proofs.Ythacnbeckhdhiaa
end

section
namespace Go.Proofs.Ythacnbeckhdhiaa
open Go.RowKit Go.Sort

theorem OwnL.kept {w w' : World} {S : List Nat} {vs : List Value} {ms : List Mem} {row : Option Nat} (h : OwnL w S vs ms) (hg : w.grownBy w' row) (hn : ∀ b ∈ S, some b ≠ row) : OwnL w' S vs ms :=
  h.alike fun b hb => hg.block b (h.lt b hb) (hn b hb)

end Go.Proofs.Ythacnbeckhdhiaa
end

