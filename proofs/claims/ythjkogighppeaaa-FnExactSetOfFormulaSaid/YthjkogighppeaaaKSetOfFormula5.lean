/-
  The size of a term that the laws count, as contracts. The laws' own copy of a term, as contracts. Numbering the cells of a term that is handed over by value, as a contract.
-/
import Derived.Test.YthjkogighppeaaaKSetOfFormula2
import Derived.Test.YthjkogighppeaaaKSetOfFormula4
import Derived.BigQuiet
import Derived.Lib.QuietBelow
import Derived.Test.YthjkogighppeaaaKSetOfFormula3
section
namespace Go.Proofs.Ythjkogighppeaaa
open Go.RowKit Go.Sort

/-- What is left of a bound. -/
def leftR (left : Int) (c : Nat) : Int := if (c : Int) ≤ left then left - c else -1

theorem leftR_yes {left : Int} {c : Nat} (h : (c : Int) ≤ left) : leftR left c = left - c := by simp [leftR, h]
theorem leftR_no {left : Int} {c : Nat} (h : ¬ (c : Int) ≤ left) : leftR left c = -1 := by simp [leftR, h]

/-- The answer, and new blocks at most. -/
def LeftPost (left : Int) (c : Nat) (w : World) (e : Ending) (w' : World) : Prop := e = .returned (.int .i64 (leftR left c)) ∧ Below w.heap.size w w'

theorem LeftPost.later {left : Int} {c : Nat} {w w1 w2 : World} {e : Ending} (h : LeftPost left c w1 e w2) (hb : Below w.heap.size w w1) : LeftPost left c w e w2 := ⟨h.1, hb.trans (h.2.mono hb.size)⟩

mutual
/-- .. anywhere within. -/
def Short : Tm → Prop
  | .mk _ _ p ks => p.length ≤ maxLen ∧ ks.length ≤ maxLen ∧ Shorts ks
def Shorts : List Tm → Prop
  | [] => True
  | t :: r => Short t ∧ Shorts r
end

end Go.Proofs.Ythjkogighppeaaa
end

section
namespace Go.Proofs.Ythjkogighppeaaa
open Go.RowKit Go.Sort

theorem OwnL.setOther {w : World} {S : List Nat} {vs : List Value} {ms : List Mem} (h : OwnL w S vs ms) (a : Addr) (u : Value) (hb : ∀ b ∈ S, b ≠ a.block) : OwnL (w.setCell a u) S vs ms :=
  h.alike fun b hb' => Below.heap_setCell w a u b (hb b hb')

theorem take_set4 {xs : List Value} {j : Nat} {a b c d : Value} (h : j + 4 ≤ xs.length) : ((((xs.set j a).set (j + 1) b).set (j + 2) c).set (j + 3) d).take (j + 4) = xs.take j ++ [a, b, c, d] := by
  apply List.ext_getElem?
  intro i
  rw [List.getElem?_take]
  by_cases hi : i < j + 4
  · rw [if_pos hi]
    by_cases h1 : i < j
    · rw [List.getElem?_append_left (by rw [List.length_take]; omega), List.getElem?_take, if_pos h1]
      simp [show ¬ j + 3 = i by omega, show ¬ j + 2 = i by omega, show ¬ j + 1 = i by omega, show ¬ j = i by omega]
    · rw [List.getElem?_append_right (by rw [List.length_take]; omega), List.length_take, show min j xs.length = j by omega]
      have hc : i = j ∨ i = j + 1 ∨ i = j + 2 ∨ i = j + 3 := by omega
      rcases hc with rfl | rfl | rfl | rfl
      · simp [show i < xs.length by omega]
      · simp [show j + 1 < xs.length by omega, show j + 1 - j = 1 by omega]
      · simp [show j + 2 < xs.length by omega, show j + 2 - j = 2 by omega]
      · simp [show j + 3 < xs.length by omega, show j + 3 - j = 3 by omega]
  · rw [if_neg hi, List.getElem?_eq_none (by rw [List.length_append, List.length_take]; simp; omega)]

theorem OwnL.kept {w w' : World} {S : List Nat} {vs : List Value} {ms : List Mem} {row : Option Nat} (h : OwnL w S vs ms) (hg : w.grownBy w' row) (hn : ∀ b ∈ S, some b ≠ row) : OwnL w' S vs ms :=
  h.alike fun b hb => hg.block b (h.lt b hb) (hn b hb)

end Go.Proofs.Ythjkogighppeaaa
end

section
namespace Go.Proofs.Ythjkogighppeaaa
open Go.RowKit

mutual
theorem mcT_le : ∀ t : Tm, mcT t ≤ 2 + 2 * cntT t
  | .mk o n p ks => by
    have := mcTs_le ks
    rw [mcT, cntT]; omega
theorem mcTs_le : ∀ ts : List Tm, mcTs ts ≤ 2 * (ts.length + sumT ts)
  | [] => by simp [mcTs]
  | t :: r => by
    have h1 := mcT_le t
    have h2 := mcTs_le r
    rw [mcTs, sumT, List.length_cons]; omega
end

end Go.Proofs.Ythjkogighppeaaa
end

