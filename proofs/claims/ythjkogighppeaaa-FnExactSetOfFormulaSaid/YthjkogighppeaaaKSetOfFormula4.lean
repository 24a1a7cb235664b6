/-
  The law's own copies of an argument: its size is counted, each pair is copied, as contracts. Numbering the cells of a list of pairs, and looking whether they are still numbered so, as contracts. Numbering the cells of terms, and looking whether they are still numbered so, as contracts. Looking whether terms are still numbered, as contracts.
-/
import Derived.Test.YthjkogighppeaaaKSetOfFormula2
import Derived.WalkLawsBesides
import Derived.WalkSpells
section
namespace Go.Proofs.Ythjkogighppeaaa
open Go.RowKit

end Go.Proofs.Ythjkogighppeaaa
end

section
namespace Go.Proofs.Ythjkogighppeaaa
open Go.RowKit

end Go.Proofs.Ythjkogighppeaaa
end

section
namespace Go.Proofs.Ythjkogighppeaaa
open Go.RowKit

/-- Of what was there only some blocks have turned. -/
structure Only (S : List Nat) (w w' : World) : Prop where
  os : w'.os = w.os
  tape : w'.tape = w.tape
  output : w'.output = w.output
  size : w.heap.size ≤ w'.heap.size
  block : ∀ k, k < w.heap.size → k ∉ S → w'.heap[k]? = w.heap[k]?

theorem Only.refl (S : List Nat) (w : World) : Only S w w := ⟨rfl, rfl, rfl, Nat.le_refl _, fun _ _ _ => rfl⟩
theorem Only.trans {S : List Nat} {a b c : World} (h : Only S a b) (k : Only S b c) : Only S a c :=
  ⟨k.os.trans h.os, k.tape.trans h.tape, k.output.trans h.output, Nat.le_trans h.size k.size, fun i hi hn => (k.block i (Nat.lt_of_lt_of_le hi h.size) hn).trans (h.block i hi hn)⟩
theorem Only.wide {S T : List Nat} {a b : World} (h : Only S a b) (hs : ∀ k ∈ S, k ∈ T) : Only T a b :=
  ⟨h.os, h.tape, h.output, h.size, fun i hi hn => h.block i hi fun hs' => hn (hs i hs')⟩
theorem Only.of_grown {S : List Nat} {a b : World} {row : Option Nat} (h : a.grownBy b row) (hs : ∀ k, row = some k → k ∈ S) : Only S a b :=
  ⟨h.os, h.tape, h.output, h.size, fun i hi hn => h.block i hi fun e => hn (hs i e.symm)⟩
theorem Only.set {S : List Nat} {a w : World} (h : Only S a w) (p : Addr) (u : Value) (hp : p.block ∈ S) : Only S a (w.setCell p u) := by
  have hb := Below.setCell (Below.refl 0 w) (p := p) (Nat.zero_le _) u
  exact ⟨hb.os.trans h.os, hb.tape.trans h.tape, hb.output.trans h.output, Nat.le_trans h.size hb.size, fun i hi hn => (Below.heap_setCell w p u i (fun e => hn (by rw [e]; exact hp))).trans (h.block i hi hn)⟩
theorem Only.below {S : List Nat} {B : Nat} {a w w' : World} (hb : Below B a w) (h : Only S w w') (hB : B ≤ w.heap.size) (hs : ∀ k ∈ S, B ≤ k) : Below B a w' :=
  ⟨h.os.trans hb.os, h.tape.trans hb.tape, h.output.trans hb.output, Nat.le_trans hb.size h.size, fun k hk => (h.block k (by omega) fun hm => by have := hs k hm; omega).trans (hb.block k hk)⟩

theorem only_of_below {S : List Nat} {w w' : World} (h : Below w.heap.size w w') : Only S w w' := Only.of_grown (grown_of_below h none) (fun k e => by cases e)

/-- A row of other blocks stays while those of a term are written. -/
theorem own_only {S : List Nat} {w w' : World} {base : Nat} {e : TypeId} {size n : Nat} {v : Value} {xs : List Value} (h : w.ownsRow base e size v n xs) (ho : Only S w w') (hn : ∀ k, v.ownBlock = some k → k ∉ S) : w'.ownsRow base e size v n xs := by
  refine ⟨h.1, ?_⟩
  rcases h.2 with hz | ⟨g, cap, cur, rfl, hb, hc, rest⟩
  · exact .inl hz
  · refine .inr ⟨g, cap, cur, rfl, hb, ?_, rest⟩
    rw [ho.block g (Array.getElem?_eq_some_iff.1 hc).1 (hn g rfl)]
    exact hc

/-- Pairs numbered from k on. -/
def mkP (k : Int) : List (Int × Int) → List (Int × Int)
  | [] => []
  | _ :: r => (k, k + 1) :: mkP (k + 2) r

mutual
/-- How many numbers a term in a list takes. -/
def mcT : Tm → Nat
  | .mk _ _ p ks => 2 + p.length * 2 + mcTs ks
def mcTs : List Tm → Nat
  | [] => 0
  | t :: r => mcT t + mcTs r
end
mutual
/-- Terms numbered from k on. -/
def mkT (k : Int) : Tm → Tm
  | .mk _ _ p ks => .mk k (k + 1) (mkP (k + 1 + 1) p) (mkTs (k + 1 + 1 + p.length * 2) ks)
def mkTs (k : Int) : List Tm → List Tm
  | [] => []
  | t :: r => mkT k t :: mkTs (k + mcT t) r
end

end Go.Proofs.Ythjkogighppeaaa
end

section
namespace Go.Proofs.Ythjkogighppeaaa
open Go.RowKit

end Go.Proofs.Ythjkogighppeaaa
end

