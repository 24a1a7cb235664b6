/-
  Drawn permutations and atoms, in the model, as contracts.
-/
import Derived.Test.YtcginiklekdbgaaKCountWords12
import Derived.Test.YtcginiklekdbgaaKCountWords3
import Derived.Test.YtcginiklekdbgaaKCountWords13
namespace Go.Proofs.Ytcginiklekdbgaa
open Go.RowKit Go.Sort

theorem Cur.base {w : World} {B C : Nat} (h : Cur w B C) : B ≤ C := by obtain ⟨_, _, _, _, _, _, _, _, h, _⟩ := h; exact h

theorem BytesIn.below {w w' : World} {A : Option Addr} {n : Nat} (h : BytesIn w A n) (hb : Below w.heap.size w w') : BytesIn w' A n := by
  intro j hj
  obtain ⟨b, off, x, e, hlt, hx, hc⟩ := h j hj
  exact ⟨b, off, x, e, Nat.lt_of_lt_of_le hlt hb.size, hx, (hb.cell (p := ⟨b, off + j, none⟩) hlt).trans hc⟩

theorem below_drew {w w1 w' : World} {C : Nat} (hb : Below w.heap.size w w1) (hd : Drew w.heap.size C w1 w') : Below w.heap.size w w' :=
  hb.grown hd.2 hb.size fun k hk => by injection hk with hk; have := hd.1.base; omega

end Go.Proofs.Ytcginiklekdbgaa
