/-
  Drawn permutations and atoms, in the model, as contracts.
-/
import Derived.Test.YtnamlgacjhnpnaaGreatKReduced23
import Derived.Test.YtnamlgacjhnpnaaGreatKReduced4
import Derived.Test.YtnamlgacjhnpnaaGreatKReduced32
namespace Go.Proofs.YtnamlgacjhnpnaaGreat
open Go.RowKit Go.Sort

theorem isP_nil : IsP [] := ⟨by simp [froms, AscP], fun _ h => by simp at h, fun _ h => by simp [froms] at h, by simp [froms, tos]⟩

theorem isP_two {a b : Int} (h0 : 0 ≤ a) (h1 : b ≤ 999) (h : a < b) : IsP [(a, b), (b, a)] := by
  refine ⟨?_, ?_, ?_, ?_⟩
  · simp [froms, AscP, h]
  · intro x hx
    simp at hx
    rcases hx with rfl | rfl
    · show a ≠ b; omega
    · show b ≠ a; omega
  · intro x hx
    simp [froms] at hx
    omega
  · exact List.Perm.swap b a []

theorem isP_swap (a b : Int) : IsP (swapL a b) := by
  unfold swapL
  split
  · exact isP_nil
  · split
    · exact isP_two (by omega) (by omega) (by omega)
    · exact isP_two (by omega) (by omega) (by omega)

theorem swapL_len (a b : Int) : (swapL a b).length ≤ 2 := by
  unfold swapL
  split
  · simp
  · split <;> simp

theorem Cur.base {w : World} {B C : Nat} (h : Cur w B C) : B ≤ C := by obtain ⟨_, _, _, _, _, _, _, _, h, _⟩ := h; exact h

theorem BytesIn.below {w w' : World} {A : Option Addr} {n : Nat} (h : BytesIn w A n) (hb : Below w.heap.size w w') : BytesIn w' A n := by
  intro j hj
  obtain ⟨b, off, x, e, hlt, hx, hc⟩ := h j hj
  exact ⟨b, off, x, e, Nat.lt_of_lt_of_le hlt hb.size, hx, (hb.cell (p := ⟨b, off + j, none⟩) hlt).trans hc⟩

theorem below_drew {w w1 w' : World} {C : Nat} (hb : Below w.heap.size w w1) (hd : Drew w.heap.size C w1 w') : Below w.heap.size w w' :=
  hb.grown hd.2 hb.size fun k hk => by injection hk with hk; have := hd.1.base; omega

end Go.Proofs.YtnamlgacjhnpnaaGreat
