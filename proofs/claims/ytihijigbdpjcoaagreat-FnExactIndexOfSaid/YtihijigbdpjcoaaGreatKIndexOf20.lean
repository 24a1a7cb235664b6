/-
  A row of numbers is put behind rows of the call's own: as a law for the walk; all patterns, in plain words.
-/
import Derived.Test.YtihijigbdpjcoaaGreatKIndexOf19
import Derived.Test.YtihijigbdpjcoaaGreatKIndexOf14
import Derived.Deep.AppendLies
namespace Go.Proofs.YtihijigbdpjcoaaGreat
open Go.RowKit Go.Sort
set_option linter.unusedVariables false

/-- A copy of numbers that are there, or of nil. -/
theorem l1Copy_ints (A : Option Addr) (c : Nat) (l : List Int) (w : World) (hA : IntsAt w A l) (hz : A = none → c = 0) (hl : l.length ≤ 1099511627776) :
    Calls Tryz.prog 67 #[.slice A l.length c] w (NewInts l w) := by
  have hb : Below w.heap.size w (w.alloc (.cells #[] 3)) := (Below.refl _ _).alloc (Nat.le_refl _) _
  have ho : (w.alloc (.cells #[] 3)).ownsRow w.heap.size 3 1 (.slice (some ⟨w.heap.size, 0, none⟩) 0 0) 0 [] := World.ownsRow_lit w #[] 0 (Nat.le_refl _) (by decide) rfl
  have hA2 := hA.below hb
  clear hA
  go_enter Tryz.func67, Tryz.ntmps67
  go_wp2_with (at_builtin; refine wpList_append_ints rfl (.tmp 3) (.tmp 4) rfl w.heap.size _ 0 [] rfl ho A c l rfl hA2 hz ?c3 ?c5 ?_)
  case c3 => omega
  case c5 => simp
  intro v2 w2 ho3 hg
  have hb4 : Below w.heap.size w w2 := below_own hb ho (Nat.le_refl _) (by simp) hg
  clear ho hg hb hA2
  go_wp2
  go_ret
  exact ⟨_, rfl, by simpa using ho3, hb4⟩

end Go.Proofs.YtihijigbdpjcoaaGreat
