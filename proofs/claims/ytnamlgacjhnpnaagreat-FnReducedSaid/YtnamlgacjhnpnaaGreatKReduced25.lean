/-
  Numbers sorted, each once, also of none: in the program, as a contract.
-/
import Derived.Test.YtnamlgacjhnpnaaGreatKReduced23
import Derived.Test.YtnamlgacjhnpnaaGreatKReduced24
namespace Go.Proofs.YtnamlgacjhnpnaaGreat
open Go.RowKit Go.Sort
set_option linter.unusedVariables false

theorem compact_none (w : World) : Calls Tryz.prog 80 #[.slice none 0 0] w fun e w' => e = .returned (.slice none 0 0) ∧ w = w' := by
  go_enter Tryz.func80, Tryz.ntmps80
  go_wp2
  go_ret
  exact ⟨rfl, rfl⟩

set_option maxRecDepth 100000 in
set_option maxHeartbeats 2000000 in
theorem ascending_rows (base : Nat) (v : Value) (Z : List Int) (w : World) (ho : w.ownsRow base 3 1 v Z.length (icells Z)) (hbs : base ≤ w.heap.size) (hzl : Z.length ≤ 1099511627776) :
    Calls Tryz.prog 37 #[v] w fun e w' => ∃ v', e = .returned v' ∧ w'.ownsRow base 3 1 v' (insAll [] Z).length (icells (insAll [] Z)) ∧ Below base w w' := by
  rcases ho.2 with ⟨rfl, h0⟩ | ⟨g, cap, cur, rfl, hg, _⟩
  · have e : Z = [] := List.eq_nil_of_length_eq_zero h0
    subst e
    have hs := fun W => Tryz.slices_Sort_int_none none 0 W
    have hc := compact_none
    go_enter Tryz.func37, Tryz.ntmps37
    go_wp2_with (first
      | (go_at_call 79; refine (hs _).mono ?_; rintro e w2 ⟨rfl, rfl⟩)
      | (go_at_call 80; refine (hc _).mono ?_; rintro e w2 ⟨rfl, rfl⟩))
    go_ret
    exact ⟨_, rfl, ⟨rfl, .inl ⟨rfl, rfl⟩⟩, Below.refl _ _⟩
  · refine (ascending_any base g cap Z w ho hzl).mono ?_
    rintro e w' ⟨rfl, ho1, hg1⟩
    exact ⟨_, rfl, ho1, (Below.refl _ _).grown hg1 hbs (fun k hk => by have := (ho.lt k hk).1; exact this)⟩
end Go.Proofs.YtnamlgacjhnpnaaGreat
