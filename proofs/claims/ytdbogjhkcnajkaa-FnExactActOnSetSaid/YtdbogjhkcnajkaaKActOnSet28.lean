/-
  What gives back, in the model, as contracts.
-/
import Derived.Test.YtdbogjhkcnajkaaKActOnSet22
import Derived.StillTactics
import Derived.OwnWalk
import Derived.Laws.Pointers
import Derived.Deep.RegionHeld3
import Derived.Deep.AppendLies
import Derived.Deep.DrawnRows
namespace Go.Proofs.Ytdbogjhkcnajkaa
open Go.RowKit Go.Sort
attribute [local go_sem ↓] Go.wp_at_zero Go.wp_at_succ

set_option maxHeartbeats 400000 in
theorem l1Back_any (A : Option Addr) (c : Nat) (l : List (Int × Int)) (a : Int) (w : World) (hA : PairsAt w A l) (hl : l.length ≤ 1099511627776) :
    Calls Try.prog 98 #[.slice A l.length c, .int .i64 a] w fun e w' => e = .returned (.int .i64 (backL l a)) ∧ w' = w := by
  go_enter Try.func98, Try.ntmps98
  go_wp2
  go_loop [5] (fun i => ∃ k : Nat, k ≤ l.length ∧ i = .int .i64 k ∧ Hid (∀ j, j < k → (prAt l j).2 ≠ a)) (fun i => l.length - (intOf i).toNat)
  case atStart => exact ⟨0, Nat.zero_le _, rfl, fun j hj => absurd hj (by omega)⟩
  case round =>
    obtain ⟨k, hk, rfl, hq⟩ := hrel
    by_cases hlt : k < l.length
    · obtain ⟨b1, o1, rfl, hb1, hc1⟩ := hA (by omega)
      obtain ⟨c1, c2⟩ := hc1 k hlt
      clear hc1 hA
      by_cases he : ((prAt l k).2 == a) = true
      · have hres : Hid (backL l a = (prAt l k).1) := backL_at l a k hlt hq.out (by simpa using he)
        generalize prAt l k = p at c1 c2 he hres
        clear hq
        go_wp2
        go_ret
        exact ⟨int_end hres.out.symm, rfl⟩
      · have he' : ((prAt l k).2 == a) = false := by simpa using he
        have hn : Hid (∀ j, j < k + 1 → (prAt l j).2 ≠ a) := by
          intro j hj
          by_cases e : j = k
          · rw [e]; simpa using he'
          · exact hq.out j (by omega)
        generalize prAt l k = p at c1 c2 he he'
        clear hq he
        go_wp2
        go_round
        case rel => exact ⟨k + 1, by omega, by go_num, hn⟩
        case measure => simp [intOf]; omega
    · have hres : Hid (backL l a = a) := backL_none l a fun j hj => hq.out j (by omega)
      clear hq hA
      go_wp2
      go_ret
      exact ⟨int_end hres.out.symm, rfl⟩

theorem PairsAt.drew {w : World} {A : Option Addr} {l : List (Int × Int)} (h : PairsAt w A l) : PairsAt w.drew A l := h.below ⟨rfl, rfl, rfl, Nat.le_refl _, fun _ _ => rfl⟩

end Go.Proofs.Ytdbogjhkcnajkaa
