/-
  A row of numbers is put behind rows of the call's own: as a law for the walk; all patterns, in plain words.
-/
import Derived.Test.YtnnebndcjjdhoaaKPathsOf9
import Derived.Test.YtnnebndcjjdhoaaKPathsOf11
import Derived.Deep.AppendLies
namespace Go.Proofs.Ytnnebndcjjdhoaa
open Go.RowKit Go.Sort
set_option linter.unusedVariables false

theorem own_split {w : World} {T : List Nat} {v : Value} {ls : List (List Int)} (h : Own w T v (rowsMem ls)) :
    ∃ xs S, w.ownsRow 0 46 1 v ls.length xs ∧ OwnL w S xs (encR ls) ∧ T = v.ownBlock.toList ++ S ∧ (∀ k, v.ownBlock = some k → k ∉ S) := by
  unfold rowsMem at h
  generalize hm : encR ls = ms at h
  cases h with
  | nil =>
    have hl := encR_len ls
    rw [hm] at hl
    have h0 : ls.length = 0 := by simpa using hl.symm
    rw [h0]
    exact ⟨[], [], World.ownsRow_nil w _ _ _, .nil, rfl, fun k h => by cases h⟩
  | row hl ho hL hg =>
    subst hm
    rw [encR_len] at hl
    rename_i g n cap xs S'
    have en : n = ls.length := by omega
    subst en
    exact ⟨xs, S', ho, hL, rfl, fun k h => by simp [Value.ownBlock] at h; exact h ▸ hg⟩

theorem own_intSlice {w : World} {R : List Nat} {u : Value} {l : List Int} (h : Own w R u (intMem l)) : ∃ A c, u = .slice A l.length c ∧ ConstAtR w A c l := by
  obtain ⟨A, c, rfl, hA⟩ := at_intRow h.at_
  exact ⟨A, c, rfl, hA, fun e => by subst e; exact own_nilcap h⟩

/-- A copy of numbers that are there, or of nil. -/
theorem l1Copy_ints (A : Option Addr) (c : Nat) (l : List Int) (w : World) (hA : IntsAt w A l) (hz : A = none → c = 0) (hl : l.length ≤ 1099511627776) :
    Calls Try.prog 30 #[.slice A l.length c] w (NewInts l w) := by
  have hb : Below w.heap.size w (w.alloc (.cells #[] 3)) := (Below.refl _ _).alloc (Nat.le_refl _) _
  have ho : (w.alloc (.cells #[] 3)).ownsRow w.heap.size 3 1 (.slice (some ⟨w.heap.size, 0, none⟩) 0 0) 0 [] := World.ownsRow_lit w #[] 0 (Nat.le_refl _) (by decide) rfl
  have hA2 := hA.below hb
  clear hA
  go_enter Try.func30, Try.ntmps30
  go_wp2_with (at_builtin; refine wpList_append_ints rfl (.tmp 3) (.tmp 4) rfl w.heap.size _ 0 [] rfl ho A c l rfl hA2 hz ?c3 ?c5 ?_)
  case c3 => omega
  case c5 => simp
  intro v2 w2 ho3 hg
  have hb4 : Below w.heap.size w w2 := below_own hb ho (Nat.le_refl _) (by simp) hg
  clear ho hg hb hA2
  go_wp2
  go_ret
  exact ⟨_, rfl, by simpa using ho3, hb4⟩

end Go.Proofs.Ytnnebndcjjdhoaa
