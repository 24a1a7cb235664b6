/-
  Numbers sorted, each once, in the program, as a contract. The atoms that two lists of pairs move: in the program, as contracts.
-/
import Derived.Test.YthjkogighppeaaaKSetOfFormula13
import Derived.Test.YthjkogighppeaaaKSetOfFormula3
import Derived.Test.YthjkogighppeaaaKSetOfFormula1
import Derived.Lib.OwnBridge
namespace Go.Proofs.Ythjkogighppeaaa
section
open Go.RowKit Go.Sort

theorem compact_mem (zs : List Int) (x : Int) : x ∈ Lib.compact zs ↔ x ∈ zs := by
  unfold Lib.compact Lib.compactUpTo
  simp only [List.mem_map, List.mem_filter, List.mem_range]
  constructor
  · rintro ⟨j, ⟨hj, _⟩, rfl⟩
    have e : zs.toArray[j]! = zs[j] := by simp [hj]
    rw [e]
    exact List.getElem_mem hj
  · intro hx
    have hex : ∃ j, j < zs.length ∧ zs.toArray[j]! = x := by
      obtain ⟨j, hj, e⟩ := List.getElem_of_mem hx
      exact ⟨j, hj, by simp [hj, e]⟩
    obtain ⟨j, hj⟩ := hex
    induction j with
    | zero => exact ⟨0, ⟨hj.1, by simp [Lib.keeps]⟩, hj.2⟩
    | succ j ih =>
      by_cases h : zs.toArray[j]! = x
      · exact ih ⟨by omega, h⟩
      · refine ⟨j + 1, ⟨hj.1, Lib.keeps_pos ?_⟩, hj.2⟩
        rw [hj.2]
        exact fun e => h e.symm

theorem compact_asc (zs : List Int) (h : zs.Pairwise (· ≤ ·)) : AscP (Lib.compact zs) := by
  unfold AscP Lib.compact Lib.compactUpTo
  rw [List.pairwise_map]
  have hr : (List.range zs.length).Pairwise (· < ·) := List.pairwise_lt_range
  refine List.Pairwise.imp_of_mem ?_ (hr.filter _)
  intro i j hi hj hij
  simp only [List.mem_filter, List.mem_range] at hi hj
  rw [List.pairwise_iff_getElem] at h
  have e : ∀ k, (hk : k < zs.length) → zs.toArray[k]! = zs[k] := fun k hk => by simp [hk]
  have h1 : zs.toArray[j]! ≠ zs.toArray[j - 1]! := by
    intro he
    have := Lib.keeps_neg (d := zs.toArray) (m := j) (by omega) he
    rw [this] at hj
    exact absurd hj.2 (by simp)
  have h2 : zs[j - 1]'(by omega) ≤ zs[j]'hj.1 := h (j - 1) j (by omega) hj.1 (by omega)
  have h3 : zs[i]'hi.1 ≤ zs[j - 1]'(by omega) := by
    by_cases hc : i = j - 1
    · simp [hc]
    · exact h i (j - 1) hi.1 (by omega) (by omega)
  rw [e j hj.1, e (j - 1) (by omega)] at h1
  rw [e i hi.1, e j hj.1]
  omega

theorem sorted_ins (l : List Int) : Lib.compact (l.mergeSort fun x y => decide (x ≤ y)) = insAll [] l := by
  refine asc_same _ _ (compact_asc _ ?_) (asc_insAll _ _ List.Pairwise.nil) fun a => ?_
  · have := List.pairwise_mergeSort (le := fun x y : Int => decide (x ≤ y)) (fun a b c h1 h2 => by simp at *; omega) (fun a b => by simp; omega) l
    exact this.imp fun h => by simpa using h
  · rw [compact_mem, List.mem_mergeSort, mem_insAll]
    simp

/-- A slice of the call's own, which is not nil, is sorted in place; each number is left in once. -/
def AscPost (base g cap : Nat) (l : List Int) (w : World) (e : Ending) (w' : World) : Prop :=
  e = .returned (.slice (some ⟨g, 0, none⟩) (insAll [] l).length cap) ∧ w'.ownsRow base 3 1 (.slice (some ⟨g, 0, none⟩) (insAll [] l).length cap) (insAll [] l).length (icells (insAll [] l)) ∧ w.grownBy w' (some g)

theorem grown_putRow {w : World} {q g : Nat} {d : Array Int} : w.grownBy (putRow (Value.int .i64) (Sort.ahead w q) g 0 d) (some g) :=
  ⟨rfl, rfl, rfl, by simp [putRow, mapBlock, Sort.ahead], fun k hk hr => by
    have hne : g ≠ k := fun e => hr (by rw [e])
    simp [putRow, mapBlock, Sort.ahead, Array.getElem?_modify, hne]⟩

set_option maxRecDepth 100000 in
set_option maxHeartbeats 2000000 in
theorem ascending_any (base g cap : Nat) (Z : List Int) (w : World) (ho5' : w.ownsRow base 3 1 (.slice (some ⟨g, 0, none⟩) Z.length cap) Z.length (icells Z)) (hzl : Z.length ≤ 1099511627776) :
    Calls Try.prog 45 #[.slice (some ⟨g, 0, none⟩) Z.length cap] w (AscPost base g cap Z w) := by
  have ho5 : w.ownsRow base 3 1 (.slice (some ⟨g, 0, none⟩) Z.length cap) Z.length (Z.map (Value.int .i64)) := ho5'
  obtain ⟨g', cap', e0, hbg, hgs, hnc, _, _, hH⟩ := Lib.holds_of_ownsRow ho5 (by simp)
  simp only [Value.slice.injEq, Option.some.injEq, Addr.mk.injEq] at e0
  obtain ⟨⟨rfl, _⟩, _, rfl⟩ := e0
  have hat : Hid (Lib.compact (Z.mergeSort fun x y => decide (x ≤ y)) = insAll [] Z) := sorted_ins Z
  have hsort := Try.slices_Sort_int g 0 cap Z w hH hgs (by omega)
  have hyl : (Z.mergeSort fun x y => decide (x ≤ y)).length = Z.length := List.length_mergeSort _
  clear hH ho5'
  go_enter Try.func45, Try.ntmps45
  go_wp2_with fail
  refine hsort.mono ?_
  rintro e w5 ⟨rfl, n5, os5, rfl⟩
  have ho6 := Lib.ownsRow_putRow (q := n5) (k := Z.length) ho5 hyl (Nat.le_refl _)
  have hb6 : w.grownBy (putRow (Value.int .i64) (Sort.ahead w n5) g 0 (Z.mergeSort fun x y => decide (x ≤ y)).toArray) (some g) := grown_putRow
  rw [List.take_of_length_le (by omega)] at ho6
  generalize (Z.mergeSort fun x y => decide (x ≤ y)) = Y at ho6 hb6 hat hyl ⊢
  have hb7 := grownBy_trans hb6 (grown_of_below (below_grow _ os5) (some g))
  have ho7 := own_below ho6 (below_grow _ os5)
  generalize grow (putRow (Value.int .i64) (Sort.ahead w n5) g 0 Y.toArray) os5 = w6 at hb7 ho7 ⊢
  clear hsort ho5 ho6 hb6
  rw [← hyl] at ho7 hnc ⊢
  have hH6 : Holds (Value.int .i64) w6 g 0 Y.toArray := by
    obtain ⟨g', cap', e, _, _, _, _, _, h⟩ := Lib.holds_of_ownsRow ho7 (by simp)
    simp only [Value.slice.injEq, Option.some.injEq, Addr.mk.injEq] at e
    rw [e.1.1]
    exact h
  have hcomp := Try.slices_Compact_int g 0 cap Y w6 hH6 (by omega) hnc
  have hcle := Lib.compact_length_le Y
  have ho8 := fun q7 => Lib.ownsRow_putRow (q := q7) (k := (Lib.compact Y).length) (ys := Lib.compact Y ++ List.replicate (Y.length - (Lib.compact Y).length) 0) ho7 (by rw [List.length_append, List.length_replicate]; omega) hcle
  have hb8 := fun q7 => grownBy_trans hb7 (grown_putRow (w := w6) (q := q7) (g := g) (d := (Lib.compact Y ++ List.replicate (Y.length - (Lib.compact Y).length) 0).toArray))
  rw [List.take_left] at ho8
  rw [hat.out] at hcomp ho8 hb8
  have HO := Lib.hid ho8
  have HB := Lib.hid hb8
  clear hyl hcle ho7 hb7 hH6 ho8 hb8 hzl hnc
  go_wp2_with fail
  refine hcomp.mono ?_
  rintro e w7 ⟨rfl, q7, rfl⟩
  have hpost : AscPost base g cap Z w (.returned (.slice (some ⟨g, 0, none⟩) (insAll [] Z).length cap)) _ := ⟨rfl, HO.out q7, HB.out q7⟩
  clear hcomp HO HB
  go_wp2
  go_ret
  exact hpost
end

section
open Go.RowKit Go.Sort

end
end Go.Proofs.Ythjkogighppeaaa
