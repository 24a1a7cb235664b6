/-
  Numbers sorted, each once, in the program, as a contract. The atoms that two lists of pairs move: in the program, as contracts.
-/
import Derived.Test.YtddmoempagcjeaaGreatSortK
import Derived.Test.YtddmoempagcjeaaGreatAtoms
import Derived.Test.YtddmoempagcjeaaGreatShelf
import Derived.Lib.OwnBridge
namespace Go.Proofs.YtddmoempagcjeaaGreat
section
open Go.RowKit Go.Sort

theorem compact_mem (zs : List Int) (x : Int) : x ∈ Lib.compact zs ↔ x ∈ zs := by
  unfold Lib.compact Lib.compactUpTo
  simp only [List.mem_map, List.mem_filter, List.mem_range]
  constructor
  · rintro ⟨j, ⟨hj, _⟩, rfl⟩
    have e : zs.toArray[j]! = zs[j] := by simp [hj]
    rw [e]
    exact List.getElem_mem hj
  · intro hx
    have hex : ∃ j, j < zs.length ∧ zs.toArray[j]! = x := by
      obtain ⟨j, hj, e⟩ := List.getElem_of_mem hx
      exact ⟨j, hj, by simp [hj, e]⟩
    obtain ⟨j, hj⟩ := hex
    induction j with
    | zero => exact ⟨0, ⟨hj.1, by simp [Lib.keeps]⟩, hj.2⟩
    | succ j ih =>
      by_cases h : zs.toArray[j]! = x
      · exact ih ⟨by omega, h⟩
      · refine ⟨j + 1, ⟨hj.1, Lib.keeps_pos ?_⟩, hj.2⟩
        rw [hj.2]
        exact fun e => h e.symm

theorem compact_asc (zs : List Int) (h : zs.Pairwise (· ≤ ·)) : AscP (Lib.compact zs) := by
  unfold AscP Lib.compact Lib.compactUpTo
  rw [List.pairwise_map]
  have hr : (List.range zs.length).Pairwise (· < ·) := List.pairwise_lt_range
  refine List.Pairwise.imp_of_mem ?_ (hr.filter _)
  intro i j hi hj hij
  simp only [List.mem_filter, List.mem_range] at hi hj
  rw [List.pairwise_iff_getElem] at h
  have e : ∀ k, (hk : k < zs.length) → zs.toArray[k]! = zs[k] := fun k hk => by simp [hk]
  have h1 : zs.toArray[j]! ≠ zs.toArray[j - 1]! := by
    intro he
    have := Lib.keeps_neg (d := zs.toArray) (m := j) (by omega) he
    rw [this] at hj
    exact absurd hj.2 (by simp)
  have h2 : zs[j - 1]'(by omega) ≤ zs[j]'hj.1 := h (j - 1) j (by omega) hj.1 (by omega)
  have h3 : zs[i]'hi.1 ≤ zs[j - 1]'(by omega) := by
    by_cases hc : i = j - 1
    · simp [hc]
    · exact h i (j - 1) hi.1 (by omega) (by omega)
  rw [e j hj.1, e (j - 1) (by omega)] at h1
  rw [e i hi.1, e j hj.1]
  omega

theorem sorted_ins (l : List Int) : Lib.compact (l.mergeSort fun x y => decide (x ≤ y)) = insAll [] l := by
  refine asc_same _ _ (compact_asc _ ?_) (asc_insAll _ _ List.Pairwise.nil) fun a => ?_
  · have := List.pairwise_mergeSort (le := fun x y : Int => decide (x ≤ y)) (fun a b c h1 h2 => by simp at *; omega) (fun a b => by simp; omega) l
    exact this.imp fun h => by simpa using h
  · rw [compact_mem, List.mem_mergeSort, mem_insAll]
    simp

theorem insAll_both (p q : List (Int × Int)) : insAll [] (froms p ++ froms q) = atomsL p q := by
  unfold atomsL insAll
  rw [List.foldl_append]

/-- A slice of the call's own, which is not nil, is sorted in place; each number is left in once. -/
def AscPost (base g cap : Nat) (l : List Int) (w : World) (e : Ending) (w' : World) : Prop :=
  e = .returned (.slice (some ⟨g, 0, none⟩) (insAll [] l).length cap) ∧ w'.ownsRow base 3 1 (.slice (some ⟨g, 0, none⟩) (insAll [] l).length cap) (insAll [] l).length (icells (insAll [] l)) ∧ w.grownBy w' (some g)

theorem grown_putRow {w : World} {q g : Nat} {d : Array Int} : w.grownBy (putRow (Value.int .i64) (Sort.ahead w q) g 0 d) (some g) :=
  ⟨rfl, rfl, rfl, by simp [putRow, mapBlock, Sort.ahead], fun k hk hr => by
    have hne : g ≠ k := fun e => hr (by rw [e])
    simp [putRow, mapBlock, Sort.ahead, Array.getElem?_modify, hne]⟩

set_option maxRecDepth 100000 in
set_option maxHeartbeats 2000000 in
theorem ascending_any (base g cap : Nat) (Z : List Int) (w : World) (ho5' : w.ownsRow base 3 1 (.slice (some ⟨g, 0, none⟩) Z.length cap) Z.length (icells Z)) (hzl : Z.length ≤ 1099511627776) :
    Calls Tryz.prog 122 #[.slice (some ⟨g, 0, none⟩) Z.length cap] w (AscPost base g cap Z w) := by
  have ho5 : w.ownsRow base 3 1 (.slice (some ⟨g, 0, none⟩) Z.length cap) Z.length (Z.map (Value.int .i64)) := ho5'
  obtain ⟨g', cap', e0, hbg, hgs, hnc, _, _, hH⟩ := Lib.holds_of_ownsRow ho5 (by simp)
  simp only [Value.slice.injEq, Option.some.injEq, Addr.mk.injEq] at e0
  obtain ⟨⟨rfl, _⟩, _, rfl⟩ := e0
  have hat : Hid (Lib.compact (Z.mergeSort fun x y => decide (x ≤ y)) = insAll [] Z) := sorted_ins Z
  have hsort := Tryz.slices_Sort_int g 0 cap Z w hH hgs (by omega)
  have hyl : (Z.mergeSort fun x y => decide (x ≤ y)).length = Z.length := List.length_mergeSort _
  clear hH ho5'
  go_enter Tryz.func122, Tryz.ntmps122
  go_wp2_with fail
  refine hsort.mono ?_
  rintro e w5 ⟨rfl, n5, os5, rfl⟩
  have ho6 := Lib.ownsRow_putRow (q := n5) (k := Z.length) ho5 hyl (Nat.le_refl _)
  have hb6 : w.grownBy (putRow (Value.int .i64) (Sort.ahead w n5) g 0 (Z.mergeSort fun x y => decide (x ≤ y)).toArray) (some g) := grown_putRow
  rw [List.take_of_length_le (by omega)] at ho6
  generalize (Z.mergeSort fun x y => decide (x ≤ y)) = Y at ho6 hb6 hat hyl ⊢
  have hb7 := grownBy_trans hb6 (grown_of_below (below_grow _ os5) (some g))
  have ho7 := own_below ho6 (below_grow _ os5)
  generalize grow (putRow (Value.int .i64) (Sort.ahead w n5) g 0 Y.toArray) os5 = w6 at hb7 ho7 ⊢
  clear hsort ho5 ho6 hb6
  rw [← hyl] at ho7 hnc ⊢
  have hH6 : Holds (Value.int .i64) w6 g 0 Y.toArray := by
    obtain ⟨g', cap', e, _, _, _, _, _, h⟩ := Lib.holds_of_ownsRow ho7 (by simp)
    simp only [Value.slice.injEq, Option.some.injEq, Addr.mk.injEq] at e
    rw [e.1.1]
    exact h
  have hcomp := Tryz.slices_Compact_int g 0 cap Y w6 hH6 (by omega) hnc
  have hcle := Lib.compact_length_le Y
  have ho8 := fun q7 => Lib.ownsRow_putRow (q := q7) (k := (Lib.compact Y).length) (ys := Lib.compact Y ++ List.replicate (Y.length - (Lib.compact Y).length) 0) ho7 (by rw [List.length_append, List.length_replicate]; omega) hcle
  have hb8 := fun q7 => grownBy_trans hb7 (grown_putRow (w := w6) (q := q7) (g := g) (d := (Lib.compact Y ++ List.replicate (Y.length - (Lib.compact Y).length) 0).toArray))
  rw [List.take_left] at ho8
  rw [hat.out] at hcomp ho8 hb8
  have HO := Lib.hid ho8
  have HB := Lib.hid hb8
  clear hyl hcle ho7 hb7 hH6 ho8 hb8 hzl hnc
  go_wp2_with fail
  refine hcomp.mono ?_
  rintro e w7 ⟨rfl, q7, rfl⟩
  have hpost : AscPost base g cap Z w (.returned (.slice (some ⟨g, 0, none⟩) (insAll [] Z).length cap)) _ := ⟨rfl, HO.out q7, HB.out q7⟩
  clear hcomp HO HB
  go_wp2
  go_ret
  exact hpost
end

section
open Go.RowKit Go.Sort

set_option maxRecDepth 100000 in
set_option maxHeartbeats 1000000 in
theorem movedInS_any (A : Option Addr) (c : Nat) (l : List (Int × Int)) (w : World) (hA : PairsAt w A l) (hl : l.length ≤ 1099511627776) :
    Calls Tryz.prog 150 #[.slice A l.length c] w (InsPost w.heap.size (froms l) w) := by
  obtain ⟨i0, hi0, hz0, hz1, hz2⟩ := info_parts int_infoM
  have HS := Lib.hid hz2
  clear hz2
  go_enter Tryz.func150, Tryz.ntmps150
  go_wp2
  go_loopw [3, 5, 9] (fun v _ i wr => ∃ k : Nat, k ≤ l.length ∧ i = .int .i64 k ∧ (∃ g cap, v = .slice (some ⟨g, 0, none⟩) k cap) ∧ wr.ownsRow w.heap.size 3 1 v k (icells (froms (l.take k))) ∧ Below w.heap.size w wr) (fun _ _ i _ => l.length - (intOf i).toNat)
  case atStart => exact ⟨0, Nat.zero_le _, rfl, ⟨w.heap.size, 0, rfl⟩, World.ownsRow_lit w #[] 0 (Nat.le_refl _) (by decide) rfl, (Below.refl _ _).alloc (Nat.le_refl _) _⟩
  case round =>
    obtain ⟨k, hk, rfl, ⟨g0, cap0, rfl⟩, ho, hb⟩ := hrel
    by_cases hlt : k < l.length
    · obtain ⟨b1, o1, rfl, hb1, hc1⟩ := hA (by omega)
      obtain ⟨c1, c2⟩ := hc1 k hlt
      rw [← hb.cell (p := ⟨b1, _, none⟩) hb1] at c1 c2
      clear hc1 hA
      have hnext : Hid (froms (l.take (k + 1)) = froms (l.take k) ++ [(prAt l k).1]) := froms_take hlt
      generalize prAt l k = p at c1 c2 hnext
      have ho1 := ho.alloc (.cells #[.int .i64 p.1, .int .i64 p.2] 85)
      have hb2 := hb.alloc hb.size (.cells #[.int .i64 p.1, .int .i64 p.2] 85)
      have ho2 := ho1.alloc (.cells #[.int .i64 p.1] 3)
      have hb3 := hb2.alloc (Nat.le_trans hb.size (by simp)) (.cells #[.int .i64 p.1] 3)
      have hsz : w.heap.size ≤ wr.heap.size := hb.size
      have hcell : ((wr.alloc (.cells #[.int .i64 p.1, .int .i64 p.2] 85)).alloc (.cells #[.int .i64 p.1] 3)).cell? ⟨wr.heap.size + 1, 0, none⟩ = some (.int .i64 p.1) := by simp
      have HC := Lib.hid (one_cell hcell)
      clear hcell ho ho1 hb2 hb
      go_wp2_with (at_builtin; refine wpList_append_own _ rfl (.tmp 13) (.tmp 16) 93 rfl w.heap.size 3 i0 (.int .i64 0) 1 8 Tryz.underlying93 hi0 hz0 hz1 HS.out rfl (by decide) _ k _ rfl ho2 ⟨wr.heap.size + 1, 0, none⟩ 1 1 [.int .i64 p.1] rfl rfl HC.out (int_one _) ?c3 ?c4 ?c5 ?_)
      case c3 => unfold maxLen; omega
      case c4 => omega
      case c5 => simp; omega
      intro v2 w2 ho3 hg _
      have ho4 : w2.ownsRow w.heap.size 3 1 v2 (k + 1) (icells (froms (l.take (k + 1)))) := by
        rw [hnext.out, icells_append]
        exact ho3
      have hb4 : Below w.heap.size w w2 := below_own hb3 ho2 (Nat.le_refl _) (by simp; omega) hg
      have hform : ∃ g cap, v2 = .slice (some ⟨g, 0, none⟩) (k + 1) cap := by
        rcases ho4.2 with ⟨_, h0⟩ | ⟨g, cap, cur, rfl, _⟩
        · omega
        · exact ⟨g, cap, rfl⟩
      obtain ⟨g1, cap1, rfl⟩ := hform
      clear ho3 hg ho2 hb3 hnext HC c1 c2
      go_wp2
      refine ⟨⟨k + 1, by omega, by go_num, ⟨g1, cap1, rfl⟩, ho4, hb4⟩, ?_⟩
      simp only [intOf]
      omega
    · have e : k = l.length := by omega
      subst e
      rw [List.take_length] at ho
      have e : (froms l).length = l.length := by simp [froms]
      have hpost : InsPost w.heap.size (froms l) w (.returned (.slice (some ⟨g0, 0, none⟩) l.length cap0)) wr := ⟨g0, cap0, by rw [e], by rw [e]; exact ho, hb⟩
      go_wp2
      go_ret
      exact hpost

set_option maxRecDepth 100000 in
set_option maxHeartbeats 2000000 in
theorem movedEither_any (A1 A2 : Option Addr) (c1 c2 : Nat) (p q : List (Int × Int)) (w : World) (hp : PairsAt w A1 p) (hq : PairsAt w A2 q) (hlp : p.length ≤ 1048576) (hlq : q.length ≤ 1048576) :
    Calls Tryz.prog 131 #[.slice A1 p.length c1, .slice A2 q.length c2] w (InsPost w.heap.size (atomsL p q) w) := by
  obtain ⟨i0, hi0, hz0, hz1, hz2⟩ := info_parts int_infoM
  have HS := Lib.hid hz2
  clear hz2
  have h1 := movedInS_any A1 c1 p w hp (by omega)
  go_enter Tryz.func131, Tryz.ntmps131
  go_wp2_with fail
  refine h1.mono ?_
  rintro e w1 ⟨g1, cap1, rfl, ho1, hb1⟩
  have h2 := movedInS_any A2 c2 q w1 (hq.below hb1) (by omega)
  clear h1 hp hq
  go_wp2_with fail
  refine h2.mono ?_
  rintro e w2 ⟨g2, cap2, rfl, ho2, hb2⟩
  have ho1b := own_below ho1 hb2
  have hb3 := hb1.trans (hb2.mono hb1.size)
  have hia : IntsAt w2 (some ⟨g2, 0, none⟩) (froms q) := by
    obtain ⟨A, c, e, h⟩ := own_intsAt ho2
    simp only [Value.slice.injEq] at e
    rw [e.1]
    exact h
  have HN := Lib.hid (ints_news hia)
  have HL := Lib.hid (show (icells (froms q)).length = (froms q).length * 1 by rw [icells_len, Nat.mul_one])
  have hf1 : (froms p).length ≤ 1048576 := by rw [froms_len]; exact hlp
  have hf2 : (froms q).length ≤ 1048576 := by rw [froms_len]; exact hlq
  clear h2 ho1 ho2 hb1 hb2 hia
  go_wp2_with (at_builtin; refine wpList_append_own _ rfl (.tmp 6) (.tmp 8) 93 rfl w.heap.size 3 i0 (.int .i64 0) 1 8 Tryz.underlying93 hi0 hz0 hz1 HS.out rfl (by decide) _ (froms p).length _ rfl ho1b ⟨g2, 0, none⟩ (froms q).length cap2 (icells (froms q)) rfl HL.out HN.out (icells_one _) ?c3 ?c4 ?c5 ?_)
  case c3 => unfold maxLen; omega
  case c4 => omega
  case c5 => exact hb3.size
  intro v4 w4 ho4 hg4 hnil
  have hb4 : Below w.heap.size w w4 := below_own hb3 ho1b (Nat.le_refl _) hb3.size hg4
  have ho5 : w4.ownsRow w.heap.size 3 1 v4 (froms p ++ froms q).length ((froms p ++ froms q).map (Value.int .i64)) := by
    rw [List.length_append]
    simpa [icells] using ho4
  obtain ⟨g, cap, rfl, hbg, hgs, hnc, _, _, hH⟩ := Lib.holds_of_ownsRow ho5 hnil
  have hzl : (froms p ++ froms q).length ≤ 2097152 := by rw [List.length_append]; omega
  have hat : Hid (insAll [] (froms p ++ froms q) = atomsL p q) := insAll_both p q
  generalize froms p ++ froms q = Z at ho5 hzl hat hnc ⊢
  have hasc := ascending_any w.heap.size g cap Z w4 ho5 (by omega)
  clear ho1b hb3 HN HL hf1 hf2 ho4 hg4 hnil hH ho5
  go_wp2_with fail
  refine hasc.mono ?_
  rintro e w5 ⟨rfl, ho6, hg6⟩
  rw [hat.out] at ho6 ⊢
  have hpost : InsPost w.heap.size (atomsL p q) w (.returned (.slice (some ⟨g, 0, none⟩) (atomsL p q).length cap)) w5 := ⟨g, cap, rfl, ho6, hb4.grown hg6 hb4.size (fun k hk => by injection hk with hk; omega)⟩
  clear hasc ho6 hg6 hb4
  go_wp2
  go_ret
  exact hpost
end
end Go.Proofs.YtddmoempagcjeaaGreat
