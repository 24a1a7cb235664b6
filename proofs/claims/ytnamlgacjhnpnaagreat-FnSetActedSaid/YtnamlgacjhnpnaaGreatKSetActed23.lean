/-
  Numbers sorted, each once, in the program, as a contract. The atoms that two lists of pairs move: in the program, as contracts. The atoms to which two permutations give different ones: plain words and small contracts. First one list of pairs, then another: in the model and in the program, as contracts. First one list of pairs, then another: in the program, as a contract. ComposePermutations, in the program and in the model, as contracts.
-/
import Derived.Test.YtnamlgacjhnpnaaGreatKSetActed22
import Derived.Test.YtnamlgacjhnpnaaGreatKSetActed5
import Derived.Test.YtnamlgacjhnpnaaGreatKSetActed1
import Derived.Lib.OwnBridge
import Derived.Test.YtnamlgacjhnpnaaGreatKSetActed4
import Derived.Maps.AppendAt
import Derived.Deep.RegionWith
section
namespace Go.Proofs.YtnamlgacjhnpnaaGreat
section
open Go.RowKit Go.Sort

theorem compact_mem (zs : List Int) (x : Int) : x ∈ Lib.compact zs ↔ x ∈ zs := by
  unfold Lib.compact Lib.compactUpTo
  simp only [List.mem_map, List.mem_filter, List.mem_range]
  constructor
  · rintro ⟨j, ⟨hj, _⟩, rfl⟩
    have e : zs.toArray[j]! = zs[j] := by simp [hj]
    rw [e]
    exact List.getElem_mem hj
  · intro hx
    have hex : ∃ j, j < zs.length ∧ zs.toArray[j]! = x := by
      obtain ⟨j, hj, e⟩ := List.getElem_of_mem hx
      exact ⟨j, hj, by simp [hj, e]⟩
    obtain ⟨j, hj⟩ := hex
    induction j with
    | zero => exact ⟨0, ⟨hj.1, by simp [Lib.keeps]⟩, hj.2⟩
    | succ j ih =>
      by_cases h : zs.toArray[j]! = x
      · exact ih ⟨by omega, h⟩
      · refine ⟨j + 1, ⟨hj.1, Lib.keeps_pos ?_⟩, hj.2⟩
        rw [hj.2]
        exact fun e => h e.symm

theorem compact_asc (zs : List Int) (h : zs.Pairwise (· ≤ ·)) : AscP (Lib.compact zs) := by
  unfold AscP Lib.compact Lib.compactUpTo
  rw [List.pairwise_map]
  have hr : (List.range zs.length).Pairwise (· < ·) := List.pairwise_lt_range
  refine List.Pairwise.imp_of_mem ?_ (hr.filter _)
  intro i j hi hj hij
  simp only [List.mem_filter, List.mem_range] at hi hj
  rw [List.pairwise_iff_getElem] at h
  have e : ∀ k, (hk : k < zs.length) → zs.toArray[k]! = zs[k] := fun k hk => by simp [hk]
  have h1 : zs.toArray[j]! ≠ zs.toArray[j - 1]! := by
    intro he
    have := Lib.keeps_neg (d := zs.toArray) (m := j) (by omega) he
    rw [this] at hj
    exact absurd hj.2 (by simp)
  have h2 : zs[j - 1]'(by omega) ≤ zs[j]'hj.1 := h (j - 1) j (by omega) hj.1 (by omega)
  have h3 : zs[i]'hi.1 ≤ zs[j - 1]'(by omega) := by
    by_cases hc : i = j - 1
    · simp [hc]
    · exact h i (j - 1) hi.1 (by omega) (by omega)
  rw [e j hj.1, e (j - 1) (by omega)] at h1
  rw [e i hi.1, e j hj.1]
  omega

theorem sorted_ins (l : List Int) : Lib.compact (l.mergeSort fun x y => decide (x ≤ y)) = insAll [] l := by
  refine asc_same _ _ (compact_asc _ ?_) (asc_insAll _ _ List.Pairwise.nil) fun a => ?_
  · have := List.pairwise_mergeSort (le := fun x y : Int => decide (x ≤ y)) (fun a b c h1 h2 => by simp at *; omega) (fun a b => by simp; omega) l
    exact this.imp fun h => by simpa using h
  · rw [compact_mem, List.mem_mergeSort, mem_insAll]
    simp

theorem insAll_both (p q : List (Int × Int)) : insAll [] (froms p ++ froms q) = atomsL p q := by
  unfold atomsL insAll
  rw [List.foldl_append]

/-- A slice of the call's own, which is not nil, is sorted in place; each number is left in once. -/
def AscPost (base g cap : Nat) (l : List Int) (w : World) (e : Ending) (w' : World) : Prop :=
  e = .returned (.slice (some ⟨g, 0, none⟩) (insAll [] l).length cap) ∧ w'.ownsRow base 3 1 (.slice (some ⟨g, 0, none⟩) (insAll [] l).length cap) (insAll [] l).length (icells (insAll [] l)) ∧ w.grownBy w' (some g)

theorem grown_putRow {w : World} {q g : Nat} {d : Array Int} : w.grownBy (putRow (Value.int .i64) (Sort.ahead w q) g 0 d) (some g) :=
  ⟨rfl, rfl, rfl, by simp [putRow, mapBlock, Sort.ahead], fun k hk hr => by
    have hne : g ≠ k := fun e => hr (by rw [e])
    simp [putRow, mapBlock, Sort.ahead, Array.getElem?_modify, hne]⟩

set_option maxRecDepth 100000 in
set_option maxHeartbeats 2000000 in
theorem ascending_any (base g cap : Nat) (Z : List Int) (w : World) (ho5' : w.ownsRow base 3 1 (.slice (some ⟨g, 0, none⟩) Z.length cap) Z.length (icells Z)) (hzl : Z.length ≤ 1099511627776) :
    Calls Tryz.prog 37 #[.slice (some ⟨g, 0, none⟩) Z.length cap] w (AscPost base g cap Z w) := by
  have ho5 : w.ownsRow base 3 1 (.slice (some ⟨g, 0, none⟩) Z.length cap) Z.length (Z.map (Value.int .i64)) := ho5'
  obtain ⟨g', cap', e0, hbg, hgs, hnc, _, _, hH⟩ := Lib.holds_of_ownsRow ho5 (by simp)
  simp only [Value.slice.injEq, Option.some.injEq, Addr.mk.injEq] at e0
  obtain ⟨⟨rfl, _⟩, _, rfl⟩ := e0
  have hat : Hid (Lib.compact (Z.mergeSort fun x y => decide (x ≤ y)) = insAll [] Z) := sorted_ins Z
  have hsort := Tryz.slices_Sort_int g 0 cap Z w hH hgs (by omega)
  have hyl : (Z.mergeSort fun x y => decide (x ≤ y)).length = Z.length := List.length_mergeSort _
  clear hH ho5'
  go_enter Tryz.func37, Tryz.ntmps37
  go_wp2_with fail
  refine hsort.mono ?_
  rintro e w5 ⟨rfl, n5, os5, rfl⟩
  have ho6 := Lib.ownsRow_putRow (q := n5) (k := Z.length) ho5 hyl (Nat.le_refl _)
  have hb6 : w.grownBy (putRow (Value.int .i64) (Sort.ahead w n5) g 0 (Z.mergeSort fun x y => decide (x ≤ y)).toArray) (some g) := grown_putRow
  rw [List.take_of_length_le (by omega)] at ho6
  generalize (Z.mergeSort fun x y => decide (x ≤ y)) = Y at ho6 hb6 hat hyl ⊢
  have hb7 := grownBy_trans hb6 (grown_of_below (below_grow _ os5) (some g))
  have ho7 := own_below ho6 (below_grow _ os5)
  generalize grow (putRow (Value.int .i64) (Sort.ahead w n5) g 0 Y.toArray) os5 = w6 at hb7 ho7 ⊢
  clear hsort ho5 ho6 hb6
  rw [← hyl] at ho7 hnc ⊢
  have hH6 : Holds (Value.int .i64) w6 g 0 Y.toArray := by
    obtain ⟨g', cap', e, _, _, _, _, _, h⟩ := Lib.holds_of_ownsRow ho7 (by simp)
    simp only [Value.slice.injEq, Option.some.injEq, Addr.mk.injEq] at e
    rw [e.1.1]
    exact h
  have hcomp := Tryz.slices_Compact_int g 0 cap Y w6 hH6 (by omega) hnc
  have hcle := Lib.compact_length_le Y
  have ho8 := fun q7 => Lib.ownsRow_putRow (q := q7) (k := (Lib.compact Y).length) (ys := Lib.compact Y ++ List.replicate (Y.length - (Lib.compact Y).length) 0) ho7 (by rw [List.length_append, List.length_replicate]; omega) hcle
  have hb8 := fun q7 => grownBy_trans hb7 (grown_putRow (w := w6) (q := q7) (g := g) (d := (Lib.compact Y ++ List.replicate (Y.length - (Lib.compact Y).length) 0).toArray))
  rw [List.take_left] at ho8
  rw [hat.out] at hcomp ho8 hb8
  have HO := Lib.hid ho8
  have HB := Lib.hid hb8
  clear hyl hcle ho7 hb7 hH6 ho8 hb8 hzl hnc
  go_wp2_with fail
  refine hcomp.mono ?_
  rintro e w7 ⟨rfl, q7, rfl⟩
  have hpost : AscPost base g cap Z w (.returned (.slice (some ⟨g, 0, none⟩) (insAll [] Z).length cap)) _ := ⟨rfl, HO.out q7, HB.out q7⟩
  clear hcomp HO HB
  go_wp2
  go_ret
  exact hpost
end

section
open Go.RowKit Go.Sort

set_option maxRecDepth 100000 in
set_option maxHeartbeats 1000000 in
theorem movedInS_any (A : Option Addr) (c : Nat) (l : List (Int × Int)) (w : World) (hA : PairsAt w A l) (hl : l.length ≤ 1099511627776) :
    Calls Tryz.prog 115 #[.slice A l.length c] w (InsPost w.heap.size (froms l) w) := by
  obtain ⟨i0, hi0, hz0, hz1, hz2⟩ := info_parts int_infoM
  have HS := Lib.hid hz2
  clear hz2
  go_enter Tryz.func115, Tryz.ntmps115
  go_wp2
  go_loopw [3, 5, 9] (fun v _ i wr => ∃ k : Nat, k ≤ l.length ∧ i = .int .i64 k ∧ (∃ g cap, v = .slice (some ⟨g, 0, none⟩) k cap) ∧ wr.ownsRow w.heap.size 3 1 v k (icells (froms (l.take k))) ∧ Below w.heap.size w wr) (fun _ _ i _ => l.length - (intOf i).toNat)
  case atStart => exact ⟨0, Nat.zero_le _, rfl, ⟨w.heap.size, 0, rfl⟩, World.ownsRow_lit w #[] 0 (Nat.le_refl _) (by decide) rfl, (Below.refl _ _).alloc (Nat.le_refl _) _⟩
  case round =>
    obtain ⟨k, hk, rfl, ⟨g0, cap0, rfl⟩, ho, hb⟩ := hrel
    by_cases hlt : k < l.length
    · obtain ⟨b1, o1, rfl, hb1, hc1⟩ := hA (by omega)
      obtain ⟨c1, c2⟩ := hc1 k hlt
      rw [← hb.cell (p := ⟨b1, _, none⟩) hb1] at c1 c2
      clear hc1 hA
      have hnext : Hid (froms (l.take (k + 1)) = froms (l.take k) ++ [(prAt l k).1]) := froms_take hlt
      generalize prAt l k = p at c1 c2 hnext
      have ho1 := ho.alloc (.cells #[.int .i64 p.1, .int .i64 p.2] 84)
      have hb2 := hb.alloc hb.size (.cells #[.int .i64 p.1, .int .i64 p.2] 84)
      have ho2 := ho1.alloc (.cells #[.int .i64 p.1] 3)
      have hb3 := hb2.alloc (Nat.le_trans hb.size (by simp)) (.cells #[.int .i64 p.1] 3)
      have hsz : w.heap.size ≤ wr.heap.size := hb.size
      have hcell : ((wr.alloc (.cells #[.int .i64 p.1, .int .i64 p.2] 84)).alloc (.cells #[.int .i64 p.1] 3)).cell? ⟨wr.heap.size + 1, 0, none⟩ = some (.int .i64 p.1) := by simp
      have HC := Lib.hid (one_cell hcell)
      clear hcell ho ho1 hb2 hb
      go_wp2_with (at_builtin; refine wpList_append_own _ rfl (.tmp 13) (.tmp 16) 24 rfl w.heap.size 3 i0 (.int .i64 0) 1 8 Tryz.underlying24 hi0 hz0 hz1 HS.out rfl (by decide) _ k _ rfl ho2 ⟨wr.heap.size + 1, 0, none⟩ 1 1 [.int .i64 p.1] rfl rfl HC.out (int_one _) ?c3 ?c4 ?c5 ?_)
      case c3 => unfold maxLen; omega
      case c4 => omega
      case c5 => simp; omega
      intro v2 w2 ho3 hg _
      have ho4 : w2.ownsRow w.heap.size 3 1 v2 (k + 1) (icells (froms (l.take (k + 1)))) := by
        rw [hnext.out, icells_append]
        exact ho3
      have hb4 : Below w.heap.size w w2 := below_own hb3 ho2 (Nat.le_refl _) (by simp; omega) hg
      have hform : ∃ g cap, v2 = .slice (some ⟨g, 0, none⟩) (k + 1) cap := by
        rcases ho4.2 with ⟨_, h0⟩ | ⟨g, cap, cur, rfl, _⟩
        · omega
        · exact ⟨g, cap, rfl⟩
      obtain ⟨g1, cap1, rfl⟩ := hform
      clear ho3 hg ho2 hb3 hnext HC c1 c2
      go_wp2
      refine ⟨⟨k + 1, by omega, by go_num, ⟨g1, cap1, rfl⟩, ho4, hb4⟩, ?_⟩
      simp only [intOf]
      omega
    · have e : k = l.length := by omega
      subst e
      rw [List.take_length] at ho
      have e : (froms l).length = l.length := by simp [froms]
      have hpost : InsPost w.heap.size (froms l) w (.returned (.slice (some ⟨g0, 0, none⟩) l.length cap0)) wr := ⟨g0, cap0, by rw [e], by rw [e]; exact ho, hb⟩
      go_wp2
      go_ret
      exact hpost

set_option maxRecDepth 100000 in
set_option maxHeartbeats 2000000 in
theorem movedEither_any (A1 A2 : Option Addr) (c1 c2 : Nat) (p q : List (Int × Int)) (w : World) (hp : PairsAt w A1 p) (hq : PairsAt w A2 q) (hlp : p.length ≤ 1048576) (hlq : q.length ≤ 1048576) :
    Calls Tryz.prog 81 #[.slice A1 p.length c1, .slice A2 q.length c2] w (InsPost w.heap.size (atomsL p q) w) := by
  obtain ⟨i0, hi0, hz0, hz1, hz2⟩ := info_parts int_infoM
  have HS := Lib.hid hz2
  clear hz2
  have h1 := movedInS_any A1 c1 p w hp (by omega)
  go_enter Tryz.func81, Tryz.ntmps81
  go_wp2_with fail
  refine h1.mono ?_
  rintro e w1 ⟨g1, cap1, rfl, ho1, hb1⟩
  have h2 := movedInS_any A2 c2 q w1 (hq.below hb1) (by omega)
  clear h1 hp hq
  go_wp2_with fail
  refine h2.mono ?_
  rintro e w2 ⟨g2, cap2, rfl, ho2, hb2⟩
  have ho1b := own_below ho1 hb2
  have hb3 := hb1.trans (hb2.mono hb1.size)
  have hia : IntsAt w2 (some ⟨g2, 0, none⟩) (froms q) := by
    obtain ⟨A, c, e, h⟩ := own_intsAt ho2
    simp only [Value.slice.injEq] at e
    rw [e.1]
    exact h
  have HN := Lib.hid (ints_news hia)
  have HL := Lib.hid (show (icells (froms q)).length = (froms q).length * 1 by rw [icells_len, Nat.mul_one])
  have hf1 : (froms p).length ≤ 1048576 := by rw [froms_len]; exact hlp
  have hf2 : (froms q).length ≤ 1048576 := by rw [froms_len]; exact hlq
  clear h2 ho1 ho2 hb1 hb2 hia
  go_wp2_with (at_builtin; refine wpList_append_own _ rfl (.tmp 6) (.tmp 8) 24 rfl w.heap.size 3 i0 (.int .i64 0) 1 8 Tryz.underlying24 hi0 hz0 hz1 HS.out rfl (by decide) _ (froms p).length _ rfl ho1b ⟨g2, 0, none⟩ (froms q).length cap2 (icells (froms q)) rfl HL.out HN.out (icells_one _) ?c3 ?c4 ?c5 ?_)
  case c3 => unfold maxLen; omega
  case c4 => omega
  case c5 => exact hb3.size
  intro v4 w4 ho4 hg4 hnil
  have hb4 : Below w.heap.size w w4 := below_own hb3 ho1b (Nat.le_refl _) hb3.size hg4
  have ho5 : w4.ownsRow w.heap.size 3 1 v4 (froms p ++ froms q).length ((froms p ++ froms q).map (Value.int .i64)) := by
    rw [List.length_append]
    simpa [icells] using ho4
  obtain ⟨g, cap, rfl, hbg, hgs, hnc, _, _, hH⟩ := Lib.holds_of_ownsRow ho5 hnil
  have hzl : (froms p ++ froms q).length ≤ 2097152 := by rw [List.length_append]; omega
  have hat : Hid (insAll [] (froms p ++ froms q) = atomsL p q) := insAll_both p q
  generalize froms p ++ froms q = Z at ho5 hzl hat hnc ⊢
  have hasc := ascending_any w.heap.size g cap Z w4 ho5 (by omega)
  clear ho1b hb3 HN HL hf1 hf2 ho4 hg4 hnil hH ho5
  go_wp2_with fail
  refine hasc.mono ?_
  rintro e w5 ⟨rfl, ho6, hg6⟩
  rw [hat.out] at ho6 ⊢
  have hpost : InsPost w.heap.size (atomsL p q) w (.returned (.slice (some ⟨g, 0, none⟩) (atomsL p q).length cap)) w5 := ⟨g, cap, rfl, ho6, hb4.grown hg6 hb4.size (fun k hk => by injection hk with hk; omega)⟩
  clear hasc ho6 hg6 hb4
  go_wp2
  go_ret
  exact hpost
end
end Go.Proofs.YtnamlgacjhnpnaaGreat
end

section
namespace Go.Proofs.YtnamlgacjhnpnaaGreat
open Go.RowKit Go.Sort

theorem filter_next {l : List Int} {f : Int → Bool} {k : Nat} (h : k < l.length) : (l.take (k + 1)).filter f = (l.take k).filter f ++ (if f (itAt l k) then [itAt l k] else []) := by
  rw [itake_next h, List.filter_append]
  congr 1
  cases hf : f (itAt l k) <;> simp [hf]

theorem atomsL_len (p q : List (Int × Int)) : (atomsL p q).length ≤ p.length + q.length := by
  have h1 := length_insAll (insAll [] (froms p)) (froms q)
  have h2 := length_insAll [] (froms p)
  rw [froms_len] at h1 h2
  simp only [List.length_nil] at h2
  unfold atomsL
  omega

theorem take_filter_len {l : List Int} {f : Int → Bool} {k : Nat} : ((l.take k).filter f).length ≤ l.length := by
  have h1 := List.length_filter_le f (l.take k)
  rw [List.length_take] at h1
  omega

theorem insPost_ints {base : Nat} {l : List Int} {w w' : World} {e : Ending} (h : InsPost base l w e w') : ∃ g cap, e = .returned (.slice (some ⟨g, 0, none⟩) l.length cap) ∧ g < w'.heap.size ∧ base ≤ g ∧ IntsAt w' (some ⟨g, 0, none⟩) l ∧ Below w.heap.size w w' := by
  obtain ⟨g, cap, rfl, ho, hb⟩ := h
  refine ⟨g, cap, rfl, (ho.lt g rfl).2, (ho.lt g rfl).1, ?_, hb⟩
  obtain ⟨A, c, e, h⟩ := own_intsAt ho
  simp only [Value.slice.injEq] at e
  rw [e.1]
  exact h

end Go.Proofs.YtnamlgacjhnpnaaGreat
end

section
namespace Go.Proofs.YtnamlgacjhnpnaaGreat
open Go.RowKit Go.Sort

def thenK (p q : List (Int × Int)) (X : List Int) (k : Nat) : List (Int × Int) := ((X.take k).filter (thenB p q)).map (thenG p q)

theorem thenK_next {p q : List (Int × Int)} {X : List Int} {k : Nat} (h : k < X.length) : thenK p q X (k + 1) = thenK p q X k ++ (if thenB p q (itAt X k) then [thenG p q (itAt X k)] else []) := by
  unfold thenK
  rw [filter_next h, List.map_append]
  congr 1
  split <;> rfl

theorem thenK_len {p q : List (Int × Int)} {X : List Int} {k : Nat} : (thenK p q X k).length ≤ X.length := by
  unfold thenK
  rw [List.length_map]
  exact take_filter_len

theorem pair_infoT : (Tryz.prog.info? 84).map (fun i => (i.zero, i.size, i.bytes)) = some (some (.agg #[.int .i64 0, .int .i64 0]), 2, 16) := by kernel_rfl

/-- A new slice of pairs which is not nil. -/
def ThenPost (l : List (Int × Int)) (w : World) (e : Ending) (w' : World) : Prop :=
  ∃ g cap, e = .returned (.slice (some ⟨g, 0, none⟩) l.length cap) ∧ w'.ownsRow w.heap.size 84 2 (.slice (some ⟨g, 0, none⟩) l.length cap) l.length (cellsOf l) ∧ Below w.heap.size w w'

set_option maxRecDepth 100000 in
set_option maxHeartbeats 4000000 in
theorem l1Then_any (A1 A2 : Option Addr) (d1 d2 : Nat) (p q : List (Int × Int)) (w : World) (hp : PairsAt w A1 p) (hq : PairsAt w A2 q) (hlp : p.length ≤ 1048576) (hlq : q.length ≤ 1048576) :
    Calls Tryz.prog 73 #[.slice A1 p.length d1, .slice A2 q.length d2] w (ThenPost (thenL p q) w) := by
  obtain ⟨i0, hi0, hz0, hz1, hz2⟩ := info_parts pair_infoT
  have HS := Lib.hid hz2
  clear hz2
  have hb0 : Below w.heap.size w (w.alloc (.cells #[] 84)) := (Below.refl _ _).alloc (Nat.le_refl _) _
  have ho0 : (w.alloc (.cells #[] 84)).ownsRow w.heap.size 84 2 (.slice (some ⟨w.heap.size, 0, none⟩) 0 0) 0 (cellsOf []) := World.ownsRow_lit w #[] 0 (Nat.le_refl _) (by decide) rfl
  have hat := l1Atoms_any A1 A2 d1 d2 p q _ (hp.below hb0) (hq.below hb0) hlp hlq
  have hal := atomsL_len p q
  go_enter Tryz.func73, Tryz.ntmps73
  go_wp2_with fail
  refine hat.mono ?_
  rintro e w1 ⟨v, rfl, ⟨g, cap, rfl, hcap, ho1⟩, hb1⟩
  have hgs := ho1.lt g rfl
  have hia : IntsAt w1 (some ⟨g, 0, none⟩) (atomsL p q) := by
    obtain ⟨A, c, e, h⟩ := own_intsAt ho1
    simp only [Value.slice.injEq] at e
    rw [e.1]
    exact h
  have hg1 : g < w1.heap.size := hgs.2
  have hgw : w.heap.size < g := by have := hgs.1; simp only [World.size_alloc] at this; omega
  clear hcap ho1 hgs
  have ho2 := own_below ho0 hb1
  have hb2 := hb0.trans (hb1.mono hb0.size)
  have HD : Hid (thenL p q = thenK p q (atomsL p q) (atomsL p q).length) := by show thenL p q = thenK p q (atomsL p q) (atomsL p q).length; unfold thenL thenK; rw [List.take_length]
  generalize atomsL p q = X at hia hal HD ⊢
  clear hat ho0 hb0 hb1
  go_wp2
  go_loopw [5, 7] (fun v i wr => ∃ k : Nat, k ≤ X.length ∧ i = .int .i64 k ∧ (∃ h c, v = .slice (some ⟨h, 0, none⟩) (thenK p q X k).length c ∧ h ≠ g) ∧ wr.ownsRow w.heap.size 84 2 v (thenK p q X k).length (cellsOf (thenK p q X k)) ∧ IntsAt wr (some ⟨g, 0, none⟩) X ∧ g < wr.heap.size ∧ Below w.heap.size w wr) (fun _ i _ => X.length - (intOf i).toNat)
  case atStart => exact ⟨0, Nat.zero_le _, rfl, ⟨w.heap.size, 0, rfl, by omega⟩, ho2, hia, hg1, hb2⟩
  case round =>
    clear ho2 hia hb2 hg1
    obtain ⟨k, hk, rfl, ⟨h, c, rfl, hne⟩, ho, hix, hgx, hb⟩ := hrel
    by_cases hlt : k < X.length
    · obtain ⟨b, off, e, hbl, hcell⟩ := hix (by omega)
      simp only [Option.some.injEq, Addr.mk.injEq, and_true] at e
      obtain ⟨rfl, rfl⟩ := e
      have c1 := hcell k hlt
      rw [Nat.zero_add] at c1
      have hnx := thenK_next (p := p) (q := q) hlt
      have hfl : (thenK p q X k).length ≤ X.length := thenK_len
      generalize hF : thenK p q X k = F at ho hnx hfl ⊢
      clear hF
      generalize hx : itAt X k = x at c1 hnx
      have HX := Lib.hid hx
      clear hcell hx hbl
      have hcq := l1Image_any A2 d2 q x wr (hq.below hb) (by omega)
      have hcp := l1Image_any A1 d1 p (imgL q x) wr (hp.below hb) (by omega)
      by_cases hd : thenB p q x = true
      · have hnx' : Hid (thenK p q X (k + 1) = F ++ [thenG p q x]) := by show thenK p q X (k + 1) = F ++ [thenG p q x]; rw [hnx, if_pos hd]
        clear hnx
        unfold thenG at hnx'
        unfold thenB at hd
        generalize imgL p (imgL q x) = y at hcp hd hnx'
        generalize imgL q x = z at hcp hcq
        go_wp2_with fail
        refine hcq.mono ?_
        rintro e wq ⟨rfl, rfl⟩
        clear hcq
        go_wp2_with fail
        refine hcp.mono ?_
        rintro e wq ⟨rfl, rfl⟩
        clear hcp
        have hba : Below w.heap.size w (wr.alloc (.cells #[.int .i64 x, .int .i64 y] 84)) := hb.alloc hb.size _
        have hoa := ho.alloc (.cells #[.int .i64 x, .int .i64 y] 84)
        have hcx : (wr.alloc (.cells #[.int .i64 x, .int .i64 y] 84)).cell? ⟨wr.heap.size, 0, none⟩ = some (.int .i64 x) := by simp
        have hcy : (wr.alloc (.cells #[.int .i64 x, .int .i64 y] 84)).cell? ⟨wr.heap.size, 1, none⟩ = some (.int .i64 y) := by simp
        have HC := Lib.hid (pair_cells hcx hcy)
        have hia4 : IntsAt (wr.alloc (.cells #[.int .i64 x, .int .i64 y] 84)) (some ⟨g, 0, none⟩) X := hix.below ((Below.refl _ _).alloc (Nat.le_refl _) _)
        clear hcx hcy ho hix
        go_wp2_with (at_builtin; refine wpList_append_own_at _ rfl (.tmp 33) (.tmp 40) 30 rfl w.heap.size 84 i0 _ 2 16 Tryz.underlying30 hi0 hz0 hz1 HS.out rfl (by decide) _ F.length _ rfl hoa ⟨wr.heap.size, 0, none⟩ 1 1 [.int .i64 x, .int .i64 y] rfl rfl HC.out (pair_one _ _) ?c3 ?c4 ?c5 ?_)
        case c3 => unfold maxLen; omega
        case c4 => omega
        case c5 => exact hba.size
        intro v5 w5 ho5 hg5 _ hat5
        have ho6 : w5.ownsRow w.heap.size 84 2 v5 (thenK p q X (k + 1)).length (cellsOf (thenK p q X (k + 1))) := by
          rw [hnx'.out, List.length_append, cellsOf_append]
          exact ho5
        have hv5 : ∃ h c, v5 = .slice (some ⟨h, 0, none⟩) (thenK p q X (k + 1)).length c ∧ h ≠ g := by
          rcases ho6.2 with ⟨_, h0⟩ | ⟨h', cap', cur, rfl, _⟩
          · rw [hnx'.out, List.length_append] at h0; simp at h0
          · refine ⟨h', cap', rfl, ?_⟩
            rcases hat5 with e | e
            · simp only [Value.ownBlock, Option.some.injEq] at e; omega
            · simp only [Value.ownBlock, Option.some.injEq] at e; omega
        obtain ⟨h5, c5, rfl, hne5⟩ := hv5
        have hi6 : IntsAt w5 (some ⟨g, 0, none⟩) X := by
          intro hp0
          obtain ⟨b', off', e, hbl, hcell⟩ := hia4 hp0
          simp only [Option.some.injEq, Addr.mk.injEq, and_true] at e
          obtain ⟨rfl, rfl⟩ := e
          exact ⟨g, 0, rfl, Nat.lt_of_lt_of_le hbl hg5.size, fun i hi => hg5.cell (a := ⟨g, 0 + i, none⟩) (hcell i hi) (fun e => by simp only [Value.ownBlock, Option.some.injEq] at e; omega)⟩
        have hg6 : g < w5.heap.size := by have := hg5.size; simp only [World.size_alloc] at this; omega
        have hb6 : Below w.heap.size w w5 := below_own hba hoa (Nat.le_refl _) hba.size hg5
        clear ho5 hg5 hat5 hba hoa HC hia4 hb hgx hnx' HX
        go_wp2
        refine ⟨⟨k + 1, by omega, by go_num, ⟨h5, c5, rfl, hne5⟩, ho6, hi6, hg6, hb6⟩, ?_⟩
        simp only [intOf]
        omega
      · have hd' : thenB p q x = false := by simpa using hd
        have hnx' : Hid (thenK p q X (k + 1) = F) := by show thenK p q X (k + 1) = F; rw [hnx, hd']; simp
        clear hnx hd
        have hd := hd'
        clear hd'
        unfold thenB at hd
        generalize imgL p (imgL q x) = y at hcp hd
        generalize imgL q x = z at hcp hcq
        go_wp2_with fail
        refine hcq.mono ?_
        rintro e wq ⟨rfl, rfl⟩
        clear hcq
        go_wp2_with fail
        refine hcp.mono ?_
        rintro e wq ⟨rfl, rfl⟩
        clear hcp
        rw [← hnx'.out] at ho ⊢
        clear hnx' hfl HX
        go_wp2
        refine ⟨⟨k + 1, by omega, by go_num, ⟨h, c, rfl, hne⟩, ho, hix, hgx, hb⟩, ?_⟩
        simp only [intOf]
        omega
    · have hkk : k = X.length := by omega
      have hpost : ThenPost (thenL p q) w (.returned (.slice (some ⟨h, 0, none⟩) (thenK p q X k).length c)) wr := ⟨h, c, by rw [HD.out, hkk], by rw [HD.out, ← hkk]; exact ho, hb⟩
      clear ho hix hb hkk
      go_wp2
      go_ret
      exact hpost

end Go.Proofs.YtnamlgacjhnpnaaGreat
end

section
namespace Go.Proofs.YtnamlgacjhnpnaaGreat
open Go.RowKit Go.Sort

set_option maxRecDepth 100000 in
set_option maxHeartbeats 4000000 in
theorem composed_any (A1 A2 : Option Addr) (d1 d2 : Nat) (p q : List (Int × Int)) (w : World) (hp : PairsAt w A1 p) (hq : PairsAt w A2 q) (hlp : p.length ≤ 1048576) (hlq : q.length ≤ 1048576) (h1 : Asc p) (h2 : Asc q) :
    Calls Tryz.prog 38 #[.slice A1 p.length d1, .slice A2 q.length d2] w (ThenPost (thenL p q) w) := by
  obtain ⟨i0, hi0, hz0, hz1, hz2⟩ := info_parts pair_infoT
  have HS := Lib.hid hz2
  clear hz2
  have hb0 : Below w.heap.size w (w.alloc (.cells #[] 84)) := (Below.refl _ _).alloc (Nat.le_refl _) _
  have ho0 : (w.alloc (.cells #[] 84)).ownsRow w.heap.size 84 2 (.slice (some ⟨w.heap.size, 0, none⟩) 0 0) 0 (cellsOf []) := World.ownsRow_lit w #[] 0 (Nat.le_refl _) (by decide) rfl
  have HA1 := Lib.hid h1
  have HA2 := Lib.hid h2
  clear h1 h2
  have hat := movedEither_any A1 A2 d1 d2 p q _ (hp.below hb0) (hq.below hb0) hlp hlq
  have hal := atomsL_len p q
  go_enter Tryz.func38, Tryz.ntmps38
  go_wp2_with fail
  refine hat.mono ?_
  rintro e w1 hpost3
  obtain ⟨g, cap, rfl, hg1, hgb, hia, hb1⟩ := insPost_ints hpost3
  have hgw : w.heap.size < g := by simp only [World.size_alloc] at hgb; omega
  clear hpost3 hgb
  have ho2 := own_below ho0 hb1
  have hb2 := hb0.trans (hb1.mono hb0.size)
  have HD : Hid (thenL p q = thenK p q (atomsL p q) (atomsL p q).length) := by show thenL p q = thenK p q (atomsL p q) (atomsL p q).length; unfold thenL thenK; rw [List.take_length]
  generalize atomsL p q = X at hia hal HD ⊢
  clear hat ho0 hb0 hb1
  go_wp2
  go_loopw [5, 14] (fun v i wr => ∃ k : Nat, k ≤ X.length ∧ i = .int .i64 k ∧ (∃ h c, v = .slice (some ⟨h, 0, none⟩) (thenK p q X k).length c ∧ h ≠ g) ∧ wr.ownsRow w.heap.size 84 2 v (thenK p q X k).length (cellsOf (thenK p q X k)) ∧ IntsAt wr (some ⟨g, 0, none⟩) X ∧ g < wr.heap.size ∧ Below w.heap.size w wr) (fun _ i _ => X.length - (intOf i).toNat)
  case atStart => exact ⟨0, Nat.zero_le _, rfl, ⟨w.heap.size, 0, rfl, by omega⟩, ho2, hia, hg1, hb2⟩
  case round =>
    clear ho2 hia hb2 hg1
    obtain ⟨k, hk, rfl, ⟨h, c, rfl, hne⟩, ho, hix, hgx, hb⟩ := hrel
    by_cases hlt : k < X.length
    · obtain ⟨b, off, e, hbl, hcell⟩ := hix (by omega)
      simp only [Option.some.injEq, Addr.mk.injEq, and_true] at e
      obtain ⟨rfl, rfl⟩ := e
      have c1 := hcell k hlt
      rw [Nat.zero_add] at c1
      have hnx := thenK_next (p := p) (q := q) hlt
      have hfl : (thenK p q X k).length ≤ X.length := thenK_len
      generalize hF : thenK p q X k = F at ho hnx hfl ⊢
      clear hF
      generalize hx : itAt X k = x at c1 hnx
      have HX := Lib.hid hx
      clear hcell hx hbl
      have hcq := imageIn_any A2 d2 q x wr (hq.below hb) (by omega) HA2.out
      have hcp := fun W hW => imageIn_any A1 d1 p (imgL q x) W hW (by omega) HA1.out
      by_cases hd : thenB p q x = true
      · have hnx' : Hid (thenK p q X (k + 1) = F ++ [thenG p q x]) := by show thenK p q X (k + 1) = F ++ [thenG p q x]; rw [hnx, if_pos hd]
        clear hnx
        unfold thenG at hnx'
        unfold thenB at hd
        generalize imgL p (imgL q x) = y at hcp hd hnx'
        generalize imgL q x = z at hcp hcq
        go_wp2_with fail
        refine hcq.mono ?_
        rintro e wq1 ⟨rfl, hq1⟩
        have hbq1 := hb.trans (hq1.mono hb.size)
        have hcp' := hcp wq1 (hp.below hbq1)
        clear hcp hcq
        go_wp2_with fail
        refine hcp'.mono ?_
        rintro e w3 ⟨rfl, hq2⟩
        have hbq : Below wr.heap.size wr w3 := hq1.trans (hq2.mono hq1.size)
        have hb3 := hb.trans (hbq.mono hb.size)
        have ho3 := own_below ho hbq
        have hi3 := hix.below hbq
        have hg3 : g < w3.heap.size := Nat.lt_of_lt_of_le hgx hbq.size
        clear hcp' hq1 hq2 hbq1 hbq ho hb hix hgx c1
        obtain ⟨b', off', e, hbl, hcell⟩ := hi3 (by omega)
        simp only [Option.some.injEq, Addr.mk.injEq, and_true] at e
        obtain ⟨rfl, rfl⟩ := e
        have c1 := hcell k hlt
        rw [Nat.zero_add, HX.out] at c1
        clear hcell hbl
        have hba : Below w.heap.size w (w3.alloc (.cells #[.int .i64 x, .int .i64 y] 84)) := hb3.alloc hb3.size _
        have hoa := ho3.alloc (.cells #[.int .i64 x, .int .i64 y] 84)
        have hcx : (w3.alloc (.cells #[.int .i64 x, .int .i64 y] 84)).cell? ⟨w3.heap.size, 0, none⟩ = some (.int .i64 x) := by simp
        have hcy : (w3.alloc (.cells #[.int .i64 x, .int .i64 y] 84)).cell? ⟨w3.heap.size, 1, none⟩ = some (.int .i64 y) := by simp
        have HC := Lib.hid (pair_cells hcx hcy)
        have hia4 : IntsAt (w3.alloc (.cells #[.int .i64 x, .int .i64 y] 84)) (some ⟨g, 0, none⟩) X := hi3.below ((Below.refl _ _).alloc (Nat.le_refl _) _)
        clear hcx hcy ho3 hi3
        go_wp2_with (at_builtin; refine wpList_append_own_at _ rfl (.tmp 26) (.tmp 30) 30 rfl w.heap.size 84 i0 _ 2 16 Tryz.underlying30 hi0 hz0 hz1 HS.out rfl (by decide) _ F.length _ rfl hoa ⟨w3.heap.size, 0, none⟩ 1 1 [.int .i64 x, .int .i64 y] rfl rfl HC.out (pair_one _ _) ?c3 ?c4 ?c5 ?_)
        case c3 => unfold maxLen; omega
        case c4 => omega
        case c5 => exact hba.size
        intro v5 w5 ho5 hg5 _ hat5
        have ho6 : w5.ownsRow w.heap.size 84 2 v5 (thenK p q X (k + 1)).length (cellsOf (thenK p q X (k + 1))) := by
          rw [hnx'.out, List.length_append, cellsOf_append]
          exact ho5
        have hv5 : ∃ h c, v5 = .slice (some ⟨h, 0, none⟩) (thenK p q X (k + 1)).length c ∧ h ≠ g := by
          rcases ho6.2 with ⟨_, h0⟩ | ⟨h', cap', cur, rfl, _⟩
          · rw [hnx'.out, List.length_append] at h0; simp at h0
          · refine ⟨h', cap', rfl, ?_⟩
            rcases hat5 with e | e
            · simp only [Value.ownBlock, Option.some.injEq] at e; omega
            · simp only [Value.ownBlock, Option.some.injEq] at e; omega
        obtain ⟨h5, c5, rfl, hne5⟩ := hv5
        have hi6 : IntsAt w5 (some ⟨g, 0, none⟩) X := by
          intro hp0
          obtain ⟨b', off', e, hbl, hcell⟩ := hia4 hp0
          simp only [Option.some.injEq, Addr.mk.injEq, and_true] at e
          obtain ⟨rfl, rfl⟩ := e
          exact ⟨g, 0, rfl, Nat.lt_of_lt_of_le hbl hg5.size, fun i hi => hg5.cell (a := ⟨g, 0 + i, none⟩) (hcell i hi) (fun e => by simp only [Value.ownBlock, Option.some.injEq] at e; omega)⟩
        have hg6 : g < w5.heap.size := by have := hg5.size; simp only [World.size_alloc] at this; omega
        have hb6 : Below w.heap.size w w5 := below_own hba hoa (Nat.le_refl _) hba.size hg5
        clear ho5 hg5 hat5 hba hoa HC hia4 hb3 hg3 hnx' HX
        go_wp2
        refine ⟨⟨k + 1, by omega, by go_num, ⟨h5, c5, rfl, hne5⟩, ho6, hi6, hg6, hb6⟩, ?_⟩
        simp only [intOf]
        omega
      · have hd' : thenB p q x = false := by simpa using hd
        have hnx' : Hid (thenK p q X (k + 1) = F) := by show thenK p q X (k + 1) = F; rw [hnx, hd']; simp
        clear hnx hd
        have hd := hd'
        clear hd'
        unfold thenB at hd
        generalize imgL p (imgL q x) = y at hcp hd
        generalize imgL q x = z at hcp hcq
        go_wp2_with fail
        refine hcq.mono ?_
        rintro e wq1 ⟨rfl, hq1⟩
        have hbq1 := hb.trans (hq1.mono hb.size)
        have hcp' := hcp wq1 (hp.below hbq1)
        clear hcp hcq
        go_wp2_with fail
        refine hcp'.mono ?_
        rintro e w3 ⟨rfl, hq2⟩
        have hbq : Below wr.heap.size wr w3 := hq1.trans (hq2.mono hq1.size)
        have hb3 := hb.trans (hbq.mono hb.size)
        have ho3 := own_below ho hbq
        have hi3 := hix.below hbq
        have hg3 : g < w3.heap.size := Nat.lt_of_lt_of_le hgx hbq.size
        clear hcp' hq1 hq2 hbq1 hbq ho hb hix hgx c1
        obtain ⟨b', off', e, hbl, hcell⟩ := hi3 (by omega)
        simp only [Option.some.injEq, Addr.mk.injEq, and_true] at e
        obtain ⟨rfl, rfl⟩ := e
        have c1 := hcell k hlt
        rw [Nat.zero_add, HX.out] at c1
        clear hcell hbl
        rw [← hnx'.out] at ho3 ⊢
        clear hnx' hfl HX
        go_wp2
        refine ⟨⟨k + 1, by omega, by go_num, ⟨h, c, rfl, hne⟩, ho3, hi3, hg3, hb3⟩, ?_⟩
        simp only [intOf]
        omega
    · have hkk : k = X.length := by omega
      have hpost : ThenPost (thenL p q) w (.returned (.slice (some ⟨h, 0, none⟩) (thenK p q X k).length c)) wr := ⟨h, c, by rw [HD.out, hkk], by rw [HD.out, ← hkk]; exact ho, hb⟩
      clear ho hix hb hkk
      go_wp2
      go_ret
      exact hpost

end Go.Proofs.YtnamlgacjhnpnaaGreat
end

section
namespace Go.Proofs.YtnamlgacjhnpnaaGreat
open Go.RowKit Go.Sort

def compB (p q : List (Int × Int)) : Bool := permB p && permB q && decide ((thenL p q).length ≤ 40)
def compL (p q : List (Int × Int)) : List (Int × Int) := if compB p q then thenL p q else []

theorem compB_no1 {p q : List (Int × Int)} (h : permB p = false) : compB p q = false := by simp [compB, h]
theorem compB_no2 {p q : List (Int × Int)} (h : permB q = false) : compB p q = false := by simp [compB, h]
theorem compB_no3 {p q : List (Int × Int)} (h : ¬ (thenL p q).length ≤ 40) : compB p q = false := by simp [compB]; omega
theorem compB_yes {p q : List (Int × Int)} (h1 : permB p = true) (h2 : permB q = true) (h : (thenL p q).length ≤ 40) : compB p q = true := by simp [compB, h1, h2, h]
theorem compL_no {p q : List (Int × Int)} (h : compB p q = false) : compL p q = [] := by simp [compL, h]
theorem compL_yes {p q : List (Int × Int)} (h : compB p q = true) : compL p q = thenL p q := by simp [compL, h]
/-- A new slice of the pairs, and a bool. -/
def NewPairsB (l : List (Int × Int)) (b : Bool) (w : World) (e : Ending) (w' : World) : Prop :=
  ∃ v, e = .returned (.tuple #[v, .bool b]) ∧ w'.ownsRow w.heap.size 84 2 v l.length (cellsOf l) ∧ Below w.heap.size w w'

theorem newPairsB_later {l : List (Int × Int)} {b : Bool} {w w1 w2 : World} {v : Value} (ho : w2.ownsRow w1.heap.size 84 2 v l.length (cellsOf l)) (hb2 : Below w1.heap.size w1 w2) (hb : Below w.heap.size w w1) : NewPairsB l b w (.returned (.tuple #[v, .bool b])) w2 :=
  ⟨v, rfl, own_le ho hb.size, hb.trans (hb2.mono hb.size)⟩

theorem newPairsB_empty {b : Bool} {w w1 : World} (hb : Below w.heap.size w w1) : NewPairsB [] b w (.returned (.tuple #[.slice (some ⟨w1.heap.size, 0, none⟩) 0 0, .bool b])) (w1.alloc (.cells #[] 84)) :=
  ⟨_, rfl, own_le (World.ownsRow_lit w1 #[] 0 (Nat.le_refl _) (by decide) rfl) hb.size, hb.alloc hb.size _⟩

set_option maxRecDepth 100000 in
set_option maxHeartbeats 1000000 in
theorem compose_impl (A1 A2 : Option Addr) (d1 d2 : Nat) (p q : List (Int × Int)) (w : World) (hp : PairsAt w A1 p) (hq : PairsAt w A2 q) (hlp : p.length ≤ 1048576) (hlq : q.length ≤ 1048576) :
    Calls Tryz.prog 11 #[.slice A1 p.length d1, .slice A2 q.length d2] w (NewPairsB (compL p q) (compB p q) w) := by
  have hpp := isPerm_impl A1 d1 p _ hp (by omega)
  by_cases h1 : permB p = true
  · rw [h1] at hpp
    have hpq := fun W hQ => isPerm_impl A2 d2 q W hQ (by omega)
    by_cases h2 : permB q = true
    · rw [h2] at hpq
      have hco := fun W hP hQ => composed_any A1 A2 d1 d2 p q W hP hQ hlp hlq (asc_of_order (permB_parts h1).2.1) (asc_of_order (permB_parts h2).2.1)
      have hll := thenL_len p q
      by_cases h3 : (thenL p q).length ≤ 40
      · have HB := Lib.hid (compB_yes h1 h2 h3)
        have HL := Lib.hid (compL_yes HB.out)
        rw [HB.out, HL.out]
        generalize thenL p q = L at hco h3 hll ⊢
        clear h1 h2 HB HL
        go_enter Tryz.func11, Tryz.ntmps11
        go_wp2_with fail
        refine hpp.mono ?_
        rintro e w1 ⟨rfl, hb1⟩
        have hpq' := hpq w1 (hq.below hb1)
        clear hpp hpq
        go_wp2_with fail
        refine hpq'.mono ?_
        rintro e w2 ⟨rfl, hb2⟩
        have hs2 := hb1.trans (hb2.mono hb1.size)
        have hc := hco w2 (hp.below hs2) (hq.below hs2)
        clear hpq' hb1 hb2 hp hq hco
        go_wp2_with fail
        refine hc.mono ?_
        rintro e w3 ⟨g, cap, rfl, ho3, hb3⟩
        have hpost : NewPairsB L true w (.returned (.tuple #[.slice (some ⟨g, 0, none⟩) L.length cap, .bool true])) w3 := newPairsB_later ho3 hb3 hs2
        clear hc ho3 hb3 hs2
        go_wp2
        go_ret2
        exact hpost
      · have HB := Lib.hid (compB_no3 (p := p) (q := q) h3)
        have HL := Lib.hid (compL_no HB.out)
        rw [HB.out, HL.out]
        generalize thenL p q = L at hco h3 hll
        clear h1 h2 HB HL
        have h3' : 40 < L.length := by omega
        clear h3
        go_enter Tryz.func11, Tryz.ntmps11
        go_wp2_with fail
        refine hpp.mono ?_
        rintro e w1 ⟨rfl, hb1⟩
        have hpq' := hpq w1 (hq.below hb1)
        clear hpp hpq
        go_wp2_with fail
        refine hpq'.mono ?_
        rintro e w2 ⟨rfl, hb2⟩
        have hs2 := hb1.trans (hb2.mono hb1.size)
        have hc := hco w2 (hp.below hs2) (hq.below hs2)
        clear hpq' hb1 hb2 hp hq hco
        go_wp2_with fail
        refine hc.mono ?_
        rintro e w3 ⟨g, cap, rfl, ho3, hb3⟩
        have hpost := newPairsB_empty (b := false) (hs2.trans (hb3.mono hs2.size))
        clear hc ho3 hb3 hs2
        go_wp2
        go_ret2
        exact hpost
    · have h2' : permB q = false := by simpa using h2
      have HB := Lib.hid (compB_no2 (p := p) h2')
      have HL := Lib.hid (compL_no HB.out)
      rw [HB.out, HL.out]
      rw [h2'] at hpq
      clear h1 h2 h2' HB HL
      go_enter Tryz.func11, Tryz.ntmps11
      go_wp2_with fail
      refine hpp.mono ?_
      rintro e w1 ⟨rfl, hb1⟩
      have hpq' := hpq w1 (hq.below hb1)
      clear hpp hpq
      go_wp2_with fail
      refine hpq'.mono ?_
      rintro e w2 ⟨rfl, hb2⟩
      have hpost := newPairsB_empty (b := false) (hb1.trans (hb2.mono hb1.size))
      clear hpq' hb1 hb2 hp hq
      go_wp2
      go_ret2
      exact hpost
  · have h1' : permB p = false := by simpa using h1
    have HB := Lib.hid (compB_no1 (q := q) h1')
    have HL := Lib.hid (compL_no HB.out)
    rw [HB.out, HL.out]
    rw [h1'] at hpp
    clear h1 h1' HB HL
    go_enter Tryz.func11, Tryz.ntmps11
    go_wp2_with fail
    refine hpp.mono ?_
    rintro e w1 ⟨rfl, hb1⟩
    have hpost := newPairsB_empty (b := false) hb1
    clear hpp hb1 hp hq
    go_wp2
    go_ret2
    exact hpost

end Go.Proofs.YtnamlgacjhnpnaaGreat
end

