/-
  InversePermutation, in the program and in the model, as contracts.
-/
import Derived.Test.YtddmoempagcjeaaInvI
import Derived.Test.YtddmoempagcjeaaCompose
namespace Go.Proofs.Ytddmoempagcjeaa
open Go.RowKit Go.Sort

def invR (l : List (Int × Int)) : List (Int × Int) := if permB l then invL l else []
theorem invR_yes {l : List (Int × Int)} (h : permB l = true) : invR l = invL l := by simp [invR, h]
theorem invR_no {l : List (Int × Int)} (h : permB l = false) : invR l = [] := by simp [invR, h]
theorem invR_len (l : List (Int × Int)) : (invR l).length ≤ l.length := by
  unfold invR
  split
  · rw [invL_len]; exact Nat.le_refl _
  · simp

theorem swp_next {l : List (Int × Int)} {k : Nat} (h : k < l.length) : (l.map swp1).take (k + 1) = (l.map swp1).take k ++ [((prAt l k).2, (prAt l k).1)] := by
  rw [List.take_succ_eq_append_getElem (by simpa using h)]
  congr 2
  simp [swp1, prAt, h]

set_option maxRecDepth 100000 in
set_option maxHeartbeats 2000000 in
/-- The pairs turned round, in order: what gives back. -/
theorem inverted_any (A : Option Addr) (c : Nat) (l : List (Int × Int)) (w : World) (hA : PairsAt w A l) (hl : l.length ≤ 1048576) (hP : IsP l) :
    Calls Try.prog 56 #[.slice A l.length c] w (NewPairs (invL l) w) := by
  have HS2 := Lib.hid (sorted_inv hP)
  clear hP
  obtain ⟨i0, hi0, hz0, hz1, hz2⟩ := info_parts pair_infoT
  have HS := Lib.hid hz2
  clear hz2
  have hb0 := (Below.refl w.heap.size w).alloc (Nat.le_refl _) (.cells #[] 81)
  have ho0 : (w.alloc (.cells #[] 81)).ownsRow w.heap.size 81 2 (.slice (some ⟨w.heap.size, 0, none⟩) 0 0) 0 (cellsOf []) := World.ownsRow_lit w #[] 0 (Nat.le_refl _) (by decide) rfl
  go_enter Try.func56, Try.ntmps56
  go_wp2
  go_loopw [3, 9] (fun v i wr => ∃ k : Nat, k ≤ l.length ∧ i = .int .i64 k ∧ (∃ g cap, v = .slice (some ⟨g, 0, none⟩) k cap) ∧ wr.ownsRow w.heap.size 81 2 v k (cellsOf ((l.map swp1).take k)) ∧ Below w.heap.size w wr) (fun _ i _ => l.length - (intOf i).toNat)
  case atStart => exact ⟨0, Nat.zero_le _, rfl, ⟨_, _, rfl⟩, ho0, hb0⟩
  case round =>
    clear ho0 hb0
    obtain ⟨k, hk, rfl, ⟨g, cap, rfl⟩, ho, hb⟩ := hrel
    by_cases hlt : k < l.length
    · obtain ⟨b1, o1, rfl, hb1, hc1⟩ := hA (by omega)
      obtain ⟨c1, c2⟩ := hc1 k hlt
      rw [← hb.cell (p := ⟨b1, _, none⟩) hb1] at c1 c2
      have hnx := Lib.hid (swp_next hlt)
      generalize prAt l k = p at c1 c2 hnx
      have ho1 := ho.alloc (.cells #[.int .i64 p.1, .int .i64 p.2] 81)
      have hb2 := hb.alloc hb.size (.cells #[.int .i64 p.1, .int .i64 p.2] 81)
      have ho2 := ho1.alloc (.cells #[.int .i64 p.2, .int .i64 p.1] 81)
      have hb3 := hb2.alloc hb2.size (.cells #[.int .i64 p.2, .int .i64 p.1] 81)
      have hsz : w.heap.size ≤ wr.heap.size := hb.size
      have hd1 : ((wr.alloc (.cells #[.int .i64 p.1, .int .i64 p.2] 81)).alloc (.cells #[.int .i64 p.2, .int .i64 p.1] 81)).cell? ⟨wr.heap.size + 1, 0, none⟩ = some (.int .i64 p.2) := by simp
      have hd2 : ((wr.alloc (.cells #[.int .i64 p.1, .int .i64 p.2] 81)).alloc (.cells #[.int .i64 p.2, .int .i64 p.1] 81)).cell? ⟨wr.heap.size + 1, 1, none⟩ = some (.int .i64 p.1) := by simp
      have HC := Lib.hid (pair_cells hd1 hd2)
      clear hd1 hd2 ho ho1 hb hb2 hc1
      go_wp2_with (at_builtin; refine wpList_append_own _ rfl (.tmp 13) (.tmp 19) 24 rfl w.heap.size 81 i0 _ 2 16 Try.underlying24 hi0 hz0 hz1 HS.out rfl (by decide) _ k _ rfl ho2 ⟨wr.heap.size + 1, 0, none⟩ 1 1 [.int .i64 p.2, .int .i64 p.1] rfl rfl HC.out (pair_one _ _) ?c3 ?c4 ?c5 ?_)
      case c3 => unfold maxLen; omega
      case c4 => omega
      case c5 => simp; omega
      intro v2 w2 ho3 hg _
      have ho4 : w2.ownsRow w.heap.size 81 2 v2 (k + 1) (cellsOf ((l.map swp1).take (k + 1))) := by
        rw [hnx.out, cellsOf_append]
        exact ho3
      have hb4 : Below w.heap.size w w2 := below_own hb3 ho2 (Nat.le_refl _) (by simp; omega) hg
      have hform : ∃ g cap, v2 = .slice (some ⟨g, 0, none⟩) (k + 1) cap := by
        rcases ho4.2 with ⟨_, h0⟩ | ⟨g, cap, cur, rfl, _⟩
        · omega
        · exact ⟨g, cap, rfl⟩
      obtain ⟨g1, cap1, rfl⟩ := hform
      clear ho3 hg ho2 hb3 hnx HC c1 c2
      go_wp2
      refine ⟨⟨k + 1, by omega, by go_num, ⟨g1, cap1, rfl⟩, ho4, hb4⟩, ?_⟩
      simp only [intOf]
      omega
    · have e : k = l.length := by omega
      have hzl : (l.map swp1).length = k := by rw [List.length_map, e]
      rw [List.take_of_length_le (by omega)] at ho
      have hlen : Hid ((invL l).length = k) := by show (invL l).length = k; rw [invL_len, e]
      generalize l.map swp1 = Z at ho hzl HS2
      subst hzl
      have hso := sortPairs_any w.heap.size g cap Z wr ho (by omega)
      have hgb := (ho.lt g rfl).1
      rw [HS2.out] at hso
      have hge : l.length ≤ Z.length := by omega
      clear ho hA e hlt hk HS2
      go_wp2_with fail
      refine hso.mono ?_
      rintro e w5 ⟨rfl, ho5, hg5⟩
      have hpost : NewPairs (invL l) w (.returned (.slice (some ⟨g, 0, none⟩) Z.length cap)) w5 := ⟨_, rfl, by rw [hlen.out]; exact ho5, hb.grown hg5 hb.size (fun k hk => by injection hk with hk; omega)⟩
      clear hso ho5 hg5 hb hlen
      go_wp2
      go_ret
      exact hpost

set_option maxRecDepth 100000 in
set_option maxHeartbeats 2000000 in
theorem inverse_impl (A : Option Addr) (c : Nat) (l : List (Int × Int)) (w : World) (hA : PairsAt w A l) (hl : l.length ≤ 1048576) :
    Calls Try.prog 13 #[.slice A l.length c] w (NewPairsB (invR l) (permB l) w) := by
  have hp := isPerm_impl A c l w hA (by omega)
  by_cases h1 : permB l = true
  · rw [h1] at hp ⊢
    have HI := Lib.hid (invR_yes h1)
    rw [HI.out]
    have hi := fun W hW => inverted_any A c l W hW hl (isP_of h1)
    clear h1 HI
    go_enter Try.func13, Try.ntmps13
    go_wp2_with fail
    refine hp.mono ?_
    rintro e w1 ⟨rfl, hb1⟩
    have hv := hi w1 (hA.below hb1)
    clear hp hA hi
    go_wp2_with fail
    refine hv.mono ?_
    rintro e w2 ⟨v, rfl, ho, hb2⟩
    have hpost : NewPairsB (invL l) true w (.returned (.tuple #[v, .bool true])) w2 := newPairsB_later ho hb2 hb1
    clear hv ho hb2 hb1
    go_wp2
    go_ret2
    exact hpost
  · have h1' : permB l = false := by simpa using h1
    rw [h1'] at hp ⊢
    have HI := Lib.hid (invR_no h1')
    rw [HI.out]
    clear h1 h1' hA HI
    go_enter Try.func13, Try.ntmps13
    go_wp2_with fail
    refine hp.mono ?_
    rintro e w1 ⟨rfl, hb1⟩
    have hpost := newPairsB_empty (b := false) hb1
    clear hp hb1
    go_wp2
    go_ret2
    exact hpost

set_option maxRecDepth 100000 in
theorem inverse_spec (A : Option Addr) (c : Nat) (l : List (Int × Int)) (w : World) (hA : PairsAt w A l) (hl : l.length ≤ 1048576) :
    Calls Try.prog 11 #[.slice A l.length c] w (NewPairsB (invR l) (permB l) w) := by
  have hp := isPerm_spec A c l w hA (by omega)
  rw [perm_same] at hp
  by_cases h1 : permB l = true
  · rw [h1] at hp ⊢
    have HI := Lib.hid (invR_yes h1)
    rw [HI.out]
    clear h1 HI
    go_enter Try.func11, Try.ntmps11
    go_wp2_with fail
    refine hp.mono ?_
    rintro e w1 ⟨rfl, hb1⟩
    have hv := l1Inverse_any A c l w1 (hA.below hb1) hl
    clear hp hA
    go_wp2_with fail
    refine hv.mono ?_
    rintro e w2 ⟨v, rfl, ho, hb2⟩
    have hpost : NewPairsB (invL l) true w (.returned (.tuple #[v, .bool true])) w2 := newPairsB_later ho hb2 hb1
    clear hv ho hb2 hb1
    go_wp2
    go_ret2
    exact hpost
  · have h1' : permB l = false := by simpa using h1
    rw [h1'] at hp ⊢
    have HI := Lib.hid (invR_no h1')
    rw [HI.out]
    clear h1 h1' hA HI
    go_enter Try.func11, Try.ntmps11
    go_wp2_with fail
    refine hp.mono ?_
    rintro e w1 ⟨rfl, hb1⟩
    have hpost := newPairsB_nil (b := false) hb1
    clear hp hb1
    go_wp2
    go_ret2
    exact hpost

theorem inverse_impl_own (base : Nat) (v : Value) (l : List (Int × Int)) (w : World) (h : w.ownsRow base 81 2 v l.length (cellsOf l)) (hl : l.length ≤ 1048576) :
    Calls Try.prog 13 #[v] w (NewPairsB (invR l) (permB l) w) := by
  obtain ⟨A, c, rfl, hA⟩ := own_pairsAt h
  exact inverse_impl A c l w hA hl

theorem inverse_spec_own (base : Nat) (v : Value) (l : List (Int × Int)) (w : World) (h : w.ownsRow base 81 2 v l.length (cellsOf l)) (hl : l.length ≤ 1048576) :
    Calls Try.prog 11 #[v] w (NewPairsB (invR l) (permB l) w) := by
  obtain ⟨A, c, rfl, hA⟩ := own_pairsAt h
  exact inverse_spec A c l w hA hl

end Go.Proofs.Ytddmoempagcjeaa
