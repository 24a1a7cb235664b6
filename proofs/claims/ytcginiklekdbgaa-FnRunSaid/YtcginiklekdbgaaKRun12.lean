/-
  Numbers sorted, each once, in the program, as a contract. The atoms that two lists of pairs move: in the program, as contracts. The atoms to which two permutations give different ones: plain words and small contracts. First one list of pairs, then another: in the model and in the program, as contracts.
-/
import Derived.Test.YtcginiklekdbgaaKRun11
import Derived.Test.YtcginiklekdbgaaKRun3
import Derived.Test.YtcginiklekdbgaaKRun1
import Derived.Lib.OwnBridge
import Derived.Maps.AppendAt
import Derived.Deep.RegionWith
section
namespace Go.Proofs.Ytcginiklekdbgaa
section
open Go.RowKit Go.Sort

end

section
open Go.RowKit Go.Sort

end
end Go.Proofs.Ytcginiklekdbgaa
end

section
namespace Go.Proofs.Ytcginiklekdbgaa
open Go.RowKit Go.Sort

theorem filter_next {l : List Int} {f : Int → Bool} {k : Nat} (h : k < l.length) : (l.take (k + 1)).filter f = (l.take k).filter f ++ (if f (itAt l k) then [itAt l k] else []) := by
  rw [itake_next h, List.filter_append]
  congr 1
  cases hf : f (itAt l k) <;> simp [hf]

theorem atomsL_len (p q : List (Int × Int)) : (atomsL p q).length ≤ p.length + q.length := by
  have h1 := length_insAll (insAll [] (froms p)) (froms q)
  have h2 := length_insAll [] (froms p)
  rw [froms_len] at h1 h2
  simp only [List.length_nil] at h2
  unfold atomsL
  omega

theorem take_filter_len {l : List Int} {f : Int → Bool} {k : Nat} : ((l.take k).filter f).length ≤ l.length := by
  have h1 := List.length_filter_le f (l.take k)
  rw [List.length_take] at h1
  omega

end Go.Proofs.Ytcginiklekdbgaa
end

section
namespace Go.Proofs.Ytcginiklekdbgaa
open Go.RowKit Go.Sort

def thenK (p q : List (Int × Int)) (X : List Int) (k : Nat) : List (Int × Int) := ((X.take k).filter (thenB p q)).map (thenG p q)

theorem thenK_next {p q : List (Int × Int)} {X : List Int} {k : Nat} (h : k < X.length) : thenK p q X (k + 1) = thenK p q X k ++ (if thenB p q (itAt X k) then [thenG p q (itAt X k)] else []) := by
  unfold thenK
  rw [filter_next h, List.map_append]
  congr 1
  split <;> rfl

theorem thenK_len {p q : List (Int × Int)} {X : List Int} {k : Nat} : (thenK p q X k).length ≤ X.length := by
  unfold thenK
  rw [List.length_map]
  exact take_filter_len

theorem pair_infoT : (Try.prog.info? 74).map (fun i => (i.zero, i.size, i.bytes)) = some (some (.agg #[.int .i64 0, .int .i64 0]), 2, 16) := by kernel_rfl

/-- A new slice of pairs which is not nil. -/
def ThenPost (l : List (Int × Int)) (w : World) (e : Ending) (w' : World) : Prop :=
  ∃ g cap, e = .returned (.slice (some ⟨g, 0, none⟩) l.length cap) ∧ w'.ownsRow w.heap.size 74 2 (.slice (some ⟨g, 0, none⟩) l.length cap) l.length (cellsOf l) ∧ Below w.heap.size w w'

set_option maxRecDepth 100000 in
set_option maxHeartbeats 4000000 in
theorem l1Then_any (A1 A2 : Option Addr) (d1 d2 : Nat) (p q : List (Int × Int)) (w : World) (hp : PairsAt w A1 p) (hq : PairsAt w A2 q) (hlp : p.length ≤ 1048576) (hlq : q.length ≤ 1048576) :
    Calls Try.prog 38 #[.slice A1 p.length d1, .slice A2 q.length d2] w (ThenPost (thenL p q) w) := by
  obtain ⟨i0, hi0, hz0, hz1, hz2⟩ := info_parts pair_infoT
  have HS := Lib.hid hz2
  clear hz2
  have hb0 : Below w.heap.size w (w.alloc (.cells #[] 74)) := (Below.refl _ _).alloc (Nat.le_refl _) _
  have ho0 : (w.alloc (.cells #[] 74)).ownsRow w.heap.size 74 2 (.slice (some ⟨w.heap.size, 0, none⟩) 0 0) 0 (cellsOf []) := World.ownsRow_lit w #[] 0 (Nat.le_refl _) (by decide) rfl
  have hat := l1Atoms_any A1 A2 d1 d2 p q _ (hp.below hb0) (hq.below hb0) hlp hlq
  have hal := atomsL_len p q
  go_enter Try.func38, Try.ntmps38
  go_wp2_with fail
  refine hat.mono ?_
  rintro e w1 ⟨v, rfl, ⟨g, cap, rfl, hcap, ho1⟩, hb1⟩
  have hgs := ho1.lt g rfl
  have hia : IntsAt w1 (some ⟨g, 0, none⟩) (atomsL p q) := by
    obtain ⟨A, c, e, h⟩ := own_intsAt ho1
    simp only [Value.slice.injEq] at e
    rw [e.1]
    exact h
  have hg1 : g < w1.heap.size := hgs.2
  have hgw : w.heap.size < g := by have := hgs.1; simp only [World.size_alloc] at this; omega
  clear hcap ho1 hgs
  have ho2 := own_below ho0 hb1
  have hb2 := hb0.trans (hb1.mono hb0.size)
  have HD : Hid (thenL p q = thenK p q (atomsL p q) (atomsL p q).length) := by show thenL p q = thenK p q (atomsL p q) (atomsL p q).length; unfold thenL thenK; rw [List.take_length]
  generalize atomsL p q = X at hia hal HD ⊢
  clear hat ho0 hb0 hb1
  go_wp2
  go_loopw [5, 7] (fun v i wr => ∃ k : Nat, k ≤ X.length ∧ i = .int .i64 k ∧ (∃ h c, v = .slice (some ⟨h, 0, none⟩) (thenK p q X k).length c ∧ h ≠ g) ∧ wr.ownsRow w.heap.size 74 2 v (thenK p q X k).length (cellsOf (thenK p q X k)) ∧ IntsAt wr (some ⟨g, 0, none⟩) X ∧ g < wr.heap.size ∧ Below w.heap.size w wr) (fun _ i _ => X.length - (intOf i).toNat)
  case atStart => exact ⟨0, Nat.zero_le _, rfl, ⟨w.heap.size, 0, rfl, by omega⟩, ho2, hia, hg1, hb2⟩
  case round =>
    clear ho2 hia hb2 hg1
    obtain ⟨k, hk, rfl, ⟨h, c, rfl, hne⟩, ho, hix, hgx, hb⟩ := hrel
    by_cases hlt : k < X.length
    · obtain ⟨b, off, e, hbl, hcell⟩ := hix (by omega)
      simp only [Option.some.injEq, Addr.mk.injEq, and_true] at e
      obtain ⟨rfl, rfl⟩ := e
      have c1 := hcell k hlt
      rw [Nat.zero_add] at c1
      have hnx := thenK_next (p := p) (q := q) hlt
      have hfl : (thenK p q X k).length ≤ X.length := thenK_len
      generalize hF : thenK p q X k = F at ho hnx hfl ⊢
      clear hF
      generalize hx : itAt X k = x at c1 hnx
      have HX := Lib.hid hx
      clear hcell hx hbl
      have hcq := l1Image_any A2 d2 q x wr (hq.below hb) (by omega)
      have hcp := l1Image_any A1 d1 p (imgL q x) wr (hp.below hb) (by omega)
      by_cases hd : thenB p q x = true
      · have hnx' : Hid (thenK p q X (k + 1) = F ++ [thenG p q x]) := by show thenK p q X (k + 1) = F ++ [thenG p q x]; rw [hnx, if_pos hd]
        clear hnx
        unfold thenG at hnx'
        unfold thenB at hd
        generalize imgL p (imgL q x) = y at hcp hd hnx'
        generalize imgL q x = z at hcp hcq
        go_wp2_with fail
        refine hcq.mono ?_
        rintro e wq ⟨rfl, rfl⟩
        clear hcq
        go_wp2_with fail
        refine hcp.mono ?_
        rintro e wq ⟨rfl, rfl⟩
        clear hcp
        have hba : Below w.heap.size w (wr.alloc (.cells #[.int .i64 x, .int .i64 y] 74)) := hb.alloc hb.size _
        have hoa := ho.alloc (.cells #[.int .i64 x, .int .i64 y] 74)
        have hcx : (wr.alloc (.cells #[.int .i64 x, .int .i64 y] 74)).cell? ⟨wr.heap.size, 0, none⟩ = some (.int .i64 x) := by simp
        have hcy : (wr.alloc (.cells #[.int .i64 x, .int .i64 y] 74)).cell? ⟨wr.heap.size, 1, none⟩ = some (.int .i64 y) := by simp
        have HC := Lib.hid (pair_cells hcx hcy)
        have hia4 : IntsAt (wr.alloc (.cells #[.int .i64 x, .int .i64 y] 74)) (some ⟨g, 0, none⟩) X := hix.below ((Below.refl _ _).alloc (Nat.le_refl _) _)
        clear hcx hcy ho hix
        go_wp2_with (at_builtin; refine wpList_append_own_at _ rfl (.tmp 33) (.tmp 40) 32 rfl w.heap.size 74 i0 _ 2 16 Try.underlying32 hi0 hz0 hz1 HS.out rfl (by decide) _ F.length _ rfl hoa ⟨wr.heap.size, 0, none⟩ 1 1 [.int .i64 x, .int .i64 y] rfl rfl HC.out (pair_one _ _) ?c3 ?c4 ?c5 ?_)
        case c3 => unfold maxLen; omega
        case c4 => omega
        case c5 => exact hba.size
        intro v5 w5 ho5 hg5 _ hat5
        have ho6 : w5.ownsRow w.heap.size 74 2 v5 (thenK p q X (k + 1)).length (cellsOf (thenK p q X (k + 1))) := by
          rw [hnx'.out, List.length_append, cellsOf_append]
          exact ho5
        have hv5 : ∃ h c, v5 = .slice (some ⟨h, 0, none⟩) (thenK p q X (k + 1)).length c ∧ h ≠ g := by
          rcases ho6.2 with ⟨_, h0⟩ | ⟨h', cap', cur, rfl, _⟩
          · rw [hnx'.out, List.length_append] at h0; simp at h0
          · refine ⟨h', cap', rfl, ?_⟩
            rcases hat5 with e | e
            · simp only [Value.ownBlock, Option.some.injEq] at e; omega
            · simp only [Value.ownBlock, Option.some.injEq] at e; omega
        obtain ⟨h5, c5, rfl, hne5⟩ := hv5
        have hi6 : IntsAt w5 (some ⟨g, 0, none⟩) X := by
          intro hp0
          obtain ⟨b', off', e, hbl, hcell⟩ := hia4 hp0
          simp only [Option.some.injEq, Addr.mk.injEq, and_true] at e
          obtain ⟨rfl, rfl⟩ := e
          exact ⟨g, 0, rfl, Nat.lt_of_lt_of_le hbl hg5.size, fun i hi => hg5.cell (a := ⟨g, 0 + i, none⟩) (hcell i hi) (fun e => by simp only [Value.ownBlock, Option.some.injEq] at e; omega)⟩
        have hg6 : g < w5.heap.size := by have := hg5.size; simp only [World.size_alloc] at this; omega
        have hb6 : Below w.heap.size w w5 := below_own hba hoa (Nat.le_refl _) hba.size hg5
        clear ho5 hg5 hat5 hba hoa HC hia4 hb hgx hnx' HX
        go_wp2
        refine ⟨⟨k + 1, by omega, by go_num, ⟨h5, c5, rfl, hne5⟩, ho6, hi6, hg6, hb6⟩, ?_⟩
        simp only [intOf]
        omega
      · have hd' : thenB p q x = false := by simpa using hd
        have hnx' : Hid (thenK p q X (k + 1) = F) := by show thenK p q X (k + 1) = F; rw [hnx, hd']; simp
        clear hnx hd
        have hd := hd'
        clear hd'
        unfold thenB at hd
        generalize imgL p (imgL q x) = y at hcp hd
        generalize imgL q x = z at hcp hcq
        go_wp2_with fail
        refine hcq.mono ?_
        rintro e wq ⟨rfl, rfl⟩
        clear hcq
        go_wp2_with fail
        refine hcp.mono ?_
        rintro e wq ⟨rfl, rfl⟩
        clear hcp
        rw [← hnx'.out] at ho ⊢
        clear hnx' hfl HX
        go_wp2
        refine ⟨⟨k + 1, by omega, by go_num, ⟨h, c, rfl, hne⟩, ho, hix, hgx, hb⟩, ?_⟩
        simp only [intOf]
        omega
    · have hkk : k = X.length := by omega
      have hpost : ThenPost (thenL p q) w (.returned (.slice (some ⟨h, 0, none⟩) (thenK p q X k).length c)) wr := ⟨h, c, by rw [HD.out, hkk], by rw [HD.out, ← hkk]; exact ho, hb⟩
      clear ho hix hb hkk
      go_wp2
      go_ret
      exact hpost

end Go.Proofs.Ytcginiklekdbgaa
end

