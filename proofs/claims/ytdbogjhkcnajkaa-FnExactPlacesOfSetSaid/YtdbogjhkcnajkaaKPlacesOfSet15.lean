/-
  The patterns that are among those of a list, as an orbit set: in the model, as a contract. ExamplesOf of both sides, as contracts.
-/
import Derived.Test.YtdbogjhkcnajkaaKPlacesOfSet11
import Derived.Test.YtdbogjhkcnajkaaKPlacesOfSet2
import Derived.Test.YtdbogjhkcnajkaaKPlacesOfSet14
import Derived.Test.YtdbogjhkcnajkaaKPlacesOfSet13
section
namespace Go.Proofs.Ytdbogjhkcnajkaa
open Go.RowKit Go.Sort
set_option linter.unusedVariables false

theorem allP_pos {k : Int} (hk : 0 ≤ k) : ∀ w, 0 < (allP w k).length
  | 0 => by simp [allP]
  | w + 1 => by
    have h1 := allP_pos hk w
    obtain ⟨p, hp⟩ : ∃ p, p ∈ allP w k := ⟨_, List.getElem_mem h1⟩
    have hx : p ++ [0] ∈ extP k p := by
      unfold extP
      rw [List.mem_map]
      have := newN_ge k p
      exact ⟨0, List.mem_range.2 (by omega), rfl⟩
    have hm : p ++ [0] ∈ allP (w + 1) k := List.mem_flatMap.2 ⟨p, hp, hx⟩
    exact List.length_pos_of_mem hm

set_option maxRecDepth 100000 in
set_option maxHeartbeats 8000000 in
theorem l6Those_any (n : Nat) (hn : n ≤ 4) (cs : List Int) (hcs : cs.length ≤ 3) (L : List (List Int)) (hf : FitR L) (A B : Option Addr) (c d : Nat) (w : World) (hA : ConstAt w A c cs) (hB : RowsIn w (.slice B L.length d) L) :
    Calls Try.prog 70 #[.int .i64 (n : Int), .slice A cs.length c, .slice B L.length d] w (OrbOut n cs (thoseL n cs.length L) w) := by
  have hb0 : Below w.heap.size w (w.alloc (.cells #[.int .i64 0, .slice none 0 0, .slice none 0 0] 29)) := (Below.refl _ _).alloc (Nat.le_refl _) _
  have hr0 := heap_alloc_new w (.cells #[.int .i64 0, .slice none 0 0, .slice none 0 0] 29)
  have hsz0 : (w.alloc (.cells #[.int .i64 0, .slice none 0 0, .slice none 0 0] 29)).heap.size = w.heap.size + 1 := by simp
  have hcp := l1Copy_ints A c cs (w.alloc (.cells #[.int .i64 0, .slice none 0 0, .slice none 0 0] 29)) (hA.below hb0).1 hA.2 (by omega)
  have HS0 := Lib.hid hsz0
  have HR0 := Lib.hid hr0
  have HB0 := Lib.hid hb0
  have HB := Lib.hid hB
  clear hb0 hr0 hsz0 hB hA
  go_enter Try.func70, Try.ntmps70
  go_wp2_with fail
  refine hcp.mono ?_
  rintro e w1 ⟨v1, rfl, ho1, hb1⟩
  obtain ⟨S1, hS1, hS1b, _⟩ := own_intRow ho1
  obtain ⟨A1, c1, rfl, _⟩ := at_intRow hS1.at_
  rw [HS0.out] at hS1b
  have hz1 : w.heap.size + 1 ≤ w1.heap.size := by have := hb1.size; rw [HS0.out] at this; exact this
  have r1 := (hb1.block w.heap.size (by rw [HS0.out]; omega)).trans HR0.out
  have hbw1 := HB0.out.trans (hb1.mono HB0.out.size)
  have hbx : Below w1.heap.size w1 (w1.alloc (.cells #[.int .i64 (n : Int), .slice A1 cs.length c1, .slice none 0 0] 29)) := (Below.refl _ _).alloc (Nat.le_refl _) _
  have r2 := (hbx.block w.heap.size (OrbK.box_lt r1)).trans r1
  have o2 := heap_alloc_new w1 (.cells #[.int .i64 (n : Int), .slice A1 cs.length c1, .slice none 0 0] 29)
  have hS2 := hS1.keep hbx
  have hbw2 := hbw1.trans (hbx.mono hbw1.size)
  have hz2 : (w1.alloc (.cells #[.int .i64 (n : Int), .slice A1 cs.length c1, .slice none 0 0] 29)).heap.size = w1.heap.size + 1 := by simp
  have hS1l : ∀ b ∈ S1, b < w1.heap.size := fun b hb => hS1.lt b hb
  have hal := l6All_any cs.length hcs n hn n rfl (w1.alloc (.cells #[.int .i64 (n : Int), .slice A1 cs.length c1, .slice none 0 0] 29))
  have HZ2 := Lib.hid hz2
  have HR2 := Lib.hid r2
  have HO2 := Lib.hid o2
  have HS2 := Lib.hid hS2
  have HBW := Lib.hid hbw2
  have HPL := Lib.hid (allP_pos (k := (cs.length : Int)) (by omega) n)
  have HPM := Lib.hid (allP_4096 (k := (cs.length : Int)) (by omega) (by omega) hn)
  have HRW := Lib.hid (fun i (hi : i < (allP n cs.length).length) => (allP_row (k := (cs.length : Int)) (by omega) hi).1)
  have HTH : Hid (thoseL n cs.length L = (allP n cs.length).filter fun p => thereB L p) := Lib.hid rfl
  generalize allP n cs.length = P at hal HPL HPM HRW HTH
  clear hcp ho1 hb1 hS1 r1 hbw1 hbx r2 o2 hS2 hbw2 hz2 HS0 HR0 HB0
  go_wp2_with fail
  refine hal.mono ?_
  rintro e w3 ⟨v3, S3, rfl, hS3, hS3b, hb3⟩
  rw [HZ2.out] at hS3b
  obtain ⟨g, off, cg, u, T, rfl, hleft, hTS, hgS⟩ := left_of hS3 HPL.out
  have hg0 := hS3b g hgS
  have o3 := (hb3.block w1.heap.size (OrbK.box_lt HO2.out)).trans HO2.out
  have r3 := (hb3.block w.heap.size (OrbK.box_lt HR2.out)).trans HR2.out
  have hS4 := HS2.out.keep hb3
  have hbw3 := HBW.out.trans (hb3.mono HBW.out.size)
  have hTb : ∀ j, ∀ b ∈ T j, w1.heap.size + 1 ≤ b := fun j b hb => hS3b b (hTS j b hb)
  have hBw : w.heap.size + 1 ≤ w1.heap.size := hz1
  have hTl : ∀ j, ∀ b ∈ T j, b < w3.heap.size := fun j b hb => hS3.lt b (hTS j b hb)
  clear hal hS3 hS3b hTS hgS HZ2 HR2 HO2 HS2 HBW hb3 hz1
  have o9 := Lib.hid o3
  have r9 := Lib.hid r3
  have ho0 : Own w3 [] (.slice none 0 0) (rowsMem ((P.take 0).filter fun p => thereB L p)) := by simp only [List.take_zero, List.filter_nil]; exact .nil _ _
  have HTL := Lib.hid hTl
  have HTB := Lib.hid hTb
  have HS1 := Lib.hid hS1l
  have HS1b := Lib.hid hS1b
  clear o3 r3 hTl hTb hS1l hS1b
  go_wp2
  go_loopw [9, 19] (fun _ i wr => ∃ (j : Nat) (U : List Nat) (A2 : Option Addr) (m2 c2 : Nat), j ≤ P.length ∧ i = .int .i64 j ∧ Hid (m2 = ((P.take j).filter fun p => thereB L p).length) ∧ Hid (wr.heap[w1.heap.size]? = some (.cells #[.int .i64 (n : Int), .slice A1 cs.length c1, .slice A2 m2 c2] 29 (0, 0))) ∧ Hid (wr.heap[w.heap.size]? = some (.cells #[.int .i64 0, .slice none 0 0, .slice none 0 0] 29 (0, 0))) ∧
    Hid (Own wr U (.slice A2 m2 c2) (rowsMem ((P.take j).filter fun p => thereB L p))) ∧ Hid (Own wr S1 (.slice A1 cs.length c1) (intMem cs)) ∧ Hid (Left wr P g off u T j) ∧ Hid (∀ b ∈ U, w1.heap.size + 1 ≤ b ∧ b ≠ g ∧ ∀ q, j ≤ q → b ∉ T q) ∧ Below w.heap.size w wr ∧ w3.heap.size ≤ wr.heap.size) (fun _ i _ => P.length - (intOf i).toNat)
  case atStart => exact ⟨0, [], none, 0, 0, Nat.zero_le _, rfl, Lib.hid (by simp), o9, r9, Lib.hid ho0, Lib.hid hS4, Lib.hid hleft, Lib.hid (fun b hb => by simp at hb), hbw3, Nat.le_refl _⟩
  case round =>
    clear o9 r9 ho0 hS4 hleft hbw3
    obtain ⟨j, U, A2, m2, c2, hj, rfl, hm2, ho, hr, hU, hK, hLf, hUb, hb, hsw⟩ := hrel
    have hjb : j ≤ 4096 := Nat.le_trans hj HPM.out
    have hPb : P.length ≤ 4096 := HPM.out
    by_cases hlt : j < P.length
    · obtain ⟨A3, c3, hu3, hA3, hc3, hO3⟩ := hLf.out.row hlt
      have hrl : (rwAt P j).length ≤ 4 := by have := HRW.out j hlt; omega
      have hfy := Lib.hid (fun h => filter_yes (f := fun p => thereB L p) hlt h)
      have hfn := Lib.hid (fun h => filter_no (f := fun p => thereB L p) hlt h)
      have hfl := filter_take_le P (fun p => thereB L p) j
      have HPM2 := HPM.out
      have hth := l6There_any B A3 d c3 L (rwAt P j) wr (HB.out.below hb) hA3.1 hf (by omega)
      obtain ⟨b0, b1, b2⟩ := OrbK.row3 ho.out
      have HO3 := Lib.hid hO3
      rw [← hm2.out] at hfl
      have hm2l : m2 ≤ 4096 := by omega
      have HDT := Lib.hid (fun b (h1 : b ∈ U) => (hUb.out b h1).2.2 j (Nat.le_refl _))
      have HDJ := Lib.hid (fun q (h : j + 1 ≤ q) b (h1 : b ∈ T j) => hLf.out.dis j q (by omega) b h1)
      have HGJ := Lib.hid (hLf.out.hd j)
      have hgl := hLf.out.lt
      have HTJ := Lib.hid (HTB.out j)
      clear hA3 hu3 hO3 hfl HPM2
      generalize hFF : (P.take j).filter (fun p => thereB L p) = FF at hU hfy hfn hm2
      generalize hpp : rwAt P j = p at hrl hfy hfn hth hc3 HO3 ⊢
      clear hFF hpp
      by_cases hin : thereB L p = true
      · rw [hin] at hth
        have HNX := Lib.hid (hfy.out hin)
        clear hfy hfn hin
        go_wp2_with fail
        (with_reducible refine hth.mono ?_)
        rintro e w5 ⟨rfl, hb5⟩
        clear hth b0 b1 b2 hc3
        have o5 := (hb5.block (w1.heap.size) (OrbK.box_lt ho.out)).trans ho.out
        have r5 := (hb5.block w.heap.size (OrbK.box_lt hr.out)).trans hr.out
        have hbx : Below w5.heap.size w5 (w5.alloc (.cells #[.slice A3 p.length c3] 27)) := (Below.refl _ _).alloc (Nat.le_refl _) _
        have hb56 := hb5.trans (hbx.mono hb5.size)
        have hU6 := hU.out.keep hb56
        have hO6 := HO3.out.keep hb56
        have o6 := (hbx.block w1.heap.size (OrbK.box_lt o5)).trans o5
        have hcell : (w5.alloc (.cells #[.slice A3 p.length c3] 27)).cell? ⟨w5.heap.size, 0, none⟩ = some (.slice A3 p.length c3) := by simp
        have HC := Lib.hid (one_cell hcell)
        have HLF := Lib.hid (hLf.out.below hb56)
        have HK6 := Lib.hid (hK.out.keep hb56)
        have HR6 := Lib.hid ((hbx.block w.heap.size (OrbK.box_lt r5)).trans r5)
        have hbw6 := hb.trans (hb56.mono hb.size)
        have hs5 := hb5.size
        have hBxl := OrbK.box_lt ho.out
        have hdl : FF.length + 1 ≤ 16777216 := by rw [← hm2.out]; omega
        rw [hm2.out] at o5 o6 hU6
        obtain ⟨b0, b1, b2⟩ := OrbK.row3 o5
        clear hcell hbx ho hr hU hK hLf HO3 hb
        have HO6 := Lib.hid o6
        have HBW6 := Lib.hid hbw6
        have HO66 := Lib.hid hO6
        clear o5 r5 o6 hbw6 hb56 hb5 hO6
        go_wp2_with (at_builtin; refine wpList_append_rows rfl (.tmp 27) (.tmp 29) rfl _ U FF rfl hU6 ⟨w5.heap.size, 0, none⟩ _ p (T j) rfl HC.out HO66.out HDT.out hdl ?_)
        intro g2 cap2 U3 w7 hU7 hU3 hon
        have o7 := (hon.block w1.heap.size (OrbK.box_lt HO6.out) (fun h => by have := (hUb.out _ h).1; omega)).trans HO6.out
        have r7 := (hon.block w.heap.size (OrbK.box_lt HR6.out) (fun h => by have := (hUb.out _ h).1; omega)).trans HR6.out
        have hK7 := HK6.out.alike (w' := w7) fun b hbb => hon.block b (HK6.out.lt b hbb) (fun h => by have h1 := (hUb.out _ h).1; have h2 := HS1.out b hbb; omega)
        have hLf7 := HLF.out.next.only hon (fun h => (hUb.out _ h).2.1 rfl) (fun q hq _ b h1 h2 => (hUb.out b h2).2.2 q (by omega) h1)
        have hb7 := Only.below HBW6.out hon HBW6.out.size (fun b h => by have := (hUb.out _ h).1; omega)
        have hs7 : w5.heap.size + 1 ≤ w7.heap.size := by have := hon.size; rw [World.size_alloc] at this; exact this
        have hU3b : ∀ b ∈ U3, w1.heap.size + 1 ≤ b ∧ b ≠ g ∧ ∀ q, j + 1 ≤ q → b ∉ T q := fun b h => by
          rcases hU3 b h with h1 | h1 | h1
          · exact ⟨(hUb.out b h1).1, (hUb.out b h1).2.1, fun q hq => (hUb.out b h1).2.2 q (by omega)⟩
          · exact ⟨HTJ.out b h1, fun e => HGJ.out (e ▸ h1), fun q hq => HDJ.out q hq b h1⟩
          · (try rw [World.size_alloc] at h1)
            exact ⟨by omega, by omega, fun q _ hq => by have := HTL.out q b hq; omega⟩
        have o8 : (w7.setCell ⟨w1.heap.size, 2, none⟩ (.slice (some ⟨g2, 0, none⟩) (FF.length + 1) cap2)).heap[w1.heap.size]? = some (.cells #[.int .i64 (n : Int), .slice A1 cs.length c1, .slice (some ⟨g2, 0, none⟩) (FF.length + 1) cap2] 29 (0, 0)) := heap_setCell_same w7 w1.heap.size 2 _ _ (.slice (some ⟨g2, 0, none⟩) (FF.length + 1) cap2) o7
        have on8 : Only [w1.heap.size] w7 (w7.setCell ⟨w1.heap.size, 2, none⟩ (.slice (some ⟨g2, 0, none⟩) (FF.length + 1) cap2)) := (Only.refl _ _).set ⟨w1.heap.size, 2, none⟩ _ (by simp)
        have r8 := (on8.block w.heap.size (OrbK.box_lt r7) (by simp; omega)).trans r7
        have hU8 := hU7.alike (w' := w7.setCell ⟨w1.heap.size, 2, none⟩ (.slice (some ⟨g2, 0, none⟩) (FF.length + 1) cap2)) fun b hbb => on8.block b (hU7.lt b hbb) (by have := (hU3b b hbb).1; simp; omega)
        have hK8 := hK7.alike (w' := w7.setCell ⟨w1.heap.size, 2, none⟩ (.slice (some ⟨g2, 0, none⟩) (FF.length + 1) cap2)) fun b hbb => on8.block b (hK7.lt b hbb) (by have := HS1.out b hbb; simp; omega)
        have hLf8 := hLf7.only on8 (by simp; omega) (fun q _ _ b h1 => by have := HTB.out q b h1; simp; omega)
        have hb8 : Below w.heap.size w (w7.setCell ⟨w1.heap.size, 2, none⟩ (.slice (some ⟨g2, 0, none⟩) (FF.length + 1) cap2)) := hb7.setCell (p := ⟨w1.heap.size, 2, none⟩) (show w.heap.size ≤ w1.heap.size by omega) _
        have hs8 : w3.heap.size ≤ (w7.setCell ⟨w1.heap.size, 2, none⟩ (.slice (some ⟨g2, 0, none⟩) (FF.length + 1) cap2)).heap.size := by simp; omega
        obtain ⟨b0, b1, b2⟩ := OrbK.row3 o7
        have y2 := frozen_of_row _ _ 2 _ _ o7
        have hln : Hid (FF.length + 1 = ((P.take (j + 1)).filter fun p => thereB L p).length) := Lib.hid (by rw [HNX.out, List.length_append]; rfl)
        rw [← HNX.out] at hU8
        have O8 := Lib.hid o8
        have R8 := Lib.hid r8
        have U8 := Lib.hid hU8
        have K8 := Lib.hid hK8
        have L8 := Lib.hid hLf8
        have B3 := Lib.hid hU3b
        clear o7 r7 hU7 hU3 hK7 hLf7 hb7 o8 on8 r8 hU8 hK8 hLf8 hU3b hon HO6 HR6 HK6 HLF HBW6 HO66 HC hUb HNX hU6
        go_wp2
        refine ⟨⟨j + 1, U3, some ⟨g2, 0, none⟩, FF.length + 1, cap2, by omega, by go_num, hln, O8, R8, U8, K8, L8, B3, hb8, hs8⟩, ?_⟩
        simp only [intOf]
        omega
      · have hin' : thereB L p = false := by simpa using hin
        rw [hin'] at hth
        have HNX := Lib.hid (hfn.out hin')
        clear hfy hfn hin hin'
        go_wp2_with fail
        (with_reducible refine hth.mono ?_)
        rintro e w5 ⟨rfl, hb5⟩
        have o5 := Lib.hid ((hb5.block (w1.heap.size) (OrbK.box_lt ho.out)).trans ho.out)
        have r5 := Lib.hid ((hb5.block w.heap.size (OrbK.box_lt hr.out)).trans hr.out)
        have U5 := Lib.hid (hU.out.keep hb5)
        have K5 := Lib.hid (hK.out.keep hb5)
        have L5 := Lib.hid ((hLf.out.below hb5).next)
        have B5 : Hid (∀ b ∈ U, w1.heap.size + 1 ≤ b ∧ b ≠ g ∧ ∀ q, j + 1 ≤ q → b ∉ T q) := Lib.hid (fun b h1 => ⟨(hUb.out b h1).1, (hUb.out b h1).2.1, fun q hq => (hUb.out b h1).2.2 q (by omega)⟩)
        have hb7 := hb.trans (hb5.mono hb.size)
        have hs7 : w3.heap.size ≤ w5.heap.size := Nat.le_trans hsw hb5.size
        rw [← HNX.out] at U5 hm2
        clear hth b0 b1 b2 hc3 hb5 ho hr hU hK hLf hUb HNX HO3 hb hsw
        go_wp2
        refine ⟨⟨j + 1, U, A2, m2, c2, by omega, by go_num, hm2, o5, r5, U5, K5, L5, B5, hb7, hs7⟩, ?_⟩
        simp only [intOf]
        omega
    · have e : j = P.length := by omega
      subst e
      rw [List.take_length] at hU hm2
      have hUo := hU.out
      rw [hm2.out] at hUo
      have o5 := ho.out
      rw [hm2.out] at o5
      have r5 := hr.out
      have hKo := hK.out
      generalize P.filter (fun p => thereB L p) = R at hUo o5 HTH
      have hd : ∀ b ∈ S1, b ∉ U := fun b h1 h2 => by have h3 := HS1.out b h1; have h4 := (hUb.out b h2).1; omega
      have hL := orb_ownL (z := (n : Int)) hKo hUo hd
      have hLb : ∀ b ∈ S1 ++ (U ++ []), w.heap.size < b := fun b hb => by
        rw [List.append_nil] at hb
        rcases List.mem_append.1 hb with h | h
        · have := HS1b.out b h; omega
        · have := (hUb.out b h).1; omega
      have onF : Only [w.heap.size] wr (((wr.setCell ⟨w.heap.size, 0, none⟩ (.int .i64 (n : Int))).setCell ⟨w.heap.size, 1, none⟩ (.slice A1 cs.length c1)).setCell ⟨w.heap.size, 2, none⟩ (.slice A2 R.length c2)) := (((Only.refl _ _).set ⟨w.heap.size, 0, none⟩ _ (by simp)).set ⟨w.heap.size, 1, none⟩ _ (by simp)).set ⟨w.heap.size, 2, none⟩ _ (by simp)
      have hbF : Below w.heap.size w (((wr.setCell ⟨w.heap.size, 0, none⟩ (.int .i64 (n : Int))).setCell ⟨w.heap.size, 1, none⟩ (.slice A1 cs.length c1)).setCell ⟨w.heap.size, 2, none⟩ (.slice A2 R.length c2)) := ((hb.setCell (p := ⟨w.heap.size, 0, none⟩) (Nat.le_refl _) _).setCell (p := ⟨w.heap.size, 1, none⟩) (Nat.le_refl _) _).setCell (p := ⟨w.heap.size, 2, none⟩) (Nat.le_refl _) _
      have hLF := hL.alike (w' := (((wr.setCell ⟨w.heap.size, 0, none⟩ (.int .i64 (n : Int))).setCell ⟨w.heap.size, 1, none⟩ (.slice A1 cs.length c1)).setCell ⟨w.heap.size, 2, none⟩ (.slice A2 R.length c2))) fun bb hbb => onF.block bb (hL.lt bb hbb) (by have := hLb bb hbb; simp; omega)
      have hpost : OrbOut n cs (thoseL n cs.length L) w (.returned (.agg #[.int .i64 (n : Int), .slice A1 cs.length c1, .slice A2 R.length c2])) (((wr.setCell ⟨w.heap.size, 0, none⟩ (.int .i64 (n : Int))).setCell ⟨w.heap.size, 1, none⟩ (.slice A1 cs.length c1)).setCell ⟨w.heap.size, 2, none⟩ (.slice A2 R.length c2)) :=
        by rw [HTH.out]; exact ⟨A1, c1, A2, c2, _, rfl, hLF, fun b hb => by have := hLb b hb; omega, hbF⟩
      obtain ⟨x0, x1, x2⟩ := OrbK.row3 o5
      obtain ⟨s0, s1, s2⟩ := OrbK.row3 r5
      have z0 := frozen_of_row _ _ 0 _ _ r5
      have z1 := frozen_of_row _ _ 1 _ _ r5
      have z2 := frozen_of_row _ _ 2 _ _ r5
      clear hLF hL hLb hd hbF onF o5 r5 hUo hKo ho hr hU hK hLf hUb hb hm2
      go_wp2
      exact bodyPost_ret (v := .agg #[.int .i64 (n : Int), .slice A1 cs.length c1, .slice A2 R.length c2]) (by simp [results, Try.results70, go_sem, s0, s1, s2]) rfl hpost
end Go.Proofs.Ytdbogjhkcnajkaa
end

section
namespace Go.Proofs.Ytdbogjhkcnajkaa
open Go.RowKit Go.Sort
set_option linter.unusedVariables false

set_option maxRecDepth 100000 in
set_option maxHeartbeats 2000000 in
theorem takenAt_any (A B : Option Addr) (c d : Nat) (V p : List Int) (w : World) (hA : IntsAt w A V) (hB : IntsAt w B p) (hlv : V.length ≤ 1048576) (hlp : p.length ≤ 1048576) (hin : ∀ i, i < p.length → 0 ≤ itAt p i ∧ (itAt p i).toNat < V.length) :
    Calls Try.prog 92 #[.slice A V.length c, .slice B p.length d] w (NewInts (exL V p) w) := by
  obtain ⟨i0, hi0, hz0, hz1, hz2⟩ := info_parts int_infoM
  have HS := Lib.hid hz2
  clear hz2
  go_enter Try.func92, Try.ntmps92
  go_wp2
  go_loopw [5, 7, 11] (fun v _ i wr => ∃ k : Nat, k ≤ p.length ∧ i = .int .i64 k ∧ wr.ownsRow w.heap.size 3 1 v k (icells (exL V (p.take k))) ∧ Below w.heap.size w wr) (fun _ _ i _ => p.length - (intOf i).toNat)
  case atStart => exact ⟨0, Nat.zero_le _, rfl, World.ownsRow_lit w #[] 0 (Nat.le_refl _) (by decide) rfl, (Below.refl _ _).alloc (Nat.le_refl _) _⟩
  case round =>
    obtain ⟨k, hk, rfl, ho, hb⟩ := hrel
    by_cases hlt : k < p.length
    · obtain ⟨h0, h1⟩ := hin k hlt
      obtain ⟨b1, o1, rfl, hb1, hc1⟩ := hB (by omega)
      obtain ⟨b2, o2, rfl, hb2, hc2⟩ := hA (by omega)
      have c1 := hc1 k hlt
      rw [← hb.cell (p := ⟨b1, _, none⟩) hb1] at c1
      have hnext := Lib.hid (exL_next (V := V) hlt)
      obtain ⟨n, hn⟩ : ∃ n : Nat, itAt p k = n := ⟨(itAt p k).toNat, by omega⟩
      rw [hn] at c1 h1 hnext
      rw [Int.toNat_natCast] at h1 hnext
      have c2 := hc2 n h1
      rw [← hb.cell (p := ⟨b2, _, none⟩) hb2] at c2
      have hni : (n : Int) < (V.length : Int) := by omega
      have hn0 : (0 : Int) ≤ (n : Int) := by omega
      clear hc1 hc2 hA hB hin hn h0 h1
      generalize itAt V n = a at c2 hnext
      have ho1 := ho.alloc (.cells #[.int .i64 a] 3)
      have hb3 := hb.alloc hb.size (.cells #[.int .i64 a] 3)
      have hsz : w.heap.size ≤ wr.heap.size := hb.size
      have hcell : (wr.alloc (.cells #[.int .i64 a] 3)).cell? ⟨wr.heap.size, 0, none⟩ = some (.int .i64 a) := by simp
      have HC := Lib.hid (one_cell hcell)
      clear hcell ho hb
      go_wp2_with (at_builtin; refine wpList_append_own _ rfl (.tmp 15) (.tmp 20) 27 rfl w.heap.size 3 i0 (.int .i64 0) 1 8 Try.underlying27 hi0 hz0 hz1 HS.out rfl (by decide) _ k _ rfl ho1 ⟨wr.heap.size, 0, none⟩ 1 1 [.int .i64 a] rfl rfl HC.out (int_one _) ?c3 ?c4 ?c5 ?_)
      case c3 => unfold maxLen; omega
      case c4 => omega
      case c5 => simp; omega
      intro v2 w2 ho3 hg _
      have ho4 : w2.ownsRow w.heap.size 3 1 v2 (k + 1) (icells (exL V (p.take (k + 1)))) := by
        rw [hnext.out, icells_append]
        exact ho3
      have hb4 : Below w.heap.size w w2 := below_own hb3 ho1 (Nat.le_refl _) (by simp; omega) hg
      clear ho3 hg ho1 hb3 hnext HC c1 c2
      go_wp2
      refine ⟨⟨k + 1, by omega, by go_num, ho4, hb4⟩, ?_⟩
      simp only [intOf]
      omega
    · have e : k = p.length := by omega
      subst e
      rw [List.take_length] at ho
      have e := Lib.hid (exL_len V p)
      have hpost : NewInts (exL V p) w (.returned u5) wr := ⟨_, rfl, by rw [e.out]; exact ho, hb⟩
      clear ho hb hA hB hin
      go_wp2
      go_ret
      exact hpost

set_option maxRecDepth 100000 in
set_option maxHeartbeats 4000000 in
theorem examplesFor_any (A B : Option Addr) (c d : Nat) (cs : List Int) (m : List (List Int)) (w : World) (hA : IntsAt w A cs) (hB : RowsIn w (.slice B m.length d) m) (hlc : cs.length ≤ 1000) (hlm : m.length ≤ 2097152) (hrm : ∀ i, i < m.length → isPatB cs.length (rwAt m i) = true ∧ (rwAt m i).length ≤ 4) :
    Calls Try.prog 115 #[.slice A cs.length c, .slice B m.length d] w (RowsOut (exsL cs m) w) := by
  obtain ⟨i0, hi0, hz0, hz1, hz2⟩ := info_parts int_infoM
  have HS := Lib.hid hz2
  clear hz2
  have hcl := clone_any A c cs w hA (by omega)
  have HRM := Lib.hid hrm
  clear hA hrm
  go_enter Try.func115, Try.ntmps115
  go_wp2_with (go_at_call 132; refine hcl.mono ?_; rintro e w1 ⟨v1, rfl, ho1, hb1⟩)
  clear hcl
  go_loopw [5, 11] (fun v5 i wr => ∃ k : Nat, k ≤ 4 ∧ i = .int .i64 k ∧ wr.ownsRow w.heap.size 3 1 v5 (numL cs k).length (icells (numL cs k)) ∧ Below w.heap.size w wr) (fun _ i _ => 4 - (intOf i).toNat)
  case atStart => exact ⟨0, by omega, rfl, ho1, hb1⟩
  case round =>
    clear ho1 hb1
    obtain ⟨k, hk, rfl, ho, hb⟩ := hrel
    by_cases hlt : k < 4
    · obtain ⟨A5, c5, rfl, hA5⟩ := own_intsAt ho
      have hnl := numL_len cs k
      have hnl2 : (numL cs k).length ≤ 1004 := by omega
      have hle := least_impl A5 c5 (numL cs k) wr hA5 (by omega)
      have hnx : Hid (numL cs (k + 1) = numL cs k ++ [leastF (numL cs k)]) := Lib.hid rfl
      have hln : Hid ((numL cs (k + 1)).length = (numL cs k).length + 1) := Lib.hid (by rw [numL_len, numL_len]; omega)
      generalize leastF (numL cs k) = a at hle hnx
      generalize numL cs k = V at *
      have hs0 := hb.size
      have hk4 : (k : Int) < 4 := by omega
      clear hA5 hnl
      go_wp2_with fail
      refine hle.mono ?_
      rintro e w2 ⟨rfl, hb2⟩
      have ho2 := own_below ho hb2
      have hb3 := hb.trans (hb2.mono hb.size)
      have ho3 := ho2.alloc (.cells #[.int .i64 a] 3)
      have hb4 := hb3.alloc hb3.size (.cells #[.int .i64 a] 3)
      have hsz := hb4.size
      have hcell : (w2.alloc (.cells #[.int .i64 a] 3)).cell? ⟨w2.heap.size, 0, none⟩ = some (.int .i64 a) := by simp
      have HC := Lib.hid (one_cell hcell)
      clear hcell ho hb ho2 hb2 hb3 hle
      go_wp2_with (at_builtin; refine wpList_append_own _ rfl (.tmp 13) (.tmp 16) 27 rfl w.heap.size 3 i0 (.int .i64 0) 1 8 Try.underlying27 hi0 hz0 hz1 HS.out rfl (by decide) _ V.length _ rfl ho3 ⟨w2.heap.size, 0, none⟩ 1 1 [.int .i64 a] rfl rfl HC.out (int_one _) ?c3 ?c4 ?c5 ?_)
      case c3 => unfold maxLen; omega
      case c4 => omega
      case c5 => exact hsz
      intro v5 w5 ho5 hg _
      have ho6 : w5.ownsRow w.heap.size 3 1 v5 (numL cs (k + 1)).length (icells (numL cs (k + 1))) := by
        rw [hln.out, hnx.out, icells_append]
        exact ho5
      have hb6 : Below w.heap.size w w5 := below_own hb4 ho3 (Nat.le_refl _) hsz hg
      clear ho5 hg ho3 hb4 hsz hnx hln HC
      go_wp2
      refine ⟨⟨k + 1, by omega, by go_num, ho6, hb6⟩, ?_⟩
      simp only [intOf]
      omega
    · have e : k = 4 := by omega
      subst e
      rw [show ((4 : Nat) : Int) = 4 from rfl]
      have hnl := numL_len cs 4
      have hnl2 : (numL cs 4).length ≤ 1004 := by omega
      have HTK := Lib.hid (fun i (hi : i < m.length) => pat_places (HRM.out i hi).1 (V := numL cs 4) (by have := (HRM.out i hi).2; omega))
      have HNX := Lib.hid (fun i (hi : i < m.length) => exsL_next (l := cs) hi)
      have HEL := Lib.hid (exsL_len cs)
      have hex0 : exsL cs [] = [] := rfl
      obtain ⟨A5, c5, rfl, _⟩ := own_intsAt ho
      generalize numL cs 4 = V at *
      generalize exsL cs = E at *
      have hbx : Below wr.heap.size wr (wr.alloc (.cells #[] 27)) := (Below.refl _ _).alloc (Nat.le_refl _) _
      have hoR := own_lit0 wr
      have ho2 := own_below ho hbx
      have hb2 := hb.trans (hbx.mono hb.size)
      have hst : ∀ b ∈ [wr.heap.size], w.heap.size ≤ b ∧ (Value.slice A5 V.length c5).ownBlock ≠ some b := fun b h => by
        simp at h
        subst h
        exact ⟨hb.size, fun e => by have := (ho.lt _ e).2; omega⟩
      clear ho hb hbx hnl
      go_wp2
      go_loopw [6, 8, 22] (fun v6 _ i wr => ∃ (j : Nat) (U : List Nat), j ≤ m.length ∧ i = .int .i64 j ∧ Own wr U v6 (rowsMem (E (m.take j))) ∧ wr.ownsRow w.heap.size 3 1 (.slice A5 V.length c5) V.length (icells V) ∧ (∀ b ∈ U, w.heap.size ≤ b ∧ (Value.slice A5 V.length c5).ownBlock ≠ some b) ∧ Below w.heap.size w wr) (fun _ _ i _ => m.length - (intOf i).toNat)
      case atStart => exact ⟨0, _, Nat.zero_le _, rfl, by rw [List.take_zero, hex0]; exact hoR, ho2, hst, hb2⟩
      case round =>
        clear hoR ho2 hb2 hst
        obtain ⟨j, U, hj, rfl, hoU, ho, hUT, hb⟩ := hrel
        by_cases hlt : j < m.length
        · obtain ⟨b1, o1, rfl, hb1, hc1⟩ := (hB.below hb).get (by omega)
          obtain ⟨A1, c1, d1, hA1⟩ := hc1 j hlt
          have hAV : IntsAt wr A5 V := by
            obtain ⟨A', c', e, h⟩ := own_intsAt ho
            simp only [Value.slice.injEq] at e
            rw [e.1]; exact h
          have hta := takenAt_any A5 A1 c5 c1 V (rwAt m j) wr hAV hA1 (by omega) (by have := (HRM.out j hlt).2; omega) (HTK.out j hlt)
          have hnx := Lib.hid (HNX.out j hlt)
          have hel : Hid ((E (m.take j)).length = j) := Lib.hid (by rw [HEL.out, List.length_take]; omega)
          have hpl : (rwAt m j).length ≤ 4 := (HRM.out j hlt).2
          generalize exL V (rwAt m j) = X at hta hnx
          generalize (rwAt m j).length = pl at *
          have hs0 := hb.size
          clear hc1 hA1 hAV
          go_wp2_with fail
          refine hta.mono ?_
          rintro e w2 ⟨v2, rfl, ho2, hb2⟩
          obtain ⟨R, hR, hRb, hRe⟩ := own_intRow ho2
          obtain ⟨A9, c9, rfl, _⟩ := own_intSlice hR
          clear hRe
          have hbx : Below w2.heap.size w2 (w2.alloc (.cells #[.slice A9 X.length c9] 27)) := (Below.refl _ _).alloc (Nat.le_refl _) _
          have hb3 := hb2.trans (hbx.mono hb2.size)
          have hR3 := hR.keep hbx
          have hU3 := hoU.keep hb3
          have ho3 := own_below ho hb3
          have hbw3 := hb.trans (hb3.mono hb.size)
          have hs3 := hbw3.size
          have hcell : (w2.alloc (.cells #[.slice A9 X.length c9] 27)).cell? ⟨w2.heap.size, 0, none⟩ = some (.slice A9 X.length c9) := by simp
          have HC := Lib.hid (one_cell hcell)
          have hUl : ∀ b ∈ U, b < wr.heap.size := fun b h => hoU.lt b h
          have hvl : ∀ k, (Value.slice A5 V.length c5).ownBlock = some k → k < wr.heap.size := fun k e => (ho.lt k e).2
          have hdis : ∀ b ∈ U, b ∉ R := fun b h1 h2 => by have := hUl b h1; have := hRb b h2; omega
          have hdl : (E (m.take j)).length + 1 ≤ 16777216 := by rw [hel.out]; omega
          have hs2 := hb2.size
          clear hcell hbx hR ho2 hoU ho hb hb2 hb3 hta
          generalize X.length = xl at *
          go_wp2_with (at_builtin; refine wpList_append_rows rfl (.tmp 26) (.tmp 30) rfl _ U _ rfl hU3 ⟨w2.heap.size, 0, none⟩ _ _ R rfl HC.out hR3 hdis hdl ?_)
          intro g2 cap2 U3 w10 hU10 hUU hon
          have ho10 := own_only ho3 hon (fun k e h => (hUT k h).2 e)
          have hb10 := Only.below hbw3 hon hs3 (fun b h => (hUT b h).1)
          have hUT3 : ∀ b ∈ U3, w.heap.size ≤ b ∧ (Value.slice A5 V.length c5).ownBlock ≠ some b := fun b h => by
            rcases hUU b h with h1 | h1 | h1
            · exact hUT b h1
            · have h2 := hRb b h1
              exact ⟨by omega, fun e => by have := hvl b e; omega⟩
            · have h1' : b = w2.heap.size + 1 := by simpa using h1
              exact ⟨by omega, fun e => by have := hvl b e; omega⟩
          rw [← hnx.out] at hU10
          clear hU3 ho3 hbw3 hon hUU hUT hRb hR3 hdis HC hnx hUl hvl
          go_wp2
          refine ⟨⟨j + 1, U3, by omega, by go_num, hU10, ho10, hUT3, hb10⟩, ?_⟩
          simp only [intOf]
          omega
        · have e : j = m.length := by omega
          subst e
          rw [List.take_length] at hoU
          have hpost : RowsOut (E m) w (.returned u6) wr := ⟨_, U, rfl, hoU, fun b h => (hUT b h).1, hb⟩
          clear hoU ho hUT hb
          go_wp2
          go_ret
          exact hpost

theorem rowsOut_empty {w w1 : World} (hb : Below w.heap.size w w1) : RowsOut [] w (.returned (.slice (some ⟨w1.heap.size, 0, none⟩) 0 0)) (w1.alloc (.cells #[] 27)) :=
  ⟨_, _, rfl, own_lit0 w1, fun b h => by simp at h; subst h; exact hb.size, hb.alloc hb.size _⟩
theorem rowsOut_later {ls : List (List Int)} {w w1 w2 : World} {v : Value} {S : List Nat} (h : Own w2 S v (rowsMem ls)) (hS : ∀ b ∈ S, w1.heap.size ≤ b) (hb2 : Below w1.heap.size w1 w2) (hb : Below w.heap.size w w1) : RowsOut ls w (.returned v) w2 :=
  ⟨v, S, rfl, h, fun b hbb => Nat.le_trans hb.size (hS b hbb), hb.trans (hb2.mono hb.size)⟩

set_option maxRecDepth 100000 in
set_option maxHeartbeats 4000000 in
theorem examplesOf_impl (z : Int) (l : List Int) (m : List (List Int)) (hf : FitO l m) (x : Value) (w : World) (hx : OrbIx w x z l m) :
    Calls Try.prog 91 #[x] w (RowsOut (exsR z l m) w) := by
  have hX := hx
  obtain ⟨A, c, B, d, rfl, hl, hmr, hm⟩ := hx
  have hb0 : Below w.heap.size w (w.alloc (.cells #[.int .i64 z, .slice A l.length c, .slice B m.length d] 29)) := (Below.refl _ _).alloc (Nat.le_refl _) _
  have k0 := heap_alloc_new w (.cells #[.int .i64 z, .slice A l.length c, .slice B m.length d] 29)
  obtain ⟨m0, m1, m2⟩ := OrbK.row3 k0
  have hio := isOrbitSet_impl z l m hf _ _ (hX.below hb0)
  have HB0 := Lib.hid hb0
  have HK0 := Lib.hid k0
  cases ho : orbB z l m with
  | false =>
    rw [ho] at hio
    rw [exsR_no ho]
    clear hl hmr hm k0 hX
    go_enter Try.func91, Try.ntmps91
    go_wp2_with (go_at_call 77; refine hio.mono ?_; rintro e w2 ⟨rfl, hb2⟩; have hb3 := HB0.out.trans (hb2.mono HB0.out.size))
    have hpost := rowsOut_empty hb3
    clear hio hb2 m0 m1 m2 hb0 hb3
    go_ret
    exact hpost
  | true =>
    rw [ho] at hio
    rw [exsR_yes ho]
    obtain ⟨hwz, hro⟩ := orb_rows ho
    have hz4 := widB_iff.1 hwz
    have hk3 := const_len (orb_const ho)
    have hef := fun W (h : Below w.heap.size w W) => examplesFor_any A B c d l m W (hl.1.below h) (hmr.below h) (by omega) hf.2.1 (fun i hi => ⟨(rowsOk_at hro hi).2, by have := (rowsOk_at hro hi).1; omega⟩)
    clear hl hmr hm k0 hX ho hro hwz
    generalize exsL l m = E at *
    go_enter Try.func91, Try.ntmps91
    go_wp2_with (first
      | (go_at_call 77; refine hio.mono ?_; rintro e w2 ⟨rfl, hb2⟩; have hb3 := HB0.out.trans (hb2.mono HB0.out.size); have k2 := (hb2.block _ (OrbK.box_lt HK0.out)).trans HK0.out; clear m0 m1 m2; obtain ⟨m0, m1, m2⟩ := OrbK.row3 k2)
      | (go_at_call 115; refine (hef _ hb3).mono ?_; rintro e w4 ⟨v4, S4, rfl, hS4, hSb4, hb4⟩))
    have hpost := rowsOut_later hS4 hSb4 hb4 hb3
    clear hio hb2 m0 m1 m2 hb0 hb3 hef hS4 hSb4 hb4 k2
    go_ret
    exact hpost

set_option maxRecDepth 100000 in
set_option maxHeartbeats 4000000 in
theorem l6Example_any (A B : Option Addr) (c d : Nat) (cs p : List Int) (w : World) (hA : IntsAt w A cs) (hz : A = none → c = 0) (hB : IntsAt w B p) (hlc : cs.length ≤ 1000) (hl4 : p.length ≤ 4) (hin : ∀ i, i < p.length → 0 ≤ itAt p i ∧ (itAt p i).toNat < cs.length + p.length) :
    Calls Try.prog 87 #[.slice A cs.length c, .slice B p.length d] w (NewInts (exL (numL cs p.length) p) w) := by
  obtain ⟨i0, hi0, hz0, hz1, hz2⟩ := info_parts int_infoM
  have HS := Lib.hid hz2
  clear hz2
  have hcl := l1Copy_ints A c cs w hA hz (by omega)
  clear hA hz
  go_enter Try.func87, Try.ntmps87
  go_wp2_with (go_at_call 122; refine hcl.mono ?_; rintro e w1 ⟨v1, rfl, ho1, hb1⟩)
  clear hcl
  obtain ⟨A1, c1, rfl, _⟩ := own_intsAt ho1
  go_loopw [5] (fun v5 wr => ∃ (k : Nat) (A5 : Option Addr) (c5 : Nat), k ≤ p.length ∧ v5 = .slice A5 (cs.length + k) c5 ∧ wr.ownsRow w.heap.size 3 1 v5 (cs.length + k) (icells (numL cs k)) ∧ Below w.heap.size w wr) (fun v5 _ => cs.length + p.length - (match v5 with | .slice _ n _ => n | _ => 0))
  case atStart => exact ⟨0, A1, c1, by omega, rfl, ho1, hb1⟩
  case round =>
    clear ho1 hb1
    obtain ⟨k, A5, c5, hk, rfl, ho, hb⟩ := hrel
    have hnl := numL_len cs k
    by_cases hlt : k < p.length
    · have hlti : ((cs.length + k : Nat) : Int) < (cs.length : Int) + (p.length : Int) := by omega
      have hA5 : IntsAt wr A5 (numL cs k) := by
        rw [← hnl] at ho
        obtain ⟨A', c', e, h⟩ := own_intsAt ho
        simp only [Value.slice.injEq] at e
        rw [e.1]; exact h
      have hle := least_spec A5 c5 (numL cs k) wr hA5 (by omega)
      have hnx : Hid (numL cs (k + 1) = numL cs k ++ [leastF (numL cs k)]) := Lib.hid rfl
      rw [hnl] at hle
      generalize leastF (numL cs k) = a at hle hnx
      generalize numL cs k = V at *
      generalize hcn : cs.length = cn at *
      generalize hpn : p.length = pn at *
      have hs0 := hb.size
      have ho3 := ho.alloc (.cells #[.int .i64 a] 3)
      have hb4 := hb.alloc hb.size (.cells #[.int .i64 a] 3)
      have hcell : (wr.alloc (.cells #[.int .i64 a] 3)).cell? ⟨wr.heap.size, 0, none⟩ = some (.int .i64 a) := by simp
      have HC := Lib.hid (one_cell hcell)
      have HCN := Lib.hid hcn; have HPN := Lib.hid hpn; have HNL := Lib.hid hnl
      clear hA5 hnl hcell ho hb hcn hpn
      go_wp2_with (first
        | (go_at_call 134; refine hle.mono ?_; rintro e w2 ⟨rfl, rfl⟩)
        | (at_builtin; refine wpList_append_own _ rfl (.tmp 19) (.tmp 22) 27 rfl w.heap.size 3 i0 (.int .i64 0) 1 8 Try.underlying27 hi0 hz0 hz1 HS.out rfl (by decide) _ (cn + k) _ rfl ho3 ⟨wr.heap.size, 0, none⟩ 1 1 [.int .i64 a] rfl rfl HC.out (int_one _) ?c3 ?c4 ?c5 ?_))
      case c3 => unfold maxLen; omega
      case c4 => omega
      case c5 => simp; omega
      intro v5 w5 ho5 hg _
      have ho6 : w5.ownsRow w.heap.size 3 1 v5 (cn + (k + 1)) (icells (numL cs (k + 1))) := by
        rw [hnx.out, icells_append, ← Nat.add_assoc]
        exact ho5
      have hb6 : Below w.heap.size w w5 := below_own hb4 ho3 (Nat.le_refl _) (by simp; omega) hg
      obtain ⟨g, cap, rfl, _⟩ : ∃ g cap, v5 = .slice (some ⟨g, 0, none⟩) (cn + (k + 1)) cap ∧ True := by
        rcases ho6.2 with ⟨_, h0⟩ | ⟨g, cap, cur, e, _⟩
        · omega
        · exact ⟨g, cap, e, trivial⟩
      clear ho5 hg ho3 hb4 hnx HC hle
      go_wp2
      refine ⟨⟨k + 1, some ⟨g, 0, none⟩, cap, by omega, rfl, ho6, hb6⟩, ?_⟩
      dsimp only
      omega
    · have e : k = p.length := by omega
      subst e
      have hlti : ¬ ((cs.length + p.length : Nat) : Int) < (cs.length : Int) + (p.length : Int) := by omega
      rw [← hnl] at ho hin hlti
      have hcl0 : cs.length ≤ (numL cs p.length).length := by omega
      have hnl2 : (numL cs p.length).length ≤ 1004 := by omega
      have hlt3 : ¬ ((numL cs p.length).length : Int) < (cs.length : Int) + (p.length : Int) := by omega
      rw [← hnl]
      clear hnl hlti
      generalize numL cs p.length = V at *
      have hA5 : IntsAt wr A5 V := by
        obtain ⟨A', c', e, h⟩ := own_intsAt ho
        simp only [Value.slice.injEq] at e
        rw [e.1]; exact h
      have hbx : Below wr.heap.size wr (wr.alloc (.cells #[] 3)) := (Below.refl _ _).alloc (Nat.le_refl _) _
      have hb2 := hb.trans (hbx.mono hb.size)
      have hp0 : (wr.alloc (.cells #[] 3)).ownsRow wr.heap.size 3 1 (.slice (some ⟨wr.heap.size, 0, none⟩) 0 0) 0 [] := World.ownsRow_lit wr #[] 0 (Nat.le_refl _) (by decide) rfl
      have HE := Lib.hid (exL_len V)
      clear ho
      go_wp2
      obtain ⟨W0, rfl⟩ : ∃ W0, W0 = wr := ⟨_, rfl⟩
      go_loopw [6, 8, 27] (fun v _ i wq => ∃ q : Nat, q ≤ p.length ∧ i = .int .i64 q ∧ wq.ownsRow W0.heap.size 3 1 v q (icells (exL V (p.take q))) ∧ Below W0.heap.size W0 wq) (fun _ _ i _ => p.length - (intOf i).toNat)
      case atStart => exact ⟨0, Nat.zero_le _, rfl, hp0, hbx⟩
      case round =>
        clear hp0
        obtain ⟨q, hq, rfl, ho, hbq⟩ := hrel
        by_cases hlq : q < p.length
        · obtain ⟨h0, h1⟩ := hin q hlq
          have h1 : (itAt p q).toNat < V.length := by omega
          obtain ⟨b1, o1, rfl, hb1, hc1⟩ := (hB.below (hb.trans (hbq.mono hb.size))) (by omega)
          have hA7 := hA5.below hbq
          obtain ⟨b2, o2, rfl, hb2', hc2⟩ := hA7 (by omega)
          have c1 := hc1 q hlq
          have hnext := Lib.hid (exL_next (V := V) hlq)
          obtain ⟨n, hn⟩ : ∃ n : Nat, itAt p q = n := ⟨(itAt p q).toNat, by omega⟩
          rw [hn] at c1 h1 hnext
          rw [Int.toNat_natCast] at h1 hnext
          have c2 := hc2 n h1
          have hni : (n : Int) < (V.length : Int) := by omega
          have hn0 : (0 : Int) ≤ (n : Int) := by omega
          clear hc1 hc2 hn h0 hA7 hin
          generalize itAt V n = a at c2 hnext
          have ho1 := ho.alloc (.cells #[.int .i64 a] 3)
          have hbq3 := hbq.alloc hbq.size (.cells #[.int .i64 a] 3)
          have hsz : W0.heap.size ≤ wr.heap.size := hbq.size
          have hcell : (wr.alloc (.cells #[.int .i64 a] 3)).cell? ⟨wr.heap.size, 0, none⟩ = some (.int .i64 a) := by simp
          have HC := Lib.hid (one_cell hcell)
          clear hcell ho hbq
          go_wp2_with (at_builtin; refine wpList_append_lies _ rfl (.tmp 31) (.tmp 36) 27 rfl W0.heap.size 3 i0 (.int .i64 0) 1 8 Try.underlying27 hi0 hz0 hz1 HS.out rfl (by decide) _ q _ rfl ho1 ⟨wr.heap.size, 0, none⟩ 1 1 [.int .i64 a] rfl rfl HC.out (int_one _) (by decide) ?c3 ?c4 ?c5 _ rfl ?_)
          case c3 => unfold maxLen; omega
          case c4 => omega
          case c5 => simp; omega
          intro g cap w2 ho3 hg _ _
          have ho4 : w2.ownsRow W0.heap.size 3 1 (.slice (some ⟨g, 0, none⟩) (q + 1) cap) (q + 1) (icells (exL V (p.take (q + 1)))) := by
            rw [hnext.out, icells_append]
            exact ho3
          have hb4 : Below W0.heap.size W0 w2 := below_own hbq3 ho1 (Nat.le_refl _) (by simp; omega) hg
          clear ho3 hg ho1 hbq3 hnext HC c1 c2 hA5 hB
          go_wp2
          refine ⟨⟨q + 1, by omega, by go_num, ho4, hb4⟩, ?_⟩
          simp only [intOf]
          omega
        · have e : q = p.length := by omega
          subst e
          rw [List.take_length] at ho
          have hpost : NewInts (exL V p) w (.returned u6) wr := ⟨_, rfl, by rw [HE.out]; exact own_le ho hb.size, hb.trans (hbq.mono hb.size)⟩
          clear ho hbq hb hA5 hB hin hb2 hbx
          go_wp2
          go_ret
          exact hpost

end Go.Proofs.Ytdbogjhkcnajkaa
end

