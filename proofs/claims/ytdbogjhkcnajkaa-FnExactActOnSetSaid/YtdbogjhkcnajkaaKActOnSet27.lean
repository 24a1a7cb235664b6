/-
  ActOnSet of the program, as a contract.
-/
import Derived.Test.YtdbogjhkcnajkaaKActOnSet25
import Derived.Test.YtdbogjhkcnajkaaKActOnSet3
import Derived.Test.YtdbogjhkcnajkaaKActOnSet16
import Derived.Test.YtdbogjhkcnajkaaKActOnSet17
import Derived.Test.YtdbogjhkcnajkaaKActOnSet20
import Derived.Test.YtdbogjhkcnajkaaKActOnSet26
import Derived.Deep.RegionHeld3
namespace Go.Proofs.Ytdbogjhkcnajkaa
open Go.RowKit Go.Sort
set_option linter.unusedVariables false

theorem perm_asc {p : List (Int × Int)} (h : permB p = true) : Asc p := by
  obtain ⟨_, h2, _⟩ := permB_parts h
  exact asc_of_order h2

set_option maxRecDepth 100000 in
set_option maxHeartbeats 2000000 in
theorem imagesIn_any (A B : Option Addr) (c d : Nat) (p : List (Int × Int)) (l : List Int) (w : World) (hA : PairsAt w A p) (hB : IntsAt w B l) (hp : p.length ≤ 1099511627776) (hasc : Asc p) (hlp : l.length ≤ 1048576) :
    Calls Try.prog 101 #[.slice A p.length c, .slice B l.length d] w (NewInts (imsL p l) w) := by
  obtain ⟨i0, hi0, hz0, hz1, hz2⟩ := info_parts int_infoM
  have HS := Lib.hid hz2
  clear hz2
  have HA := Lib.hid hA
  have HASC := Lib.hid hasc
  clear hA hasc
  go_enter Try.func101, Try.ntmps101
  go_wp2
  go_loopw [5, 7, 11] (fun v _ i wr => ∃ k : Nat, k ≤ l.length ∧ i = .int .i64 k ∧ wr.ownsRow w.heap.size 3 1 v k (icells (imsL p (l.take k))) ∧ Below w.heap.size w wr) (fun _ _ i _ => l.length - (intOf i).toNat)
  case atStart => exact ⟨0, Nat.zero_le _, rfl, World.ownsRow_lit w #[] 0 (Nat.le_refl _) (by decide) rfl, (Below.refl _ _).alloc (Nat.le_refl _) _⟩
  case round =>
    obtain ⟨k, hk, rfl, ho, hb⟩ := hrel
    by_cases hlt : k < l.length
    · obtain ⟨b1, o1, rfl, hb1, hc1⟩ := hB (by omega)
      have c1 := hc1 k hlt
      rw [← hb.cell (p := ⟨b1, _, none⟩) hb1] at c1
      have hnext := Lib.hid (imsL_next (p := p) hlt)
      have him := imageIn_any A c p (itAt l k) wr (HA.out.below hb) hp HASC.out
      clear hc1 hB
      generalize itAt l k = x at c1 hnext him
      generalize imgL p x = a at hnext him
      go_wp2_with fail
      (with_reducible refine him.mono ?_)
      rintro e w1 ⟨rfl, hb4⟩
      have hs4 := hb4.size
      have hbw := hb.trans (hb4.mono hb.size)
      have hsz : w.heap.size ≤ w1.heap.size := hbw.size
      have ho1 := (own_below ho hb4).alloc (.cells #[.int .i64 a] 3)
      have hb3 := hbw.alloc hbw.size (.cells #[.int .i64 a] 3)
      have hcell : (w1.alloc (.cells #[.int .i64 a] 3)).cell? ⟨w1.heap.size, 0, none⟩ = some (.int .i64 a) := by simp
      have HC := Lib.hid (one_cell hcell)
      clear hcell ho hb hb4 hbw him c1
      go_wp2_with (at_builtin; refine wpList_append_own _ rfl (.tmp 15) (.tmp 19) 27 rfl w.heap.size 3 i0 (.int .i64 0) 1 8 Try.underlying27 hi0 hz0 hz1 HS.out rfl (by decide) _ k _ rfl ho1 ⟨w1.heap.size, 0, none⟩ 1 1 [.int .i64 a] rfl rfl HC.out (int_one _) ?c3 ?c4 ?c5 ?_)
      case c3 => unfold maxLen; omega
      case c4 => omega
      case c5 => simp; omega
      intro v2 w2 ho3 hg _
      have ho4 : w2.ownsRow w.heap.size 3 1 v2 (k + 1) (icells (imsL p (l.take (k + 1)))) := by
        rw [hnext.out, icells_append]
        exact ho3
      have hb5 : Below w.heap.size w w2 := below_own hb3 ho1 (Nat.le_refl _) (by simp; omega) hg
      clear ho3 hg ho1 hb3 hnext HC
      go_wp2
      refine ⟨⟨k + 1, by omega, by go_num, ho4, hb5⟩, ?_⟩
      simp only [intOf]
      omega
    · have e : k = l.length := by omega
      subst e
      rw [List.take_length] at ho
      have hel := Lib.hid (imsL_len p l)
      have hpost : NewInts (imsL p l) w (.returned u5) wr := ⟨_, rfl, by rw [hel.out]; exact ho, hb⟩
      clear ho hb hB
      go_wp2
      go_ret
      exact hpost

set_option maxRecDepth 100000 in
set_option maxHeartbeats 8000000 in
theorem actOnSet_impl (p : List (Int × Int)) (hpl : p.length ≤ 1048576) (z : Int) (l : List Int) (m : List (List Int)) (hf : FitO l m) (x : Value) (C : Option Addr) (e0 : Nat) (w : World) (hC : PairsAt w C p) (hx : OrbIx w x z l m) :
    Calls Try.prog 47 #[.slice C p.length e0, x] w (OrbBOut (ozR (acOk p z l m) z) (olR (acOk p z l m) (acC p l)) (omR (acOk p z l m) (acR p z l m)) (acOk p z l m) w) := by
  have hX := hx
  obtain ⟨A, c, B, d, rfl, hl, hmr, hm⟩ := hx
  have hb0 : Below w.heap.size w ((w.alloc (.cells #[.int .i64 z, .slice A l.length c, .slice B m.length d] 29)).alloc (.cells #[.int .i64 0, .slice none 0 0, .slice none 0 0] 29)) := ((Below.refl _ _).alloc (Nat.le_refl _) _).alloc (by simp) _
  have k0 : ((w.alloc (.cells #[.int .i64 z, .slice A l.length c, .slice B m.length d] 29)).alloc (.cells #[.int .i64 0, .slice none 0 0, .slice none 0 0] 29)).heap[w.heap.size]? = some (.cells #[.int .i64 z, .slice A l.length c, .slice B m.length d] 29 (0, 0)) := (Below.heap_alloc _ _ _ (by simp)).trans (heap_alloc_new w _)
  have k1 : ((w.alloc (.cells #[.int .i64 z, .slice A l.length c, .slice B m.length d] 29)).alloc (.cells #[.int .i64 0, .slice none 0 0, .slice none 0 0] 29)).heap[w.heap.size + 1]? = some (.cells #[.int .i64 0, .slice none 0 0, .slice none 0 0] 29 (0, 0)) := by
    have h := heap_alloc_new (w.alloc (.cells #[.int .i64 z, .slice A l.length c, .slice B m.length d] 29)) (.cells #[.int .i64 0, .slice none 0 0, .slice none 0 0] 29)
    rw [World.size_alloc] at h
    exact h
  obtain ⟨b0, b1, b2⟩ := OrbK.row3 k0
  have hpm := isPerm_impl C e0 p _ (hC.below hb0) (by omega)
  have hio := fun (W : World) (h : Below w.heap.size w W) => isOrbitSet_impl z l m hf _ W (hX.below h)
  have HX := Lib.hid hX
  have HB0 := Lib.hid hb0
  have HK0 := Lib.hid k0
  have HK1 := Lib.hid k1
  have HC := Lib.hid hC
  have HL := Lib.hid hl
  clear hl hmr hm k0 k1 hX hb0 hC
  cases hpb : permB p with
  | false =>
    rw [hpb] at hpm
    have hkk : acOk p z l m = false := by simp [acOk, hpb]
    clear hpb
    go_enter Try.func47, Try.ntmps47
    go_wp2_with (first
      | (go_at_call 100; (with_reducible refine hpm.mono ?_); rintro e w1 ⟨rfl, hb1⟩; have hbz1 := HB0.out.trans (hb1.mono HB0.out.size); have k1 := (hb1.block _ (OrbK.box_lt HK0.out)).trans HK0.out; clear b0 b1 b2; obtain ⟨b0, b1, b2⟩ := OrbK.row3 k1; have hr2 := (hb1.block _ (OrbK.box_lt HK1.out)).trans HK1.out; obtain ⟨x0, x1, x2⟩ := OrbK.row3 hr2; obtain ⟨y0, y1, y2⟩ := z3At hr2))
    have hbz := hbz1
    clear hpm hio hb1 b0 b1 b2 k1 hr2 HB0 HK0 HK1
    have hpost := orbB_zero (((hbz.setCell (p := ⟨w.heap.size + 1, 0, none⟩) (Nat.le_succ _) (.int .i64 0)).setCell (p := ⟨w.heap.size + 1, 1, none⟩) (Nat.le_succ _) (.slice none 0 0)).setCell (p := ⟨w.heap.size + 1, 2, none⟩) (Nat.le_succ _) (.slice none 0 0))
    go_wp2
    exact bodyPost_ret (v := .tuple #[.agg #[.int .i64 0, .slice none 0 0, .slice none 0 0], .bool false]) (by simp [results, Try.results47, go_sem, x0, x1, x2]) rfl (by rw [hkk]; exact hpost)
  | true =>
    rw [hpb] at hpm
    cases ho : orbB z l m with
    | false =>
      simp only [ho] at hio
      have hkk : acOk p z l m = false := by simp [acOk, ho]
      clear ho
      go_enter Try.func47, Try.ntmps47
      go_wp2_with (first
        | (go_at_call 100; (with_reducible refine hpm.mono ?_); rintro e w1 ⟨rfl, hb1⟩; have hbz1 := HB0.out.trans (hb1.mono HB0.out.size); have k1 := (hb1.block _ (OrbK.box_lt HK0.out)).trans HK0.out; clear b0 b1 b2; obtain ⟨b0, b1, b2⟩ := OrbK.row3 k1; have hioq := hio w1 hbz1)
        | (go_at_call 77; (with_reducible refine hioq.mono ?_); rintro e w2 ⟨rfl, hb2⟩; have hb12 := hb1.trans (hb2.mono hb1.size); have hbz2 := HB0.out.trans (hb12.mono HB0.out.size); have k2 := (hb12.block _ (OrbK.box_lt HK0.out)).trans HK0.out; clear b0 b1 b2; have hr2 := (hb12.block _ (OrbK.box_lt HK1.out)).trans HK1.out; obtain ⟨x0, x1, x2⟩ := OrbK.row3 hr2; obtain ⟨y0, y1, y2⟩ := z3At hr2))
      have hbz := hbz2
      clear hpm hio hioq hb1 hb2 hb12 k1 k2 hr2 HB0 HK0 HK1
      have hpost := orbB_zero (((hbz.setCell (p := ⟨w.heap.size + 1, 0, none⟩) (Nat.le_succ _) (.int .i64 0)).setCell (p := ⟨w.heap.size + 1, 1, none⟩) (Nat.le_succ _) (.slice none 0 0)).setCell (p := ⟨w.heap.size + 1, 2, none⟩) (Nat.le_succ _) (.slice none 0 0))
      go_wp2
      exact bodyPost_ret (v := .tuple #[.agg #[.int .i64 0, .slice none 0 0, .slice none 0 0], .bool false]) (by simp [results, Try.results47, go_sem, x0, x1, x2]) rfl (by rw [hkk]; exact hpost)
    | true =>
      simp only [ho] at hio
      have hkk : acOk p z l m = true := by simp [acOk, hpb, ho]
      have hip := isP_of hpb
      have hasc := perm_asc hpb
      obtain ⟨hwz, hro⟩ := orb_rows ho
      have hz4 := widB_iff.1 hwz
      have hk3 := const_len (orb_const ho)
      obtain ⟨n, rfl⟩ : ∃ n : Nat, z = n := ⟨z.toNat, by omega⟩
      have hn4 : n ≤ 4 := by omega
      have hck := const_len (acC_const hip (orb_const ho))
      have HRW : Hid (∀ i, i < m.length → (exL (numL l 4) (rwAt m i)).length = n) := Lib.hid (fun i hi => by
        have h1 := (rowsOk_at hro hi).1
        rw [exL_len]
        omega)
      have hml := hf.2.1
      have hex := fun (W : World) (h : Below w.heap.size w W) => examplesOf_impl n l m hf _ W (HX.out.below h)
      rw [exsR_yes ho] at hex
      have HTR : Hid (∀ i, i < (acT p l m).length → (rwAt (acT p l m) i).length = n) := Lib.hid (fun i hi => by
        rw [acT_len] at hi
        rw [acT_at hi, imsL_len]
        exact HRW.out i hi)
      have hso := fun (W : World) (A' : Option Addr) (c' : Nat) (hA' : IntsAt W A' (acC p l)) (B9 : Option Addr) (d9 : Nat) (hB : RowsIn W (.slice B9 (acT p l m).length d9) (acT p l m)) => setOfTuples_any n hn4 (acC p l) hck (acT p l m) (by rw [acT_len]; omega) HTR.out A' B9 c' d9 W hA' hB
      have HAR : Hid (thoseL n (acC p l).length (patsL (acC p l) (acT p l m)) = acR p n l m) := Lib.hid (by unfold acR acM; rw [show ((n : Int).toNat) = n by omega])
      rw [HAR.out] at hso
      have him := fun (W : World) (A' : Option Addr) (c' : Nat) (L : List Int) (hA' : IntsAt W A' L) (h : Below w.heap.size w W) (hL : L.length ≤ 1048576) => imagesIn_any C A' e0 c' p L W (HC.out.below h) hA' (by omega) hasc hL
      have HNX := Lib.hid (fun i (hi : i < m.length) => acT_next (p := p) (l := l) hi)
      have HTL := Lib.hid (fun i (hi : i ≤ m.length) => show (acT p l (m.take i)).length = i by rw [acT_len, List.length_take]; omega)
      have HT0 : Hid (acT p l (m.take 0) = []) := Lib.hid (by simp [acT, exsL])
      have HTE : Hid (acT p l (m.take m.length) = acT p l m) := Lib.hid (by rw [List.take_length])
      have HEA := Lib.hid (fun i (hi : i < m.length) => ex_at (cs := l) hi)
      have HEL := Lib.hid (exsL_len l m)
      have HAC : Hid (insAll [] (imsL p l) = acC p l) := Lib.hid rfl
      have HKK := Lib.hid hkk
      clear ho hpb hwz hro hz4 hkk hip hasc
      generalize acR p n l m = R at *
      generalize exsL l m = E at *
      go_enter Try.func47, Try.ntmps47
      go_wp2_with (first
        | (go_at_call 100; (with_reducible refine hpm.mono ?_); rintro e w1 ⟨rfl, hb1⟩; have hbz1 := HB0.out.trans (hb1.mono HB0.out.size); have k1 := (hb1.block _ (OrbK.box_lt HK0.out)).trans HK0.out; clear b0 b1 b2; obtain ⟨b0, b1, b2⟩ := OrbK.row3 k1; have hioq := hio w1 hbz1)
        | (go_at_call 77; (with_reducible refine hioq.mono ?_); rintro e w2 ⟨rfl, hb2⟩; have hb12 := hb1.trans (hb2.mono hb1.size); have hbz2 := HB0.out.trans (hb12.mono HB0.out.size); have k2 := (hb12.block _ (OrbK.box_lt HK0.out)).trans HK0.out; clear b0 b1 b2; have k3 := (Below.heap_alloc w2 (.cells #[] 27) _ (OrbK.box_lt k2)).trans k2; obtain ⟨b0, b1, b2⟩ := OrbK.row3 k3; have hbL : Below w2.heap.size w2 (w2.alloc (.cells #[] 27)) := (Below.refl _ _).alloc (Nat.le_refl _) _; have hxq := hex _ (hbz2.trans (hbL.mono hbz2.size)))
        | (go_at_call 91; (with_reducible refine hxq.mono ?_); rintro e w8 ⟨v8, SE, rfl, hSE, hSEb, hb8⟩; obtain ⟨BE, dE, hBE⟩ := RowsIn.form (ls := E) hSE.at_; subst hBE))
      clear b0 b1 b2 k3 hxq hex hio hioq hpm
      have KA := Lib.hid k2
      have KR := Lib.hid ((hb12.block _ (OrbK.box_lt HK1.out)).trans HK1.out)
      have HBW := Lib.hid hbz2
      have hsL : (w2.alloc (.cells #[] 27)).heap.size = w2.heap.size + 1 := by simp
      rw [hsL] at hSEb
      have O8 := Lib.hid ((own_lit0 w2).keep hb8)
      have HB8 := Lib.hid (hbL.trans (hb8.mono hbL.size))
      have ES := Lib.hid hSE
      have HSE : Hid (∀ b ∈ SE, w2.heap.size + 1 ≤ b ∧ b < w8.heap.size) := Lib.hid (fun b hb => ⟨hSEb b hb, hSE.lt b hb⟩)
      have hs8 : w2.heap.size + 1 ≤ w8.heap.size := by have := hb8.size; omega
      clear hb1 hb2 hb12 k1 k2 hbz1 hbz2 HB0 HK0 HK1 hSE hSEb hbL hsL hb8
      rw [HEL.out]
      go_wp2
      go_loopw [6, 8, 22] (fun v6 _ i wr => ∃ (j : Nat) (U : List Nat), j ≤ m.length ∧ i = .int .i64 j ∧ Hid (Own wr U v6 (rowsMem (acT p l (m.take j)))) ∧ Hid (Own wr SE (.slice BE E.length dE) (rowsMem E)) ∧ Hid (∀ b ∈ U, w2.heap.size ≤ b ∧ b ∉ SE) ∧ Below w2.heap.size w2 wr ∧ w8.heap.size ≤ wr.heap.size) (fun _ _ i _ => m.length - (intOf i).toNat)
      case atStart => exact ⟨0, _, Nat.zero_le _, rfl, by rw [HT0.out]; exact O8, ES, Lib.hid (fun b hb => by
        have e : b = w2.heap.size := by simpa using hb
        subst e
        exact ⟨Nat.le_refl _, fun h => by have := (HSE.out _ h).1; omega⟩), HB8.out, Nat.le_refl _⟩
      case round =>
        clear O8 ES HB8
        obtain ⟨j, U, hj, rfl, hU, hE, hUb, hb, hsw⟩ := hrel
        by_cases hlt : j < m.length
        · have hRE := hE.out.at_
          obtain ⟨b1, o1, rfl, hb1, hc1⟩ := RowsIn.get hRE (by rw [HEL.out]; omega)
          obtain ⟨A1, c1, d1, hA1⟩ := hc1 j (by rw [HEL.out]; exact hlt)
          rw [HEA.out j hlt] at d1 hA1
          have hrw := HRW.out j hlt
          have hta := him wr A1 c1 _ hA1 (HBW.out.trans (hb.mono HBW.out.size)) (by omega)
          have hnx := Lib.hid (HNX.out j hlt)
          have htl := HTL.out j (by omega)
          clear hc1 hA1 hRE hrw
          generalize imsL p (exL (numL l 4) (rwAt m j)) = X at hta hnx
          generalize (exL (numL l 4) (rwAt m j)).length = vl at d1 hta
          generalize acT p l (m.take j) = D at hU hnx htl
          go_wp2_with fail
          (with_reducible refine hta.mono ?_)
          rintro e w3 ⟨v3, rfl, ho3, hb3⟩
          obtain ⟨T, hT, hTb, hTe⟩ := own_intRow ho3
          obtain ⟨A9, c9, rfl, _⟩ := own_intSlice hT
          clear hTe
          have hbx : Below w3.heap.size w3 (w3.alloc (.cells #[.slice A9 X.length c9] 27)) := (Below.refl _ _).alloc (Nat.le_refl _) _
          have hb4 := hb3.trans (hbx.mono hb3.size)
          have hT4 := Lib.hid (hT.keep hbx)
          have hU4 := hU.out.keep hb4
          have HE4 := Lib.hid (hE.out.keep hb4)
          have HB4 := Lib.hid (hb.trans (hb4.mono hb.size))
          have hcell : (w3.alloc (.cells #[.slice A9 X.length c9] 27)).cell? ⟨w3.heap.size, 0, none⟩ = some (.slice A9 X.length c9) := by simp
          have HCL := Lib.hid (one_cell hcell)
          have HUl : Hid (∀ b ∈ U, b < wr.heap.size) := Lib.hid (fun b h => hU.out.lt b h)
          have HDT : Hid (∀ b ∈ U, b ∉ T) := Lib.hid (fun b h1 h2 => by have := HUl.out b h1; have := hTb b h2; omega)
          have HTb := Lib.hid hTb
          have hs3 := hb3.size
          have hdl : D.length + 1 ≤ 16777216 := by omega
          clear hcell hbx hT ho3 hU hE hb hb3 hb4 hta d1 hTb
          go_wp2_with (at_builtin; refine wpList_append_rows rfl (.tmp 26) (.tmp 30) rfl _ U D rfl hU4 ⟨w3.heap.size, 0, none⟩ _ X T rfl HCL.out hT4.out HDT.out hdl ?_)
          intro g2 cap2 U3 w7 hU7 hU3 hon
          have hs7 : w3.heap.size + 1 ≤ w7.heap.size := by have := hon.size; rw [World.size_alloc] at this; exact this
          have E7 := Lib.hid (HE4.out.alike (w' := w7) fun b hbb => hon.block b (HE4.out.lt b hbb) (fun h => (hUb.out b h).2 hbb))
          have hb7 := Only.below HB4.out hon HB4.out.size (fun b h => (hUb.out b h).1)
          have B7 : Hid (∀ b ∈ U3, w2.heap.size ≤ b ∧ b ∉ SE) := Lib.hid (fun b h => by
            rcases hU3 b h with h1 | h1 | h1
            · exact hUb.out b h1
            · have h2 := HTb.out b h1
              exact ⟨by omega, fun h3 => by have := (HSE.out b h3).2; omega⟩
            · (try rw [World.size_alloc] at h1)
              exact ⟨by omega, fun h3 => by have := (HSE.out b h3).2; omega⟩)
          rw [← hnx.out] at hU7
          have U7 := Lib.hid hU7
          clear hU7 hU3 hon HB4 HE4 hT4 HCL HDT HUl HTb hnx hU4 htl hUb
          go_wp2
          refine ⟨⟨j + 1, U3, by omega, by go_num, U7, E7, B7, hb7, by omega⟩, ?_⟩
          simp only [intOf]
          omega
        · have e : j = m.length := by omega
          subst e
          rw [HTE.out] at hU
          have hU' := hU.out.at_
          have hbW := HBW.out.trans (hb.mono HBW.out.size)
          have hr := (hb.block _ (OrbK.box_lt KA.out)).trans KA.out
          have hq := (hb.block _ (OrbK.box_lt KR.out)).trans KR.out
          obtain ⟨B9, d9, hB9⟩ := RowsIn.form (ls := acT p l m) hU'
          subst hB9
          have hdw : Below wr.heap.size wr wr.drew := grow_drew (Below.refl _ _)
          have HRT : Hid (RowsIn wr (.slice B9 (acT p l m).length d9) (acT p l m)) := Lib.hid hU'
          have HBX := Lib.hid hbW
          have HSO := Lib.hid hso
          have hta := him wr.drew A c l (HL.out.1.below (hbW.trans (hdw.mono hbW.size))) (hbW.trans (hdw.mono hbW.size)) (by omega)
          obtain ⟨b0, b1, b2⟩ := OrbK.row3 hr
          have hltk := OrbK.box_lt hr
          have hltq := OrbK.box_lt hq
          have HQ : Hid (∀ W : World, Below wr.heap.size wr W → W.heap[w.heap.size + 1]? = some (.cells #[.int .i64 0, .slice none 0 0, .slice none 0 0] 29 (0, 0))) := Lib.hid (fun W h => (h.block _ hltq).trans hq)
          have HS : Hid (∀ W : World, Below wr.heap.size wr W → W.cell? ⟨w.heap.size, 0, none⟩ = some (.int .i64 (n : Int)) ∧ W.cell? ⟨w.heap.size, 1, none⟩ = some (.slice A l.length c)) :=
            Lib.hid (fun W h => ⟨(h.cell (p := ⟨w.heap.size, 0, none⟩) hltk).trans b0, (h.cell (p := ⟨w.heap.size, 1, none⟩) hltk).trans b1⟩)
          have HIL := imsL_len p l
          have hil : (imsL p l).length ≤ 3 := by omega
          have ne0 : w.heap.size ≠ w.heap.size + 1 := by omega
          have HWS := hbW.size
          have HHA := Lib.hid (hb.size)
          clear hU hU' hUb hE hb HNX HTL HT0 HTE HEA HEL HRW hso him HIL HTR b0 b1 b2 hr hq hbW
          obtain ⟨f0, f1⟩ := HS.out wr.drew hdw
          go_wp2
          go_region_held3 (fun w' => w'.cell? ⟨w.heap.size, 0, none⟩ = some (.int .i64 (n : Int)) ∧ w'.cell? ⟨w.heap.size, 1, none⟩ = some (.slice A l.length c))
            (first | (with_reducible exact ⟨by assumption, by assumption⟩) | (with_reducible exact ⟨OrbQ.set3_keep (by assumption) (by assumption), OrbQ.set3_keep (by assumption) (by assumption)⟩))
            (first
            | (go_at_call 101; (with_reducible refine hta.mono ?_); rintro e w3 ⟨v3, rfl, ho3, hb3⟩; have fr3 := hdw.trans (hb3.mono hdw.size); have hasq := ascending_rows wr.heap.size v3 (imsL p l) w3 (own_le ho3 hdw.size) fr3.size (by omega); obtain ⟨g3, g4⟩ := HS.out w3 fr3)
            | (go_at_call 102; (with_reducible refine hasq.mono ?_); rintro e w4 ⟨v4, rfl, ho4, hb4⟩; rw [HAC.out] at ho4; obtain ⟨A4, c4, rfl, hA4⟩ := own_intsAt ho4; have fr4 := fr3.trans hb4; have hsq := HSO.out w4 A4 c4 hA4 B9 d9 (HRT.out.below fr4); obtain ⟨g5, g6⟩ := HS.out w4 fr4)
            | (go_at_call 73; (with_reducible refine hsq.mono ?_); rintro e w5 ⟨A5, c5, A6, c6, S5, rfl, hL5, hS5, hb5⟩; have fr5 := fr4.trans (hb5.mono fr4.size); obtain ⟨g7, g8⟩ := HS.out w5 fr5; have hr2 := HQ.out w5 fr5; obtain ⟨x0, x1, x2⟩ := OrbK.row3 hr2; obtain ⟨y0, y1, y2⟩ := z3At hr2)
            | fail)
          have hs4 := fr4.size
          have hpost := orbB_of true (orb_pass (r := w.heap.size + 1) hL5 (HBX.out.trans (fr5.mono HBX.out.size)) (Nat.le_succ _) (fun b h => by have h1 := hS5 b h; omega))
          clear f0 f1 g3 g4 g5 g6 g7 g8 hta hasq hsq fr3 fr4 fr5 hb3 hb4 hb5 HS HQ hL5 hS5 hdw hr2 ho3 ho4 hA4 hil
          go_wp2
          exact bodyPost_ret (v := .tuple #[.agg #[.int .i64 (n : Int), .slice A5 (acC p l).length c5, .slice A6 R.length c6], .bool true]) (by simp [results, Try.results47, go_sem, x0, x1, x2]) rfl (by rw [HKK.out]; exact hpost)
end Go.Proofs.Ytdbogjhkcnajkaa
