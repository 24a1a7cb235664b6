/-
  ComplementSet in the program, as a contract. ComplementSet in the model, as a contract.
-/
import Derived.Test.YtdbogjhkcnajkaaKComplementSet15
import Derived.Test.YtdbogjhkcnajkaaKComplementSet13
import Derived.Test.YtdbogjhkcnajkaaKComplementSet14
section
namespace Go.Proofs.Ytdbogjhkcnajkaa
open Go.RowKit Go.Sort
set_option linter.unusedVariables false

set_option maxRecDepth 100000 in
set_option maxHeartbeats 8000000 in
theorem complement_impl (z : Int) (l : List Int) (m : List (List Int)) (hf : FitO l m) (x : Value) (w : World) (hx : OrbIx w x z l m) :
    Calls Try.prog 39 #[x] w (OrbOut (ozR (orbB z l m) z) (olR (orbB z l m) l) (omR (orbB z l m) (cplL z l m)) w) := by
  have hX := hx
  obtain ⟨A, c, B, d, rfl, hl, hmr, hm⟩ := hx
  have hb0 : Below w.heap.size w ((w.alloc (.cells #[.int .i64 z, .slice A l.length c, .slice B m.length d] 29)).alloc (.cells #[.int .i64 0, .slice none 0 0, .slice none 0 0] 29)) := ((Below.refl _ _).alloc (Nat.le_refl _) _).alloc (by simp) _
  have k0 : ((w.alloc (.cells #[.int .i64 z, .slice A l.length c, .slice B m.length d] 29)).alloc (.cells #[.int .i64 0, .slice none 0 0, .slice none 0 0] 29)).heap[w.heap.size]? = some (.cells #[.int .i64 z, .slice A l.length c, .slice B m.length d] 29 (0, 0)) := (Below.heap_alloc _ _ _ (by simp)).trans (heap_alloc_new w _)
  have k1 : ((w.alloc (.cells #[.int .i64 z, .slice A l.length c, .slice B m.length d] 29)).alloc (.cells #[.int .i64 0, .slice none 0 0, .slice none 0 0] 29)).heap[w.heap.size + 1]? = some (.cells #[.int .i64 0, .slice none 0 0, .slice none 0 0] 29 (0, 0)) := by
    have h := heap_alloc_new (w.alloc (.cells #[.int .i64 z, .slice A l.length c, .slice B m.length d] 29)) (.cells #[.int .i64 0, .slice none 0 0, .slice none 0 0] 29)
    rw [World.size_alloc] at h
    exact h
  obtain ⟨m0, m1, m2⟩ := OrbK.row3 k0
  have hio := isOrbitSet_impl z l m hf _ _ (hX.below hb0)
  have HB0 := Lib.hid hb0
  have HK0 := Lib.hid k0
  have HK1 := Lib.hid k1
  cases ho : orbB z l m with
  | false =>
    rw [ho] at hio
    clear hl hmr hm k0 k1 hX ho hb0
    go_enter Try.func39, Try.ntmps39
    go_wp2_with (go_at_call 77; refine hio.mono ?_; rintro e w2 ⟨rfl, hb2⟩; have hr2 := (hb2.block _ (OrbK.box_lt HK1.out)).trans HK1.out; obtain ⟨x0, x1, x2⟩ := OrbK.row3 hr2; obtain ⟨y0, y1, y2⟩ := z3At hr2)
    have hbz := HB0.out.trans (hb2.mono HB0.out.size)
    clear hio hb2 m0 m1 m2 hr2 HB0 HK0 HK1
    have hpost := orb_zero ((((hbz).setCell (p := ⟨w.heap.size + 1, 0, none⟩) (Nat.le_succ _) (.int .i64 0)).setCell (p := ⟨w.heap.size + 1, 1, none⟩) (Nat.le_succ _) (.slice none 0 0)).setCell (p := ⟨w.heap.size + 1, 2, none⟩) (Nat.le_succ _) (.slice none 0 0))
    go_wp2
    exact bodyPost_ret (v := .agg #[.int .i64 0, .slice none 0 0, .slice none 0 0]) (by simp [results, Try.results39, go_sem, x0, x1, x2]) rfl hpost
  | true =>
    rw [ho] at hio
    obtain ⟨hwz, hro⟩ := orb_rows ho
    have hz4 := widB_iff.1 hwz
    have hk3 := const_len (orb_const ho)
    obtain ⟨n, rfl⟩ : ∃ n : Nat, z = n := ⟨z.toNat, by omega⟩
    have hn4 : n ≤ 4 := by omega
    have hmm := orb_mem ho
    have HPO := Lib.hid (cpl_pats hn4 hk3 hmm)
    have HM : Hid (∀ i, i < m.length → (rwAt m i).length ≤ 4 ∧ digP (rwAt m i) ∧ codeP (rwAt m i) < 4096) := Lib.hid (fun i hi => by
      have h9 : rwAt m i ∈ m := by rw [rwAt_get _ _ hi]; exact List.getElem_mem hi
      have h1 := dig_allP (k := (l.length : Int)) (by omega) (by omega) hn4 (hmm _ h9)
      exact ⟨by omega, h1.2, code_4096 (k := (l.length : Int)) (by omega) (by omega) hn4 (hmm _ h9)⟩)
    have HL := Lib.hid hl.1
    have hml := hf.2.1
    have HMR := Lib.hid hmr
    have hac := fun W => allCodes_any n l.length hn4 hk3 W
    clear hl hmr hm k0 k1 hX ho hb0 hro hwz hz4 hmm
    have HCZ : Hid (tabOf (allP n l.length) = cplF n l.length m 0) := Lib.hid (cplF_zero n _ m).symm
    unfold TabP at hac
    rw [HCZ.out] at hac
    have HI : Hid ((Try.prog.info? 72).map (·.size) = some (tabV (cplF n l.length m 0)).size) := Lib.hid (by rw [tabV_size]; exact tab_info)
    have HO := Lib.hid (tabV_one (cplF n l.length m 0))
    have HSZ2 := Lib.hid (show (tabV fun _ => false).size = (tabV (cplF n l.length m 0)).size by rw [tabV_size, tabV_size])
    have HT0 := Lib.hid (fun (w3 : World) => show TabAt ((w3.alloc (.cells Try.zeroCells72 72)).setRow w3.heap.size (tabV (cplF n l.length m 0))) w3.heap.size (cplF n l.length m 0) from setRow_same (by rw [tab_zero]; exact heap_alloc_new w3 _))
    clear HCZ
    generalize hcz : tabV (cplF n l.length m 0) = c0 at hac HI HO HSZ2 HT0
    clear hcz
    go_enter Try.func39, Try.ntmps39
    go_wp2_with (go_at_call 77; refine hio.mono ?_; rintro e w2 ⟨rfl, hb2⟩; have k2 := (hb2.block _ (OrbK.box_lt HK0.out)).trans HK0.out; clear m0 m1 m2; obtain ⟨m0, m1, m2⟩ := OrbK.row3 k2)
    refine (hac _).mono ?_
    rintro e w3 ⟨rfl, hb3⟩
    clear m0 m1 m2
    have hbz2 := HB0.out.trans (hb2.mono HB0.out.size)
    have hbz3 := hbz2.trans (hb3.mono hbz2.size)
    have hs2 : w.heap.size + 1 < w2.heap.size := Nat.lt_of_lt_of_le (OrbK.box_lt HK1.out) hb2.size
    have hs3 : w.heap.size + 1 < w3.heap.size := Nat.lt_of_lt_of_le hs2 hb3.size
    have k3 := (hb3.block _ (OrbK.box_lt k2)).trans k2
    have j2 := (hb2.block _ (OrbK.box_lt HK1.out)).trans HK1.out
    have j3 := (hb3.block _ (OrbK.box_lt j2)).trans j2
    have hbx : Below w3.heap.size w3 (w3.alloc (.cells Try.zeroCells72 72)) := (Below.refl _ _).alloc (Nat.le_refl _) _
    have hbs : Below (w.heap.size + 2) (w3.alloc (.cells Try.zeroCells72 72)) ((w3.alloc (.cells Try.zeroCells72 72)).setRow w3.heap.size c0) := setRow_below (Below.refl _ _) (show w.heap.size + 2 ≤ w3.heap.size by omega) _
    have k4 := (hbs.block w.heap.size (by omega)).trans ((hbx.block _ (OrbK.box_lt k3)).trans k3)
    have j4 := Lib.hid ((hbs.block (w.heap.size + 1) (by omega)).trans ((hbx.block _ (OrbK.box_lt j3)).trans j3))
    have hb4 := Lib.hid ((hbz3.trans (hbx.mono hbz3.size)).trans (hbs.mono (by omega)))
    have HT4 := Lib.hid (HT0.out w3)
    have HZ3 : Hid ((w3.alloc (.cells Try.zeroCells72 72)).heap[w3.heap.size]? = some (.cells (tabV fun _ => false) 72 (0, 0))) := Lib.hid (by rw [tab_zero]; exact heap_alloc_new w3 _)
    obtain ⟨m0, m1, m2⟩ := OrbK.row3 k4
    have K4 := Lib.hid k4
    clear hio hac hb2 hb3 k2 hbz2 hbz3 k3 j2 j3 hbx hbs k4 HT0 HB0 HK0 HK1 hs2
    go_wp2_with (refine wpList_store_row rfl 72 (.tmp 3) (.tmp 15) rfl w3.heap.size c0 rfl rfl _ _ HZ3.out HI.out HSZ2.out HO.out ?_)
    clear m0 m1 m2
    generalize ((w3.alloc (.cells Try.zeroCells72 72)).setRow w3.heap.size c0) = w4 at hb4 K4 j4 HT4 ⊢
    go_loopw [5, 19] (fun _ i wr => ∃ k : Nat, k ≤ m.length ∧ i = .int .i64 k ∧ Hid (TabAt wr w3.heap.size (cplF n l.length m k)) ∧ Hid (wr.heap[w.heap.size]? = some (.cells #[.int .i64 (n : Int), .slice A l.length c, .slice B m.length d] 29 (0, 0))) ∧ Hid (wr.heap[w.heap.size + 1]? = some (.cells #[.int .i64 0, .slice none 0 0, .slice none 0 0] 29 (0, 0))) ∧ Below w.heap.size w wr) (fun _ i _ => m.length - (intOf i).toNat)
    case atStart => exact ⟨0, Nat.zero_le _, rfl, HT4, K4, j4, hb4.out⟩
    case round =>
      clear hb4 K4 j4 HT4
      obtain ⟨k, hk, rfl, ht, hr, hq, hb⟩ := hrel
      by_cases hlt : k < m.length
      · obtain ⟨b1, o1, rfl, hb1, hc1⟩ := (HMR.out.below hb).get (by omega)
        obtain ⟨A1, c1, e1, hA1⟩ := hc1 k hlt
        obtain ⟨h4, hd, hs⟩ := HM.out k hlt
        have hco := codeOf_any A1 c1 (rwAt m k) wr hA1 h4 hd
        have hst := ht.out.set_ hs false
        have hst2 : Hid (TabAt (wr.setCell ⟨w3.heap.size, codeP (rwAt m k), none⟩ (.bool false)) w3.heap.size (cplF n l.length m (k + 1))) := Lib.hid (hst.ext fun i _ => cplF_next hlt i)
        have hcl := ht.out.cell hs
        have hfz := ht.out.frozen (codeP (rwAt m k))
        have on2 : Only [w3.heap.size] wr (wr.setCell ⟨w3.heap.size, codeP (rwAt m k), none⟩ (.bool false)) := (Only.refl _ _).set ⟨w3.heap.size, codeP (rwAt m k), none⟩ _ (by simp)
        have hr2 := Lib.hid ((on2.block w.heap.size (OrbK.box_lt hr.out) (by simp; omega)).trans hr.out)
        have hq2 := Lib.hid ((on2.block (w.heap.size + 1) (OrbK.box_lt hq.out) (by simp; omega)).trans hq.out)
        have hb2 : Below w.heap.size w (wr.setCell ⟨w3.heap.size, codeP (rwAt m k), none⟩ (.bool false)) := hb.setCell (show w.heap.size ≤ w3.heap.size by omega) _
        generalize cplF n l.length m k (codeP (rwAt m k)) = bb at hcl
        generalize codeP (rwAt m k) = x at hco hs hst2 hcl hfz hr2 hq2 hb2
        generalize rwAt m k = p at e1 hco
        clear hst hc1 hA1 h4 hd ht hr hq hb on2
        go_wp2_with (go_at_call 86; refine hco.mono ?_; rintro e w9 ⟨rfl, rfl⟩)
        clear hco e1 hcl hfz
        refine ⟨⟨k + 1, by omega, by go_num, hst2, hr2, hq2, hb2⟩, ?_⟩
        simp only [intOf]
        omega
      · have e : k = m.length := by omega
        subst e
        have hu := Try.underlying72
        have hi : (Try.prog.info? 72).map (·.size) = some (tabV (cplF n l.length m m.length)).size := by rw [tabV_size]; exact tab_info
        have ht' := ht.out
        unfold TabAt at ht'
        have HI2 := Lib.hid hi
        have HT := Lib.hid ht'
        have hso := setOfCodes_any (cplF n l.length m m.length) n hn4 l (by omega) A c wr (HL.out.below hb)
        rw [HPO.out] at hso
        obtain ⟨m0, m1, m2⟩ := OrbK.row3 hr.out
        clear hi ht ht' hk hlt HPO HM HI HSZ2 HO HZ3
        generalize tabV (cplF n l.length m m.length) = cs at HT HI2 hso
        generalize cplL n l m = R at *
        go_wp2_with (first
          | (refine wpList_load_row rfl 72 (.tmp 3) rfl w3.heap.size rfl _ cs _ _ HT.out hu rfl HI2.out ?_)
          | (go_at_call 79; refine hso.mono ?_; rintro e w5 ⟨A4, c4, A5, c5, S5, rfl, hL5, hS5, hb5⟩; have hr5 := (hb5.block (w.heap.size + 1) (OrbK.box_lt hq.out)).trans hq.out; obtain ⟨x0, x1, x2⟩ := OrbK.row3 hr5; obtain ⟨y0, y1, y2⟩ := z3At hr5))
        have hpost := orb_pass (r := w.heap.size + 1) hL5 (hb.trans (hb5.mono hb.size)) (Nat.le_succ _) (fun b h => by have h1 := hS5 b h; have h2 := OrbK.box_lt hq.out; omega)
        clear hso hL5 hS5 hb5 hr5 hb hr hq m0 m1 m2 HT
        go_wp2
        exact bodyPost_ret (v := .agg #[.int .i64 (n : Int), .slice A4 l.length c4, .slice A5 R.length c5]) (by simp [results, Try.results39, go_sem, x0, x1, x2]) rfl hpost
end Go.Proofs.Ytdbogjhkcnajkaa
end

section
namespace Go.Proofs.Ytdbogjhkcnajkaa
open Go.RowKit Go.Sort
set_option linter.unusedVariables false

set_option maxRecDepth 100000 in
set_option maxHeartbeats 8000000 in
theorem complement_spec (z : Int) (l : List Int) (m : List (List Int)) (hf : FitO l m) (x : Value) (w : World) (hx : OrbIx w x z l m) :
    Calls Try.prog 38 #[x] w (OrbOut (ozR (orbB z l m) z) (olR (orbB z l m) l) (omR (orbB z l m) (cplL z l m)) w) := by
  have hX := hx
  obtain ⟨A, c, B, d, rfl, hl, hmr, hm⟩ := hx
  have hb0 : Below w.heap.size w ((w.alloc (.cells #[.int .i64 z, .slice A l.length c, .slice B m.length d] 29)).alloc (.cells #[.int .i64 0, .slice none 0 0, .slice none 0 0] 29)) := ((Below.refl _ _).alloc (Nat.le_refl _) _).alloc (by simp) _
  have k0 : ((w.alloc (.cells #[.int .i64 z, .slice A l.length c, .slice B m.length d] 29)).alloc (.cells #[.int .i64 0, .slice none 0 0, .slice none 0 0] 29)).heap[w.heap.size]? = some (.cells #[.int .i64 z, .slice A l.length c, .slice B m.length d] 29 (0, 0)) := (Below.heap_alloc _ _ _ (by simp)).trans (heap_alloc_new w _)
  have k1 : ((w.alloc (.cells #[.int .i64 z, .slice A l.length c, .slice B m.length d] 29)).alloc (.cells #[.int .i64 0, .slice none 0 0, .slice none 0 0] 29)).heap[w.heap.size + 1]? = some (.cells #[.int .i64 0, .slice none 0 0, .slice none 0 0] 29 (0, 0)) := by
    have h := heap_alloc_new (w.alloc (.cells #[.int .i64 z, .slice A l.length c, .slice B m.length d] 29)) (.cells #[.int .i64 0, .slice none 0 0, .slice none 0 0] 29)
    rw [World.size_alloc] at h
    exact h
  obtain ⟨m0, m1, m2⟩ := OrbK.row3 k0
  have hio := isOrbitSet_spec z l m hf _ _ (hX.below hb0)
  have HB0 := Lib.hid hb0
  have HK0 := Lib.hid k0
  have HK1 := Lib.hid k1
  cases ho : orbB z l m with
  | false =>
    rw [ho] at hio
    clear hl hmr hm k0 k1 hX ho hb0
    go_enter Try.func38, Try.ntmps38
    go_wp2_with (go_at_call 74; refine hio.mono ?_; rintro e w2 ⟨rfl, hb2⟩; have hr2 := (hb2.block _ (OrbK.box_lt HK1.out)).trans HK1.out; obtain ⟨x0, x1, x2⟩ := OrbK.row3 hr2; obtain ⟨y0, y1, y2⟩ := z3At hr2)
    have hbz := HB0.out.trans (hb2.mono HB0.out.size)
    clear hio hb2 m0 m1 m2 hr2 HB0 HK0 HK1
    have hpost := orb_zero ((((hbz).setCell (p := ⟨w.heap.size + 1, 0, none⟩) (Nat.le_succ _) (.int .i64 0)).setCell (p := ⟨w.heap.size + 1, 1, none⟩) (Nat.le_succ _) (.slice none 0 0)).setCell (p := ⟨w.heap.size + 1, 2, none⟩) (Nat.le_succ _) (.slice none 0 0))
    go_wp2
    exact bodyPost_ret (v := .agg #[.int .i64 0, .slice none 0 0, .slice none 0 0]) (by simp [results, Try.results38, go_sem, x0, x1, x2]) rfl hpost
  | true =>
    rw [ho] at hio
    obtain ⟨hwz, hro⟩ := orb_rows ho
    have hz4 := widB_iff.1 hwz
    have hk3 := const_len (orb_const ho)
    obtain ⟨n, rfl⟩ : ∃ n : Nat, z = n := ⟨z.toNat, by omega⟩
    have hn4 : n ≤ 4 := by omega
    have hfm := hf.2
    have HL := Lib.hid hl
    have HMR := Lib.hid hmr
    have HPL := Lib.hid (allP_pos (k := (l.length : Int)) (by omega) n)
    have HPM := Lib.hid (allP_4096 (k := (l.length : Int)) (by omega) (by omega) hn4)
    have HRW := Lib.hid (fun i (hi : i < (allP n l.length).length) => (allP_row (k := (l.length : Int)) (by omega) hi).1)
    have HTH := Lib.hid (thoseL_filter n l.length fun p => !thereB m p)
    have HFF := Lib.hid (filter_fitR (k := (l.length : Int)) (by omega) (by omega) hn4 fun p => !thereB m p)
    have HCP : Hid (cplL n l m = (allP n l.length).filter fun p => !thereB m p) := Lib.hid (by unfold cplL; rw [show ((n : Int).toNat) = n by omega])
    have hal := fun W => l6All_any l.length hk3 n hn4 n rfl W
    have hthose := fun (W : World) (L : List (List Int)) (h : FitR L) (hA : ConstAt W A c l) (B9 : Option Addr) (d9 : Nat) (hB : RowsIn W (.slice B9 L.length d9) L) => l6Those_any n hn4 l hk3 L h A B9 c d9 W hA hB
    clear hl hmr hm k0 k1 hX ho hb0 hro hwz hz4
    rw [HCP.out]
    generalize thoseL n l.length = TH at hthose HTH
    generalize allP n l.length = P at *
    clear HCP
    go_enter Try.func38, Try.ntmps38
    go_wp2_with (go_at_call 74; refine hio.mono ?_; rintro e w2 ⟨rfl, hb2⟩; have k2 := (hb2.block _ (OrbK.box_lt HK0.out)).trans HK0.out; clear m0 m1 m2; have hbx : Below w2.heap.size w2 (w2.alloc (.cells #[] 27)) := (Below.refl _ _).alloc (Nat.le_refl _) _; have k3 := (hbx.block _ (OrbK.box_lt k2)).trans k2; obtain ⟨m0, m1, m2⟩ := OrbK.row3 k3)
    refine (hal _).mono ?_
    rintro e w3 ⟨v3, S3, rfl, hS3, hS3b, hb3⟩
    obtain ⟨g, off, cg, u, T, rfl, hleft, hTS, hgS⟩ := left_of hS3 HPL.out
    have hbz2 := HB0.out.trans (hb2.mono HB0.out.size)
    have hbz2' := hbz2.trans (hbx.mono hbz2.size)
    have hbz3 := hbz2'.trans (hb3.mono hbz2'.size)
    have hs2 : w.heap.size + 1 < w2.heap.size := Nat.lt_of_lt_of_le (OrbK.box_lt HK1.out) hb2.size
    have hsx : (w2.alloc (.cells #[] 27)).heap.size = w2.heap.size + 1 := by simp
    have j2 := (hb2.block _ (OrbK.box_lt HK1.out)).trans HK1.out
    have j2' := (hbx.block _ (OrbK.box_lt j2)).trans j2
    have j3 := Lib.hid ((hb3.block _ (OrbK.box_lt j2')).trans j2')
    have k9 := Lib.hid ((hb3.block _ (OrbK.box_lt k3)).trans k3)
    have ho3 := Lib.hid ((own_lit0 w2).keep hb3)
    rw [hsx] at hS3b
    have hg0 := hS3b g hgS
    have HTB : Hid (∀ j, ∀ b ∈ T j, w2.heap.size + 1 ≤ b ∧ b < w3.heap.size) := Lib.hid (fun j b hb => ⟨hS3b b (hTS j b hb), hS3.lt b (hTS j b hb)⟩)
    have HLT := Lib.hid hleft
    have HB3 := Lib.hid hbz3
    clear hio hal hb2 k2 k3 hS3 hS3b hTS hgS hbz2 hbz2' hbz3 hbx j2 j2' hb3 m0 m1 m2 HB0 HK0 HK1 hsx hleft
    go_wp2
    go_loopw [3, 5, 18] (fun v3 _ i wr => ∃ (j : Nat) (U : List Nat), j ≤ P.length ∧ i = .int .i64 j ∧ Hid (Own wr U v3 (rowsMem ((P.take j).filter fun p => !thereB m p))) ∧ Hid (Left wr P g off u T j) ∧ Hid (∀ b ∈ U, w2.heap.size ≤ b ∧ b ≠ g ∧ ∀ q, j ≤ q → b ∉ T q) ∧ Hid (wr.heap[w.heap.size]? = some (.cells #[.int .i64 (n : Int), .slice A l.length c, .slice B m.length d] 29 (0, 0))) ∧ Hid (wr.heap[w.heap.size + 1]? = some (.cells #[.int .i64 0, .slice none 0 0, .slice none 0 0] 29 (0, 0))) ∧ Below w.heap.size w wr ∧ w3.heap.size ≤ wr.heap.size) (fun _ _ i _ => P.length - (intOf i).toNat)
    case atStart => exact ⟨0, _, Nat.zero_le _, rfl, ho3, HLT, Lib.hid (fun b hb => by
      have e : b = w2.heap.size := by simpa using hb
      subst e
      exact ⟨Nat.le_refl _, by omega, fun q _ hq => by have := (HTB.out q _ hq).1; omega⟩), k9, j3, HB3.out, Nat.le_refl _⟩
    case round =>
      clear ho3 HLT k9 j3 HB3
      obtain ⟨j, U, hj, rfl, hU, hLf, hUb, hr, hq, hb, hsw⟩ := hrel
      have hPb : P.length ≤ 4096 := HPM.out
      by_cases hlt : j < P.length
      · obtain ⟨A3, c3, hu3, hA3, hc3, hO3⟩ := hLf.out.row hlt
        have hrl : (rwAt P j).length ≤ 4 := by have := HRW.out j hlt; omega
        have hfy := Lib.hid (fun h => filter_yes (f := fun p => !thereB m p) hlt h)
        have hfn := Lib.hid (fun h => filter_no (f := fun p => !thereB m p) hlt h)
        have hfl := filter_take_le P (fun p => !thereB m p) j
        have hth := l6There_any B A3 d c3 m (rwAt P j) wr (HMR.out.below hb) hA3.1 hfm (by omega)
        obtain ⟨b0, b1, b2⟩ := OrbK.row3 hr.out
        have HO3 := Lib.hid hO3
        have HDT := Lib.hid (fun b (h1 : b ∈ U) => (hUb.out b h1).2.2 j (Nat.le_refl _))
        have HDJ := Lib.hid (fun q (h : j + 1 ≤ q) b (h1 : b ∈ T j) => hLf.out.dis j q (by omega) b h1)
        have HGJ := Lib.hid (hLf.out.hd j)
        have HTJ := Lib.hid (HTB.out j)
        have hgl := hLf.out.lt
        clear hA3 hu3 hO3
        generalize hFF : (P.take j).filter (fun p => !thereB m p) = FF at hU hfy hfn hfl
        generalize hpp : rwAt P j = p at hrl hfy hfn hth hc3 HO3 ⊢
        clear hFF hpp
        cases hin : thereB m p with
        | false =>
          rw [hin] at hth
          have HNX := Lib.hid (hfy.out (by simp [hin]))
          clear hfy hfn hin
          go_wp2_with fail
          (with_reducible refine hth.mono ?_)
          rintro e w5 ⟨rfl, hb5⟩
          have hbx : Below w5.heap.size w5 (w5.alloc (.cells #[.slice A3 p.length c3] 27)) := (Below.refl _ _).alloc (Nat.le_refl _) _
          have hb56 := hb5.trans (hbx.mono hb5.size)
          have hU6 := hU.out.keep hb56
          have HO6 := Lib.hid (HO3.out.keep hb56)
          have hcell : (w5.alloc (.cells #[.slice A3 p.length c3] 27)).cell? ⟨w5.heap.size, 0, none⟩ = some (.slice A3 p.length c3) := by simp
          have HC := Lib.hid (one_cell hcell)
          have HLF := Lib.hid (hLf.out.below hb56)
          have HR6 := Lib.hid ((hb56.block _ (OrbK.box_lt hr.out)).trans hr.out)
          have HQ6 := Lib.hid ((hb56.block _ (OrbK.box_lt hq.out)).trans hq.out)
          have HB6 := Lib.hid (hb.trans (hb56.mono hb.size))
          have hs5 := hb5.size
          have hdl : FF.length + 1 ≤ 16777216 := by omega
          clear hth b0 b1 b2 hc3 hcell hbx hb56 hb5 hU hLf HO3 hr hq hb
          go_wp2_with (at_builtin; refine wpList_append_rows rfl (.tmp 27) (.tmp 29) rfl _ U FF rfl hU6 ⟨w5.heap.size, 0, none⟩ _ p (T j) rfl HC.out HO6.out HDT.out hdl ?_)
          intro g2 cap2 U3 w7 hU7 hU3 hon
          have hs7 : w5.heap.size + 1 ≤ w7.heap.size := by have := hon.size; rw [World.size_alloc] at this; exact this
          have R7 := Lib.hid ((hon.block w.heap.size (OrbK.box_lt HR6.out) (fun h => by have := (hUb.out _ h).1; omega)).trans HR6.out)
          have Q7 := Lib.hid ((hon.block (w.heap.size + 1) (OrbK.box_lt HQ6.out) (fun h => by have := (hUb.out _ h).1; omega)).trans HQ6.out)
          have L7 := Lib.hid (HLF.out.next.only hon (fun h => (hUb.out _ h).2.1 rfl) (fun q hq _ b h1 h2 => (hUb.out b h2).2.2 q (by omega) h1))
          have hb7 := Only.below HB6.out hon HB6.out.size (fun b h => by have := (hUb.out _ h).1; omega)
          have B7 : Hid (∀ b ∈ U3, w2.heap.size ≤ b ∧ b ≠ g ∧ ∀ q, j + 1 ≤ q → b ∉ T q) := Lib.hid (fun b h => by
            rcases hU3 b h with h1 | h1 | h1
            · exact ⟨(hUb.out b h1).1, (hUb.out b h1).2.1, fun q hq => (hUb.out b h1).2.2 q (by omega)⟩
            · exact ⟨by have := (HTJ.out b h1).1; omega, fun e => HGJ.out (e ▸ h1), fun q hq => HDJ.out q hq b h1⟩
            · (try rw [World.size_alloc] at h1)
              exact ⟨by omega, by omega, fun q _ hq => by have := (HTB.out q b hq).2; omega⟩)
          rw [← HNX.out] at hU7
          have U7 := Lib.hid hU7
          clear hU7 hU3 hon HR6 HQ6 HB6 HLF HO6 HC hUb HNX hU6
          go_wp2
          refine ⟨⟨j + 1, U3, by omega, by go_num, U7, L7, B7, R7, Q7, hb7, by omega⟩, ?_⟩
          simp only [intOf]
          omega
        | true =>
          rw [hin] at hth
          have HNX := Lib.hid (hfn.out (by simp [hin]))
          clear hfy hfn hin
          go_wp2_with fail
          (with_reducible refine hth.mono ?_)
          rintro e w5 ⟨rfl, hb5⟩
          have R5 := Lib.hid ((hb5.block _ (OrbK.box_lt hr.out)).trans hr.out)
          have Q5 := Lib.hid ((hb5.block _ (OrbK.box_lt hq.out)).trans hq.out)
          have U5 := hU.out.keep hb5
          rw [← HNX.out] at U5
          have U6 := Lib.hid U5
          have L5 := Lib.hid ((hLf.out.below hb5).next)
          have B5 : Hid (∀ b ∈ U, w2.heap.size ≤ b ∧ b ≠ g ∧ ∀ q, j + 1 ≤ q → b ∉ T q) := Lib.hid (fun b h1 => ⟨(hUb.out b h1).1, (hUb.out b h1).2.1, fun q hq => (hUb.out b h1).2.2 q (by omega)⟩)
          have hb7 := hb.trans (hb5.mono hb.size)
          have hs7 : w3.heap.size ≤ w5.heap.size := Nat.le_trans hsw hb5.size
          clear hth b0 b1 b2 hc3 hb5 hr hq hU hLf hUb HNX HO3 hb hsw U5
          go_wp2
          refine ⟨⟨j + 1, U, by omega, by go_num, U6, L5, B5, R5, Q5, hb7, hs7⟩, ?_⟩
          simp only [intOf]
          omega
      · have e : j = P.length := by omega
        subst e
        rw [List.take_length] at hU
        have hth := HTH.out
        have hff := HFF.out
        generalize hRR : P.filter (fun p => !thereB m p) = R at hU hth hff
        have HRR := Lib.hid hRR
        clear hRR
        have hU' := hU.out.at_
        obtain ⟨B9, d9, hB9⟩ := RowsIn.form (ls := R) hU'
        subst hB9
        have hso := hthose wr R hff (HL.out.below hb) B9 d9 hU'
        rw [hth] at hso
        obtain ⟨m0, m1, m2⟩ := OrbK.row3 hr.out
        clear hU hU' hff hth HTH HFF hthose HPM HPL HRW HTB hUb hLf
        go_wp2_with (go_at_call 70; refine hso.mono ?_; rintro e w5 ⟨A4, c4, A5, c5, S5, rfl, hL5, hS5, hb5⟩; have hr5 := (hb5.block (w.heap.size + 1) (OrbK.box_lt hq.out)).trans hq.out; obtain ⟨x0, x1, x2⟩ := OrbK.row3 hr5; obtain ⟨y0, y1, y2⟩ := z3At hr5)
        have hpost := orb_pass (r := w.heap.size + 1) hL5 (hb.trans (hb5.mono hb.size)) (Nat.le_succ _) (fun b h => by have h1 := hS5 b h; have h2 := OrbK.box_lt hq.out; omega)
        clear hso hL5 hS5 hb5 hr5 hb hr hq m0 m1 m2
        go_wp2
        exact bodyPost_ret (v := .agg #[.int .i64 (n : Int), .slice A4 l.length c4, .slice A5 R.length c5]) (by simp [results, Try.results38, go_sem, x0, x1, x2]) rfl (by rw [HRR.out]; exact hpost)
end Go.Proofs.Ytdbogjhkcnajkaa
end

