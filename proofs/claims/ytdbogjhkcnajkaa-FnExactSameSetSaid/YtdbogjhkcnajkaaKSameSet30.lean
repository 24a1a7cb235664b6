/-
  SameSet of the program, as a contract. SameSet of the model, as a contract.
-/
import Derived.Test.YtdbogjhkcnajkaaKSameSet28
import Derived.Test.YtdbogjhkcnajkaaKSameSet29
section
namespace Go.Proofs.Ytdbogjhkcnajkaa
open Go.RowKit Go.Sort
attribute [-go_sem] World.setCell_alloc_at World.setCell_alloc_past
set_option linter.unusedVariables false

set_option maxRecDepth 100000 in
set_option maxHeartbeats 8000000 in
theorem sameSet_impl (z1 : Int) (l1 : List Int) (m1 : List (List Int)) (hf1 : FitO l1 m1) (x1 : Value) (z2 : Int) (l2 : List Int) (m2 : List (List Int)) (hf2 : FitO l2 m2) (x2 : Value) (w : World) (hx1 : OrbIx w x1 z1 l1 m1) (hx2 : OrbIx w x2 z2 l2 m2) :
    Calls Try.prog 53 #[x1, x2] w (BoolP (sameSB z1 l1 m1 z2 l2 m2) w) := by
  have HX1 := Lib.hid hx1
  have HX2 := Lib.hid hx2
  obtain ⟨A1, c1, B1, d1, rfl, hl1, hmr1, hm1⟩ := hx1
  obtain ⟨A2, c2, B2, d2, rfl, hl2, hmr2, hm2⟩ := hx2
  have hb0 : Below w.heap.size w ((w.alloc (.cells #[.int .i64 z1, .slice A1 l1.length c1, .slice B1 m1.length d1] 29)).alloc (.cells #[.int .i64 z2, .slice A2 l2.length c2, .slice B2 m2.length d2] 29)) := ((Below.refl _ _).alloc (Nat.le_refl _) _).alloc (by simp) _
  have k0 : ((w.alloc (.cells #[.int .i64 z1, .slice A1 l1.length c1, .slice B1 m1.length d1] 29)).alloc (.cells #[.int .i64 z2, .slice A2 l2.length c2, .slice B2 m2.length d2] 29)).heap[w.heap.size]? = some (.cells #[.int .i64 z1, .slice A1 l1.length c1, .slice B1 m1.length d1] 29 (0, 0)) := (Below.heap_alloc _ _ _ (by simp)).trans (heap_alloc_new w _)
  have k1 : ((w.alloc (.cells #[.int .i64 z1, .slice A1 l1.length c1, .slice B1 m1.length d1] 29)).alloc (.cells #[.int .i64 z2, .slice A2 l2.length c2, .slice B2 m2.length d2] 29)).heap[w.heap.size + 1]? = some (.cells #[.int .i64 z2, .slice A2 l2.length c2, .slice B2 m2.length d2] 29 (0, 0)) := by
    have h := heap_alloc_new (w.alloc (.cells #[.int .i64 z1, .slice A1 l1.length c1, .slice B1 m1.length d1] 29)) (.cells #[.int .i64 z2, .slice A2 l2.length c2, .slice B2 m2.length d2] 29)
    rw [World.size_alloc] at h
    exact h
  obtain ⟨b0, b1, b2⟩ := OrbK.row3 k0
  obtain ⟨n0, n1, n2⟩ := OrbK.row3 k1
  have hio1 := isOrbitSet_impl z1 l1 m1 hf1 _ _ (HX1.out.below hb0)
  have hIO2 := fun W (h : Below w.heap.size w W) => isOrbitSet_impl z2 l2 m2 hf2 _ W (HX2.out.below h)
  have HB0 := Lib.hid hb0
  have HK0 := Lib.hid k0
  have HK1 := Lib.hid k1
  clear hl1 hmr1 hm1 hl2 hmr2 hm2 k0 k1 hb0
  cases ho1 : orbB z1 l1 m1 with
  | false =>
    have hn : Hid (sameSB z1 l1 m1 z2 l2 m2 = false) := Lib.hid (by simp [sameSB, ho1])
    rw [ho1] at hio1
    clear ho1
    go_enter Try.func53, Try.ntmps53
    go_wp2_with (first
      | (go_at_call 77; (with_reducible refine hio1.mono ?_); rintro e w3 ⟨rfl, hb3⟩; have hbz3 := HB0.out.trans (hb3.mono HB0.out.size); have K3 := (hb3.block _ (OrbK.box_lt HK0.out)).trans HK0.out; have J3 := (hb3.block _ (OrbK.box_lt HK1.out)).trans HK1.out; clear b0 b1 b2 n0 n1 n2; obtain ⟨b0, b1, b2⟩ := OrbK.row3 K3; obtain ⟨n0, n1, n2⟩ := OrbK.row3 J3; skip))
    clear hio1 hb3 b0 b1 b2 n0 n1 n2 hIO2 K3 J3
    go_wp2
    go_ret
    exact ⟨bool_end hn.out.symm, hbz3⟩
  | true =>
    rw [ho1] at hio1
    cases ho2 : orbB z2 l2 m2 with
    | false =>
      have hn : Hid (sameSB z1 l1 m1 z2 l2 m2 = false) := Lib.hid (by simp [sameSB, ho2])
      simp only [ho2] at hIO2
      clear ho1 ho2
      go_enter Try.func53, Try.ntmps53
      go_wp2_with (first
        | (go_at_call 77; (with_reducible refine hio1.mono ?_); rintro e w3 ⟨rfl, hb3⟩; have hbz3 := HB0.out.trans (hb3.mono HB0.out.size); have K3 := (hb3.block _ (OrbK.box_lt HK0.out)).trans HK0.out; have J3 := (hb3.block _ (OrbK.box_lt HK1.out)).trans HK1.out; clear b0 b1 b2 n0 n1 n2; obtain ⟨b0, b1, b2⟩ := OrbK.row3 K3; obtain ⟨n0, n1, n2⟩ := OrbK.row3 J3; have hio2 := hIO2 w3 hbz3)
        | (go_at_call 77; (with_reducible refine hio2.mono ?_); rintro e w4 ⟨rfl, hb4⟩; have hbz4 := hbz3.trans (hb4.mono hbz3.size); have K4 := (hb4.block _ (OrbK.box_lt K3)).trans K3; have J4 := (hb4.block _ (OrbK.box_lt J3)).trans J3; clear b0 b1 b2 n0 n1 n2; obtain ⟨b0, b1, b2⟩ := OrbK.row3 K4; obtain ⟨n0, n1, n2⟩ := OrbK.row3 J4))
      clear hio1 hio2 hb3 hb4 hbz3 b0 b1 b2 n0 n1 n2 hIO2 K3 J3 K4 J4
      go_wp2
      go_ret
      exact ⟨bool_end hn.out.symm, hbz4⟩
    | true =>
      simp only [ho2] at hIO2
      by_cases hz : z1 = z2
      · subst hz
        obtain ⟨hwz, _⟩ := orb_rows ho1
        have hz4 := widB_iff.1 hwz
        obtain ⟨n, rfl⟩ : ∃ n : Nat, z1 = n := ⟨z1.toNat, by omega⟩
        have hn4 : n ≤ 4 := by omega
        have hsb : Hid (sameSB n l1 m1 n l2 m2 = (decide (redCz n l1 m1 = redCz n l2 m2) && decide (redMz n l1 m1 = redMz n l2 m2))) := Lib.hid (by simp [sameSB, ho1, ho2])
        have hcr1 := fun (W : World) (h : Below w.heap.size w W) => reduced_impl n l1 m1 hf1 _ W (HX1.out.below h)
        have hcr2 := fun (W : World) (h : Below w.heap.size w W) => reduced_impl n l2 m2 hf2 _ W (HX2.out.below h)
        rw [ho1] at hcr1
        rw [ho2] at hcr2
        change ∀ (W : World), Below w.heap.size w W → Calls Try.prog 51 _ W (OrbOut n (redCz n l1 m1) (redMz n l1 m1) W) at hcr1
        change ∀ (W : World), Below w.heap.size w W → Calls Try.prog 51 _ W (OrbOut n (redCz n l2 m2) (redMz n l2 m2) W) at hcr2
        obtain ⟨hcb1, hnm1⟩ := red_normal ho1
        obtain ⟨hcb2, hnm2⟩ := red_normal ho2
        rw [show ((n : Int).toNat) = n by omega] at hnm1 hnm2
        rw [hsb.out]
        clear ho1 ho2 hwz hz4 hsb
        generalize redCz n l1 m1 = C1 at *
        generalize redMz n l1 m1 = M1 at *
        generalize redCz n l2 m2 = C2 at *
        generalize redMz n l2 m2 = M2 at *
        have hk1 := const_len hcb1
        have hk2 := const_len hcb2
        have hft1 := normal_fit (k := (C1.length : Int)) (by omega) (by omega) hn4 hnm1
        have hft2 := normal_fit (k := (C2.length : Int)) (by omega) (by omega) hn4 hnm2
        have hdg : ∀ (C : List Int) (M : List (List Int)), C.length ≤ 3 → M = thoseL n C.length M → ∀ i, i < M.length → (rwAt M i).length ≤ 4 ∧ digP (rwAt M i) := fun C M hC hM i hi => by
          have h9 : rwAt M i ∈ M := by rw [rwAt_get _ _ hi]; exact List.getElem_mem hi
          have h8 : ∀ p ∈ M, p ∈ allP n C.length := fun p hp => by rw [hM] at hp; exact thoseL_sub p hp
          have h1 := dig_allP (k := (C.length : Int)) (by omega) (by omega) hn4 (h8 _ h9)
          exact ⟨by omega, h1.2⟩
        have HD1 := Lib.hid (hdg C1 M1 hk1 hnm1)
        have HD2 := Lib.hid (hdg C2 M2 hk2 hnm2)
        have HN1 := Lib.hid hnm1
        have HN2 := Lib.hid hnm2
        have HFF : Hid (M1.length ≤ 32768 ∧ M2.length ≤ 32768) := Lib.hid ⟨by omega, by omega⟩
        clear hdg hnm1 hnm2 hft1 hft2 hcb1 hcb2
        go_enter Try.func53, Try.ntmps53
        go_wp2_with (first
          | (go_at_call 77; (with_reducible refine hio1.mono ?_); rintro e w3 ⟨rfl, hb3⟩; have hbz3 := HB0.out.trans (hb3.mono HB0.out.size); have K3 := (hb3.block _ (OrbK.box_lt HK0.out)).trans HK0.out; have J3 := (hb3.block _ (OrbK.box_lt HK1.out)).trans HK1.out; clear b0 b1 b2 n0 n1 n2; obtain ⟨b0, b1, b2⟩ := OrbK.row3 K3; obtain ⟨n0, n1, n2⟩ := OrbK.row3 J3; have hio2 := hIO2 w3 hbz3)
          | (go_at_call 77; (with_reducible refine hio2.mono ?_); rintro e w4 ⟨rfl, hb4⟩; have hbz4 := hbz3.trans (hb4.mono hbz3.size); have K4 := (hb4.block _ (OrbK.box_lt K3)).trans K3; have J4 := (hb4.block _ (OrbK.box_lt J3)).trans J3; clear b0 b1 b2 n0 n1 n2; obtain ⟨b0, b1, b2⟩ := OrbK.row3 K4; obtain ⟨n0, n1, n2⟩ := OrbK.row3 J4))
        have hltk := OrbK.box_lt K4
        have hltj := OrbK.box_lt J4
        have HS : Hid (∀ W : World, Below w4.heap.size w4 W → (W.cell? ⟨w.heap.size, 0, none⟩ = some (.int .i64 (n : Int)) ∧ W.cell? ⟨w.heap.size, 1, none⟩ = some (.slice A1 l1.length c1) ∧ W.cell? ⟨w.heap.size, 2, none⟩ = some (.slice B1 m1.length d1)) ∧ W.cell? ⟨w.heap.size + 1, 0, none⟩ = some (.int .i64 (n : Int)) ∧ W.cell? ⟨w.heap.size + 1, 1, none⟩ = some (.slice A2 l2.length c2) ∧ W.cell? ⟨w.heap.size + 1, 2, none⟩ = some (.slice B2 m2.length d2)) :=
          Lib.hid (fun W h => ⟨⟨(h.cell (p := ⟨w.heap.size, 0, none⟩) hltk).trans b0, (h.cell (p := ⟨w.heap.size, 1, none⟩) hltk).trans b1, (h.cell (p := ⟨w.heap.size, 2, none⟩) hltk).trans b2⟩, (h.cell (p := ⟨w.heap.size + 1, 0, none⟩) hltj).trans n0, (h.cell (p := ⟨w.heap.size + 1, 1, none⟩) hltj).trans n1, (h.cell (p := ⟨w.heap.size + 1, 2, none⟩) hltj).trans n2⟩)
        have hec1 := fun (W : World) (h : Below w4.heap.size w4 W) => hcr1 W (hbz4.trans (h.mono hbz4.size))
        have hec2 := fun (W : World) (h : Below w4.heap.size w4 W) => hcr2 W (hbz4.trans (h.mono hbz4.size))
        have HBZ4 := Lib.hid hbz4
        clear hio1 hio2 hb3 hb4 hbz3 hbz4 b0 b1 b2 n0 n1 n2 hIO2 K3 J3 K4 J4 hltk hltj hcr1 hcr2 HB0 HK0 HK1
        try go_wp2_with fail
        go_cut [5, 6] (fun s t wx => Orb2 w4 n C1 M1 C2 M2 s t wx)
        case first =>
          clear HX1 HX2 HD1 HD2 HN1 HN2 HFF hk1 hk2 hn4 hf1 hf2 HBZ4
          have hz0 : Below w4.heap.size w4 w4.drew := grow_drew (Below.refl _ _)
          have hz1 : Below w4.heap.size w4 (w4.alloc (.cells #[.int .i64 0, .slice none 0 0, .slice none 0 0] 29)).drew := grow_drew (grow_alloc (Below.refl _ _) _)
          have hz2 : Below w4.heap.size w4 ((w4.alloc (.cells #[.int .i64 0, .slice none 0 0, .slice none 0 0] 29)).alloc (.cells #[.int .i64 0, .slice none 0 0, .slice none 0 0] 29)).drew := grow_drew (grow_alloc (grow_alloc (Below.refl _ _) _) _)
          have hc10 := hec1 _ hz0
          have hc11 := hec1 _ hz1
          have hc12 := hec1 _ hz2
          have tz1 := (zb_new w4).drew
          have ty1 := ((zb_new w4).alloc (.cells #[.int .i64 0, .slice none 0 0, .slice none 0 0] 29)).drew
          have ty2 := (zb_next w4).drew
          have drew_size : ∀ u : World, u.drew.heap.size = u.heap.size := fun _ => rfl
          go_region_held3 (fun w' => (w'.cell? ⟨w.heap.size, 0, none⟩ = some (.int .i64 (n : Int)) ∧ w'.cell? ⟨w.heap.size, 1, none⟩ = some (.slice A1 l1.length c1) ∧ w'.cell? ⟨w.heap.size, 2, none⟩ = some (.slice B1 m1.length d1)) ∧ w'.cell? ⟨w.heap.size + 1, 0, none⟩ = some (.int .i64 (n : Int)) ∧ w'.cell? ⟨w.heap.size + 1, 1, none⟩ = some (.slice A2 l2.length c2) ∧ w'.cell? ⟨w.heap.size + 1, 2, none⟩ = some (.slice B2 m2.length d2))
            ((refine HS.out _ ?_; (repeat (first | (with_reducible assumption) | (with_reducible refine grow_set ?_ (by (first | (with_reducible assumption) | omega)) _) | (with_reducible refine grow_alloc ?_ _) | (with_reducible refine grow_drew ?_) | (with_reducible exact Below.refl _ _)))))
            (first
            | (go_at_call 51; (with_reducible refine hc10.mono ?_); rintro e wa ⟨Aa, ca, Ba, da, Sa, rfl, hLa, hSa, hba⟩; have hn0 : True := trivial; have fra := hz0.trans (hba.mono hz0.size); have sza := fra.size; have sya := hba.size; (try simp only [drew_size] at hSa sya); have h20 := hec2 wa fra; have h21 := hec2 (wa.alloc (.cells #[.int .i64 0, .slice none 0 0, .slice none 0 0] 29)) (grow_alloc fra _); have h22 := hec2 ((wa.alloc (.cells #[.int .i64 0, .slice none 0 0, .slice none 0 0] 29)).alloc (.cells #[.int .i64 0, .slice none 0 0, .slice none 0 0] 29)) (grow_alloc (grow_alloc fra _) _))
            | (go_at_call 51; (with_reducible refine hc11.mono ?_); rintro e wa ⟨Aa, ca, Ba, da, Sa, rfl, hLa, hSa, hba⟩; have hn1 : True := trivial; have fra := hz1.trans (hba.mono hz1.size); have sza := fra.size; have sya := hba.size; (try simp only [drew_size, World.size_alloc] at hSa sya); have p1 := tz1.below hba; have h20 := hec2 wa fra; have h21 := hec2 (wa.alloc (.cells #[.int .i64 0, .slice none 0 0, .slice none 0 0] 29)) (grow_alloc fra _))
            | (go_at_call 51; (with_reducible refine hc12.mono ?_); rintro e wa ⟨Aa, ca, Ba, da, Sa, rfl, hLa, hSa, hba⟩; have hn2 : True := trivial; have fra := hz2.trans (hba.mono hz2.size); have sza := fra.size; have sya := hba.size; (try simp only [drew_size, World.size_alloc] at hSa sya); have p1 := ty1.below hba; have p2 := ty2.below hba; have h20 := hec2 wa fra)
            | (go_at_call 51; (have hn : True := hn0); (with_reducible refine h20.mono ?_); rintro e wb ⟨Ab, cb, Bb, db, Sb, rfl, hLb, hSb, hbb⟩; have frb := fra.trans (hbb.mono fra.size); have szb := frb.size; have szc := hbb.size; have gwa : Below wa.heap.size wa wa := (Below.refl _ _); have gab := gwa.trans (hbb.mono gwa.size); have gbx : Below wb.heap.size wb ((wb.alloc (.cells #[.int .i64 0, .slice none 0 0, .slice none 0 0] 29)).alloc (.cells #[.int .i64 0, .slice none 0 0, .slice none 0 0] 29)) := (grow_alloc (grow_alloc (Below.refl _ _) _) _); have LA := hLa.alike (w' := ((wb.alloc (.cells #[.int .i64 0, .slice none 0 0, .slice none 0 0] 29)).alloc (.cells #[.int .i64 0, .slice none 0 0, .slice none 0 0] 29))) (fun b hb' => (gbx.block b (Nat.lt_of_lt_of_le (hLa.lt b hb') gab.size)).trans (gab.block b (hLa.lt b hb'))); have LB := hLb.alike (w' := ((wb.alloc (.cells #[.int .i64 0, .slice none 0 0, .slice none 0 0] 29)).alloc (.cells #[.int .i64 0, .slice none 0 0, .slice none 0 0] 29))) (fun b hb' => gbx.block b (hLb.lt b hb')); (try simp only [World.size_alloc] at szc hSb); have t1 : ZBox ((wb.alloc (.cells #[.int .i64 0, .slice none 0 0, .slice none 0 0] 29)).alloc (.cells #[.int .i64 0, .slice none 0 0, .slice none 0 0] 29)) (wb.heap.size) := ((zb_new wb).alloc (.cells #[.int .i64 0, .slice none 0 0, .slice none 0 0] 29)); have t2 : ZBox ((wb.alloc (.cells #[.int .i64 0, .slice none 0 0, .slice none 0 0] 29)).alloc (.cells #[.int .i64 0, .slice none 0 0, .slice none 0 0] 29)) (wb.heap.size + 1) := (zb_next wb); have hne : wb.heap.size ≠ wb.heap.size + 1 := (by omega); have hg1 : w4.heap.size ≤ wb.heap.size := (by omega); have hg2 : w4.heap.size ≤ wb.heap.size + 1 := (by omega); have grx := (grow_alloc (grow_alloc frb (.cells #[.int .i64 0, .slice none 0 0, .slice none 0 0] 29)) (.cells #[.int .i64 0, .slice none 0 0, .slice none 0 0] 29)); have ea : ∀ b ∈ Sa, b ≠ wb.heap.size ∧ b ≠ wb.heap.size + 1 := (fun b hb' => ((by have h1 := hSa b hb'; have h2 := hLa.lt b hb'; omega) : b ≠ wb.heap.size ∧ b ≠ wb.heap.size + 1)); have eb : ∀ b ∈ Sb, b ≠ wb.heap.size ∧ b ≠ wb.heap.size + 1 := (fun b hb' => ((by have h1 := hSb b hb'; have h2 := hLb.lt b hb'; omega) : b ≠ wb.heap.size ∧ b ≠ wb.heap.size + 1)); have hne3 := hne.symm; obtain ⟨y1, y2, y3⟩ := OrbK.row3 t1; obtain ⟨y4, y5, y6⟩ := OrbK.row3 t2; obtain ⟨s1, s2, s3⟩ := z3At t1; obtain ⟨s4, s5, s6⟩ := z3At t2; have R12 := orb2_of t1 t2 hne LA LB ea eb hg1 hg2 grx; have R21 := orb2_of t2 t1 hne.symm LA LB (fun b hb' => (ea b hb').symm) (fun b hb' => (eb b hb').symm) hg2 hg1 grx; clear t1 t2 ea eb LA LB sza sya szb szc gwa gab gbx hLb hSb; (try clear h20); (try clear h21); (try clear h22))
            | (go_at_call 51; (have hn : True := hn0); (with_reducible refine h21.mono ?_); rintro e wb ⟨Ab, cb, Bb, db, Sb, rfl, hLb, hSb, hbb⟩; have frb := (grow_alloc fra (.cells #[.int .i64 0, .slice none 0 0, .slice none 0 0] 29)).trans (hbb.mono (grow_alloc fra (.cells #[.int .i64 0, .slice none 0 0, .slice none 0 0] 29)).size); have szb := frb.size; have szc := hbb.size; have gwa : Below wa.heap.size wa (wa.alloc (.cells #[.int .i64 0, .slice none 0 0, .slice none 0 0] 29)) := (grow_alloc (Below.refl _ _) _); have gab := gwa.trans (hbb.mono gwa.size); have gbx : Below wb.heap.size wb (wb.alloc (.cells #[.int .i64 0, .slice none 0 0, .slice none 0 0] 29)) := (grow_alloc (Below.refl _ _) _); have LA := hLa.alike (w' := (wb.alloc (.cells #[.int .i64 0, .slice none 0 0, .slice none 0 0] 29))) (fun b hb' => (gbx.block b (Nat.lt_of_lt_of_le (hLa.lt b hb') gab.size)).trans (gab.block b (hLa.lt b hb'))); have LB := hLb.alike (w' := (wb.alloc (.cells #[.int .i64 0, .slice none 0 0, .slice none 0 0] 29))) (fun b hb' => gbx.block b (hLb.lt b hb')); (try simp only [World.size_alloc] at szc hSb); have t1 : ZBox (wb.alloc (.cells #[.int .i64 0, .slice none 0 0, .slice none 0 0] 29)) (wa.heap.size) := (((zb_new wa).below hbb).alloc (.cells #[.int .i64 0, .slice none 0 0, .slice none 0 0] 29)); have t2 : ZBox (wb.alloc (.cells #[.int .i64 0, .slice none 0 0, .slice none 0 0] 29)) (wb.heap.size) := (zb_new wb); have hne : wa.heap.size ≠ wb.heap.size := (by omega); have hg1 : w4.heap.size ≤ wa.heap.size := (by omega); have hg2 : w4.heap.size ≤ wb.heap.size := (by omega); have grx := (grow_alloc frb (.cells #[.int .i64 0, .slice none 0 0, .slice none 0 0] 29)); have ea : ∀ b ∈ Sa, b ≠ wa.heap.size ∧ b ≠ wb.heap.size := (fun b hb' => ((by have h1 := hSa b hb'; have h2 := hLa.lt b hb'; omega) : b ≠ wa.heap.size ∧ b ≠ wb.heap.size)); have eb : ∀ b ∈ Sb, b ≠ wa.heap.size ∧ b ≠ wb.heap.size := (fun b hb' => ((by have h1 := hSb b hb'; have h2 := hLb.lt b hb'; omega) : b ≠ wa.heap.size ∧ b ≠ wb.heap.size)); have hne3 := hne.symm; obtain ⟨y1, y2, y3⟩ := OrbK.row3 t1; obtain ⟨y4, y5, y6⟩ := OrbK.row3 t2; obtain ⟨s1, s2, s3⟩ := z3At t1; obtain ⟨s4, s5, s6⟩ := z3At t2; have R12 := orb2_of t1 t2 hne LA LB ea eb hg1 hg2 grx; have R21 := orb2_of t2 t1 hne.symm LA LB (fun b hb' => (ea b hb').symm) (fun b hb' => (eb b hb').symm) hg2 hg1 grx; clear t1 t2 ea eb LA LB sza sya szb szc gwa gab gbx hLb hSb; (try clear h20); (try clear h21); (try clear h22))
            | (go_at_call 51; (have hn : True := hn0); (with_reducible refine h22.mono ?_); rintro e wb ⟨Ab, cb, Bb, db, Sb, rfl, hLb, hSb, hbb⟩; have frb := (grow_alloc (grow_alloc fra (.cells #[.int .i64 0, .slice none 0 0, .slice none 0 0] 29)) (.cells #[.int .i64 0, .slice none 0 0, .slice none 0 0] 29)).trans (hbb.mono (grow_alloc (grow_alloc fra (.cells #[.int .i64 0, .slice none 0 0, .slice none 0 0] 29)) (.cells #[.int .i64 0, .slice none 0 0, .slice none 0 0] 29)).size); have szb := frb.size; have szc := hbb.size; have gwa : Below wa.heap.size wa ((wa.alloc (.cells #[.int .i64 0, .slice none 0 0, .slice none 0 0] 29)).alloc (.cells #[.int .i64 0, .slice none 0 0, .slice none 0 0] 29)) := (grow_alloc (grow_alloc (Below.refl _ _) _) _); have gab := gwa.trans (hbb.mono gwa.size); have gbx : Below wb.heap.size wb wb := (Below.refl _ _); have LA := hLa.alike (w' := wb) (fun b hb' => (gbx.block b (Nat.lt_of_lt_of_le (hLa.lt b hb') gab.size)).trans (gab.block b (hLa.lt b hb'))); have LB := hLb.alike (w' := wb) (fun b hb' => gbx.block b (hLb.lt b hb')); (try simp only [World.size_alloc] at szc hSb); have t1 : ZBox wb (wa.heap.size) := (((zb_new wa).alloc (.cells #[.int .i64 0, .slice none 0 0, .slice none 0 0] 29)).below hbb); have t2 : ZBox wb (wa.heap.size + 1) := ((zb_next wa).below hbb); have hne : wa.heap.size ≠ wa.heap.size + 1 := (by omega); have hg1 : w4.heap.size ≤ wa.heap.size := (by omega); have hg2 : w4.heap.size ≤ wa.heap.size + 1 := (by omega); have grx := frb; have ea : ∀ b ∈ Sa, b ≠ wa.heap.size ∧ b ≠ wa.heap.size + 1 := (fun b hb' => ((by have h1 := hSa b hb'; have h2 := hLa.lt b hb'; omega) : b ≠ wa.heap.size ∧ b ≠ wa.heap.size + 1)); have eb : ∀ b ∈ Sb, b ≠ wa.heap.size ∧ b ≠ wa.heap.size + 1 := (fun b hb' => ((by have h1 := hSb b hb'; have h2 := hLb.lt b hb'; omega) : b ≠ wa.heap.size ∧ b ≠ wa.heap.size + 1)); have hne3 := hne.symm; obtain ⟨y1, y2, y3⟩ := OrbK.row3 t1; obtain ⟨y4, y5, y6⟩ := OrbK.row3 t2; obtain ⟨s1, s2, s3⟩ := z3At t1; obtain ⟨s4, s5, s6⟩ := z3At t2; have R12 := orb2_of t1 t2 hne LA LB ea eb hg1 hg2 grx; have R21 := orb2_of t2 t1 hne.symm LA LB (fun b hb' => (ea b hb').symm) (fun b hb' => (eb b hb').symm) hg2 hg1 grx; clear t1 t2 ea eb LA LB sza sya szb szc gwa gab gbx hLb hSb; (try clear h20); (try clear h21); (try clear h22))
            | (go_at_call 51; (have hn : True := hn1); (with_reducible refine h20.mono ?_); rintro e wb ⟨Ab, cb, Bb, db, Sb, rfl, hLb, hSb, hbb⟩; have frb := fra.trans (hbb.mono fra.size); have szb := frb.size; have szc := hbb.size; have gwa : Below wa.heap.size wa wa := (Below.refl _ _); have gab := gwa.trans (hbb.mono gwa.size); have gbx : Below wb.heap.size wb (wb.alloc (.cells #[.int .i64 0, .slice none 0 0, .slice none 0 0] 29)) := (grow_alloc (Below.refl _ _) _); have LA := hLa.alike (w' := (wb.alloc (.cells #[.int .i64 0, .slice none 0 0, .slice none 0 0] 29))) (fun b hb' => (gbx.block b (Nat.lt_of_lt_of_le (hLa.lt b hb') gab.size)).trans (gab.block b (hLa.lt b hb'))); have LB := hLb.alike (w' := (wb.alloc (.cells #[.int .i64 0, .slice none 0 0, .slice none 0 0] 29))) (fun b hb' => gbx.block b (hLb.lt b hb')); (try simp only [World.size_alloc] at szc hSb); have t1 : ZBox (wb.alloc (.cells #[.int .i64 0, .slice none 0 0, .slice none 0 0] 29)) (w4.heap.size) := ((p1.below hbb).alloc (.cells #[.int .i64 0, .slice none 0 0, .slice none 0 0] 29)); have t2 : ZBox (wb.alloc (.cells #[.int .i64 0, .slice none 0 0, .slice none 0 0] 29)) (wb.heap.size) := (zb_new wb); have hne : w4.heap.size ≠ wb.heap.size := (by omega); have hg1 : w4.heap.size ≤ w4.heap.size := (by omega); have hg2 : w4.heap.size ≤ wb.heap.size := (by omega); have grx := (grow_alloc frb (.cells #[.int .i64 0, .slice none 0 0, .slice none 0 0] 29)); have ea : ∀ b ∈ Sa, b ≠ w4.heap.size ∧ b ≠ wb.heap.size := (fun b hb' => ((by have h1 := hSa b hb'; have h2 := hLa.lt b hb'; omega) : b ≠ w4.heap.size ∧ b ≠ wb.heap.size)); have eb : ∀ b ∈ Sb, b ≠ w4.heap.size ∧ b ≠ wb.heap.size := (fun b hb' => ((by have h1 := hSb b hb'; have h2 := hLb.lt b hb'; omega) : b ≠ w4.heap.size ∧ b ≠ wb.heap.size)); have hne3 := hne.symm; obtain ⟨y1, y2, y3⟩ := OrbK.row3 t1; obtain ⟨y4, y5, y6⟩ := OrbK.row3 t2; obtain ⟨s1, s2, s3⟩ := z3At t1; obtain ⟨s4, s5, s6⟩ := z3At t2; have R12 := orb2_of t1 t2 hne LA LB ea eb hg1 hg2 grx; have R21 := orb2_of t2 t1 hne.symm LA LB (fun b hb' => (ea b hb').symm) (fun b hb' => (eb b hb').symm) hg2 hg1 grx; clear t1 t2 ea eb LA LB sza sya szb szc gwa gab gbx hLb hSb; (try clear h20); (try clear h21); (try clear h22))
            | (go_at_call 51; (have hn : True := hn1); (with_reducible refine h21.mono ?_); rintro e wb ⟨Ab, cb, Bb, db, Sb, rfl, hLb, hSb, hbb⟩; have frb := (grow_alloc fra (.cells #[.int .i64 0, .slice none 0 0, .slice none 0 0] 29)).trans (hbb.mono (grow_alloc fra (.cells #[.int .i64 0, .slice none 0 0, .slice none 0 0] 29)).size); have szb := frb.size; have szc := hbb.size; have gwa : Below wa.heap.size wa (wa.alloc (.cells #[.int .i64 0, .slice none 0 0, .slice none 0 0] 29)) := (grow_alloc (Below.refl _ _) _); have gab := gwa.trans (hbb.mono gwa.size); have gbx : Below wb.heap.size wb wb := (Below.refl _ _); have LA := hLa.alike (w' := wb) (fun b hb' => (gbx.block b (Nat.lt_of_lt_of_le (hLa.lt b hb') gab.size)).trans (gab.block b (hLa.lt b hb'))); have LB := hLb.alike (w' := wb) (fun b hb' => gbx.block b (hLb.lt b hb')); (try simp only [World.size_alloc] at szc hSb); have t1 : ZBox wb (w4.heap.size) := ((p1.alloc (.cells #[.int .i64 0, .slice none 0 0, .slice none 0 0] 29)).below hbb); have t2 : ZBox wb (wa.heap.size) := ((zb_new wa).below hbb); have hne : w4.heap.size ≠ wa.heap.size := (by omega); have hg1 : w4.heap.size ≤ w4.heap.size := (by omega); have hg2 : w4.heap.size ≤ wa.heap.size := (by omega); have grx := frb; have ea : ∀ b ∈ Sa, b ≠ w4.heap.size ∧ b ≠ wa.heap.size := (fun b hb' => ((by have h1 := hSa b hb'; have h2 := hLa.lt b hb'; omega) : b ≠ w4.heap.size ∧ b ≠ wa.heap.size)); have eb : ∀ b ∈ Sb, b ≠ w4.heap.size ∧ b ≠ wa.heap.size := (fun b hb' => ((by have h1 := hSb b hb'; have h2 := hLb.lt b hb'; omega) : b ≠ w4.heap.size ∧ b ≠ wa.heap.size)); have hne3 := hne.symm; obtain ⟨y1, y2, y3⟩ := OrbK.row3 t1; obtain ⟨y4, y5, y6⟩ := OrbK.row3 t2; obtain ⟨s1, s2, s3⟩ := z3At t1; obtain ⟨s4, s5, s6⟩ := z3At t2; have R12 := orb2_of t1 t2 hne LA LB ea eb hg1 hg2 grx; have R21 := orb2_of t2 t1 hne.symm LA LB (fun b hb' => (ea b hb').symm) (fun b hb' => (eb b hb').symm) hg2 hg1 grx; clear t1 t2 ea eb LA LB sza sya szb szc gwa gab gbx hLb hSb; (try clear h20); (try clear h21); (try clear h22))
            | (go_at_call 51; (have hn : True := hn2); (with_reducible refine h20.mono ?_); rintro e wb ⟨Ab, cb, Bb, db, Sb, rfl, hLb, hSb, hbb⟩; have frb := fra.trans (hbb.mono fra.size); have szb := frb.size; have szc := hbb.size; have gwa : Below wa.heap.size wa wa := (Below.refl _ _); have gab := gwa.trans (hbb.mono gwa.size); have gbx : Below wb.heap.size wb wb := (Below.refl _ _); have LA := hLa.alike (w' := wb) (fun b hb' => (gbx.block b (Nat.lt_of_lt_of_le (hLa.lt b hb') gab.size)).trans (gab.block b (hLa.lt b hb'))); have LB := hLb.alike (w' := wb) (fun b hb' => gbx.block b (hLb.lt b hb')); (try simp only [World.size_alloc] at szc hSb); have t1 : ZBox wb (w4.heap.size) := (p1.below hbb); have t2 : ZBox wb (w4.heap.size + 1) := (p2.below hbb); have hne : w4.heap.size ≠ w4.heap.size + 1 := (by omega); have hg1 : w4.heap.size ≤ w4.heap.size := (by omega); have hg2 : w4.heap.size ≤ w4.heap.size + 1 := (by omega); have grx := frb; have ea : ∀ b ∈ Sa, b ≠ w4.heap.size ∧ b ≠ w4.heap.size + 1 := (fun b hb' => ((by have h1 := hSa b hb'; have h2 := hLa.lt b hb'; omega) : b ≠ w4.heap.size ∧ b ≠ w4.heap.size + 1)); have eb : ∀ b ∈ Sb, b ≠ w4.heap.size ∧ b ≠ w4.heap.size + 1 := (fun b hb' => ((by have h1 := hSb b hb'; have h2 := hLb.lt b hb'; omega) : b ≠ w4.heap.size ∧ b ≠ w4.heap.size + 1)); have hne3 := hne.symm; obtain ⟨y1, y2, y3⟩ := OrbK.row3 t1; obtain ⟨y4, y5, y6⟩ := OrbK.row3 t2; obtain ⟨s1, s2, s3⟩ := z3At t1; obtain ⟨s4, s5, s6⟩ := z3At t2; have R12 := orb2_of t1 t2 hne LA LB ea eb hg1 hg2 grx; have R21 := orb2_of t2 t1 hne.symm LA LB (fun b hb' => (ea b hb').symm) (fun b hb' => (eb b hb').symm) hg2 hg1 grx; clear t1 t2 ea eb LA LB sza sya szb szc gwa gab gbx hLb hSb; (try clear h20); (try clear h21); (try clear h22))
            | fail)
          all_goals
            go_wp2_with fail
            go_meet
            first
              | exact R12
              | exact R21
        case rest =>
          obtain ⟨g, h, Aa, ca, Ba, da, Ab, cb, Bb, db, rfl, rfl, hg, hh, hC1, hR1, hC2, hR2, hbc⟩ := hcut
          have hltg := OrbK.box_lt hg
          have hlth := OrbK.box_lt hh
          obtain ⟨_, p1, p2⟩ := OrbK.row3 hg
          obtain ⟨_, q1, q2⟩ := OrbK.row3 hh
          have hdw : Below wc.heap.size wc wc.drew := grow_drew (Below.refl _ _)
          have HS3 : Hid (∀ W : World, Below wc.heap.size wc W → (W.cell? ⟨g, 1, none⟩ = some (.slice Aa C1.length ca) ∧ W.cell? ⟨g, 2, none⟩ = some (.slice Ba M1.length da)) ∧ W.cell? ⟨h, 1, none⟩ = some (.slice Ab C2.length cb) ∧ W.cell? ⟨h, 2, none⟩ = some (.slice Bb M2.length db)) :=
            Lib.hid (fun W k => ⟨⟨(k.cell (p := ⟨g, 1, none⟩) hltg).trans p1, (k.cell (p := ⟨g, 2, none⟩) hltg).trans p2⟩, (k.cell (p := ⟨h, 1, none⟩) hlth).trans q1, (k.cell (p := ⟨h, 2, none⟩) hlth).trans q2⟩)
          have heq := equalI_any Aa Ab ca cb C1 C2 wc.drew (hC1.1.below hdw) (hC2.1.below hdw) (by omega) (by omega)
          have HCO1 := Lib.hid (fun (W : World) (k : Below wc.heap.size wc W) => codesOf_any Ba da M1 W (hR1.below k) (by have := HFF.out.1; omega) HD1.out)
          have HCO2 := Lib.hid (fun (W : World) (k : Below wc.heap.size wc W) => codesOf_any Bb db M2 W (hR2.below k) (by have := HFF.out.2; omega) HD2.out)
          unfold TabP at HCO1 HCO2
          have hbw := HBZ4.out.trans (hbc.mono HBZ4.out.size)
          obtain ⟨⟨f1, f2⟩, f3, f4⟩ := HS3.out wc.drew hdw
          have hC1q := hC1.1
          have hC2q := hC2.1
          have P1 := p1
          have P3 := q1
          clear HS hec1 hec2 hg hh hC1 hR1 hC2 hR2 hltg hlth p1 p2 q1 q2
          by_cases hcc : C1 = C2
          · have hn : Hid ((decide (C1 = C2) && decide (M1 = M2)) = eqTab (tabOf M1) (tabOf M2)) := Lib.hid (by
              have h1 := HN1.out
              have h2 := HN2.out
              rw [← hcc] at h2
              rw [tab_same (k := (C1.length : Int)) (by omega) (by omega) hn4 h1 h2]
              simp [hcc])
            have hEQ := fun W => run_eql_tab (tabOf M1) (tabOf M2) W
            rw [decide_eq_true hcc] at heq
            have hGD : Try.prog.eqGuardType Try.prog.depth 72 = false := by kernel_rfl
            clear hcc HN1 HN2 HD1 HD2 P1 P3 hC1q hC2q
            generalize eqTab (tabOf M1) (tabOf M2) = kb at *
            generalize tabV (tabOf M1) = t1 at *
            generalize tabV (tabOf M2) = t2 at *
            try go_wp2_with fail
            go_region_held3 (fun w' => (w'.cell? ⟨g, 1, none⟩ = some (.slice Aa C1.length ca) ∧ w'.cell? ⟨g, 2, none⟩ = some (.slice Ba M1.length da)) ∧ w'.cell? ⟨h, 1, none⟩ = some (.slice Ab C2.length cb) ∧ w'.cell? ⟨h, 2, none⟩ = some (.slice Bb M2.length db))
              (with_reducible exact ⟨⟨by assumption, by assumption⟩, by assumption, by assumption⟩)
              (first
              | (go_at_call 107; (with_reducible refine heq.mono ?_); rintro e w5 ⟨rfl, hb5⟩; have fr5 := hdw.trans (hb5.mono hdw.size); obtain ⟨⟨j1, j2⟩, j3, j4⟩ := HS3.out w5 fr5; have hcq := HCO1.out w5 fr5)
              | (go_at_call 93; (with_reducible refine hcq.mono ?_); rintro e w6 ⟨rfl, hb6⟩; have fr6 := fr5.trans (hb6.mono fr5.size); obtain ⟨⟨i1, i2⟩, i3, i4⟩ := HS3.out w6 fr6; have hcp := HCO2.out w6 fr6)
              | (go_at_call 93; (with_reducible refine hcp.mono ?_); rintro e w7 ⟨rfl, hb7⟩; have fr7 := fr6.trans (hb7.mono fr6.size); obtain ⟨⟨o1, o2⟩, o3, o4⟩ := HS3.out w7 fr7; have hEQ3 := hEQ w7)
              | fail)
            have hbe := hbw.trans (fr7.mono hbw.size)
            clear f1 f2 f3 f4 j1 j2 j3 j4 i1 i2 i3 i4 o1 o2 o3 o4 heq hcq hcp fr5 fr6 fr7 hb5 hb6 hb7 HS3 HCO1 HCO2 hdw hEQ hEQ3
            go_wp2
            go_ret
            exact ⟨bool_end hn.out.symm, hbe⟩
          · have hn : Hid ((decide (C1 = C2) && decide (M1 = M2)) = false) := Lib.hid (by simp [hcc])
            have hqf := fun d os => equalI_any Aa Ab ca cb C1 C2 (grow (redrawn wc d) os) (hC1q.below (below_regrown wc d os)) (hC2q.below (below_regrown wc d os)) (by omega) (by omega)
            rw [decide_eq_false hcc] at hqf
            have q1 := fun d os => cell_regrown P1 d os
            have q3 := fun d os => cell_regrown P3 d os
            clear HN1 HN2 HD1 HD2 HCO1 HCO2 f1 f2 f3 f4 heq HS3 hdw hcc P1 P3 hC1q hC2q
            try go_wp2_with fail
            refine wp_region_quiet_below (by kernel_rfl) (by kernel_rfl) ?_
            repeat (any_goals (first | go_big_quiet_step ((go_at_call 107; exact Calls.regrown_of (hqf _ _))) | quiet_step ((go_at_call 107; exact Calls.regrown_of (hqf _ _)))))
            refine wpQuiet_nil ?_
            intro _ hw'
            obtain ⟨⟨dq, osq⟩, hw''⟩ := hw'
            subst hw''
            have hbe := hbw.trans ((below_regrown wc dq osq).mono hbw.size)
            generalize grow (redrawn wc dq) osq = w9 at hbe ⊢
            clear q1 q3 hqf
            go_wp2
            go_ret
            exact ⟨bool_end hn.out.symm, hbe⟩
      · have hzn : (z1 != z2) = true := by simpa using hz
        have hn : Hid (sameSB z1 l1 m1 z2 l2 m2 = false) := Lib.hid (by simp [sameSB, hz])
        clear ho1 ho2
        go_enter Try.func53, Try.ntmps53
        go_wp2_with (first
          | (go_at_call 77; (with_reducible refine hio1.mono ?_); rintro e w3 ⟨rfl, hb3⟩; have hbz3 := HB0.out.trans (hb3.mono HB0.out.size); have K3 := (hb3.block _ (OrbK.box_lt HK0.out)).trans HK0.out; have J3 := (hb3.block _ (OrbK.box_lt HK1.out)).trans HK1.out; clear b0 b1 b2 n0 n1 n2; obtain ⟨b0, b1, b2⟩ := OrbK.row3 K3; obtain ⟨n0, n1, n2⟩ := OrbK.row3 J3; have hio2 := hIO2 w3 hbz3)
          | (go_at_call 77; (with_reducible refine hio2.mono ?_); rintro e w4 ⟨rfl, hb4⟩; have hbz4 := hbz3.trans (hb4.mono hbz3.size); have K4 := (hb4.block _ (OrbK.box_lt K3)).trans K3; have J4 := (hb4.block _ (OrbK.box_lt J3)).trans J3; clear b0 b1 b2 n0 n1 n2; obtain ⟨b0, b1, b2⟩ := OrbK.row3 K4; obtain ⟨n0, n1, n2⟩ := OrbK.row3 J4))
        clear hio1 hio2 hb3 hb4 hbz3 b0 b1 b2 n0 n1 n2 hIO2 K3 J3 K4 J4
        go_wp2
        go_ret
        exact ⟨bool_end hn.out.symm, hbz4⟩
end Go.Proofs.Ytdbogjhkcnajkaa
end

section
namespace Go.Proofs.Ytdbogjhkcnajkaa
open Go.RowKit Go.Sort
set_option linter.unusedVariables false

theorem same_eq (z1 : Int) (l1 : List Int) (m1 : List (List Int)) (z2 : Int) (l2 : List Int) (m2 : List (List Int)) :
    sameSB z1 l1 m1 z2 l2 m2 = (orbB z1 l1 m1 && (orbB z2 l2 m2 && ((decide (z1 = z2) && decide (olR (orbB z1 l1 m1) (redCz z1 l1 m1) = olR (orbB z2 l2 m2) (redCz z2 l2 m2))) && decide (omR (orbB z1 l1 m1) (redMz z1 l1 m1) = omR (orbB z2 l2 m2) (redMz z2 l2 m2))))) := by
  unfold sameSB
  cases orbB z1 l1 m1 with
  | false => rfl
  | true =>
    cases orbB z2 l2 m2 with
    | false => rfl
    | true => simp [olR, omR, Bool.and_assoc]
theorem sameTo_zero (a b : List (List Int)) : sameTo a b 0 = decide (a.length = b.length) := by simp [sameTo]

set_option maxRecDepth 100000 in
set_option maxHeartbeats 8000000 in
theorem sameSet_spec (z1 : Int) (l1 : List Int) (m1 : List (List Int)) (hf1 : FitO l1 m1) (x1 : Value) (z2 : Int) (l2 : List Int) (m2 : List (List Int)) (hf2 : FitO l2 m2) (x2 : Value) (w : World) (hx1 : OrbIx w x1 z1 l1 m1) (hx2 : OrbIx w x2 z2 l2 m2) :
    Calls Try.prog 52 #[x1, x2] w (BoolP (sameSB z1 l1 m1 z2 l2 m2) w) := by
  have HX1 := Lib.hid hx1
  have HX2 := Lib.hid hx2
  obtain ⟨A1, c1, B1, d1, rfl, hl1, hmr1, hm1⟩ := hx1
  obtain ⟨A2, c2, B2, d2, rfl, hl2, hmr2, hm2⟩ := hx2
  have hb0 : Below w.heap.size w ((w.alloc (.cells #[.int .i64 z1, .slice A1 l1.length c1, .slice B1 m1.length d1] 29)).alloc (.cells #[.int .i64 z2, .slice A2 l2.length c2, .slice B2 m2.length d2] 29)) := ((Below.refl _ _).alloc (Nat.le_refl _) _).alloc (by simp) _
  have k0 : ((w.alloc (.cells #[.int .i64 z1, .slice A1 l1.length c1, .slice B1 m1.length d1] 29)).alloc (.cells #[.int .i64 z2, .slice A2 l2.length c2, .slice B2 m2.length d2] 29)).heap[w.heap.size]? = some (.cells #[.int .i64 z1, .slice A1 l1.length c1, .slice B1 m1.length d1] 29 (0, 0)) := (Below.heap_alloc _ _ _ (by simp)).trans (heap_alloc_new w _)
  have k1 : ((w.alloc (.cells #[.int .i64 z1, .slice A1 l1.length c1, .slice B1 m1.length d1] 29)).alloc (.cells #[.int .i64 z2, .slice A2 l2.length c2, .slice B2 m2.length d2] 29)).heap[w.heap.size + 1]? = some (.cells #[.int .i64 z2, .slice A2 l2.length c2, .slice B2 m2.length d2] 29 (0, 0)) := by
    have h := heap_alloc_new (w.alloc (.cells #[.int .i64 z1, .slice A1 l1.length c1, .slice B1 m1.length d1] 29)) (.cells #[.int .i64 z2, .slice A2 l2.length c2, .slice B2 m2.length d2] 29)
    rw [World.size_alloc] at h
    exact h
  obtain ⟨b0, b1, b2⟩ := OrbK.row3 k0
  obtain ⟨n0, n1, n2⟩ := OrbK.row3 k1
  have HIO1 := Lib.hid (fun W (h : Below w.heap.size w W) => isOrbitSet_spec z1 l1 m1 hf1 _ W (HX1.out.below h))
  have HIO2 := Lib.hid (fun W (h : Below w.heap.size w W) => isOrbitSet_spec z2 l2 m2 hf2 _ W (HX2.out.below h))
  have hcA := reduced_spec z1 l1 m1 hf1 _ _ (HX1.out.below hb0)
  have hCR2 := fun W (h : Below w.heap.size w W) => reduced_spec z2 l2 m2 hf2 _ W (HX2.out.below h)
  have HB0 := Lib.hid hb0
  have HK0 := Lib.hid k0
  have HK1 := Lib.hid k1
  have hl3 := redLen z1 l1 m1
  have hl4 := redLen z2 l2 m2
  rw [same_eq]
  clear hl1 hmr1 hm1 hl2 hmr2 hm2 k0 k1 hb0 HX1 HX2
  generalize olR (orbB z1 l1 m1) (redCz z1 l1 m1) = C1 at *
  generalize omR (orbB z1 l1 m1) (redMz z1 l1 m1) = M1 at *
  generalize olR (orbB z2 l2 m2) (redCz z2 l2 m2) = C2 at *
  generalize omR (orbB z2 l2 m2) (redMz z2 l2 m2) = M2 at *
  generalize ozR (orbB z1 l1 m1) z1 = y1 at *
  generalize ozR (orbB z2 l2 m2) z2 = y2 at *
  obtain ⟨hk1, hs1⟩ := hl3
  obtain ⟨hk2, hs2⟩ := hl4
  by_cases hz : z1 = z2
  · subst hz
    have hzb : (z1 == z1) = true := by simp
    by_cases hcc : C1 = C2
    · have hSM := fun (Aa Ab : Option Addr) (ca cb : Nat) (W : World) (h1 : IntsAt W Aa C1) (h2 : IntsAt W Ab C2) => l1Same_any Aa Ab ca cb C1 C2 W h1 h2 (by omega) (by omega)
      rw [decide_eq_true hcc] at hSM
      by_cases hle : M1.length = M2.length
      · have hleb : ((M1.length : Int) == (M2.length : Int)) = true := by simp [hle]
        have hled : decide ((M1.length : Int) = (M2.length : Int)) = true := by simp [hle]
        have HLE := Lib.hid hle
        have hst0 : Hid (sameTo M1 M2 0 = true) := Lib.hid (by rw [sameTo_zero]; simp [hle])
        have HCC := Lib.hid hcc
        clear hcc hle
        go_enter Try.func52, Try.ntmps52
        go_wp2_with (first
          | (go_at_call 50; (with_reducible refine hcA.mono ?_); rintro e w3 ⟨Aa, ca, Ba, da, Sa, rfl, hLa, hSa, hb3⟩; have hbx3 : Below w3.heap.size w3 (w3.alloc (.cells #[.int .i64 y1, .slice Aa C1.length ca, .slice Ba M1.length da] 29)) := (Below.refl _ _).alloc (Nat.le_refl _) _; have h03 := hb3.trans (hbx3.mono hb3.size); have hbz4 := HB0.out.trans (h03.mono HB0.out.size); have K4 := (h03.block _ (OrbK.box_lt HK0.out)).trans HK0.out; have J4 := (h03.block _ (OrbK.box_lt HK1.out)).trans HK1.out; clear b0 b1 b2 n0 n1 n2; obtain ⟨n0, n1, n2⟩ := OrbK.row3 J4; have hcB := hCR2 _ hbz4)
          | (go_at_call 50; (with_reducible refine hcB.mono ?_); rintro e w5 ⟨Ab, cb, Bb, db, Sb, rfl, hLb, hSb, hb5⟩; have hbx5 : Below w5.heap.size w5 (w5.alloc (.cells #[.int .i64 y2, .slice Ab C2.length cb, .slice Bb M2.length db] 29)) := (Below.refl _ _).alloc (Nat.le_refl _) _; have h45 := hb5.trans (hbx5.mono hb5.size); have hbz6 := hbz4.trans (h45.mono hbz4.size); have K6 := (h45.block _ (OrbK.box_lt K4)).trans K4; have J6 := (h45.block _ (OrbK.box_lt J4)).trans J4; have G6 := (h45.block w3.heap.size (by simp)).trans (heap_alloc_new w3 (.cells #[.int .i64 y1, .slice Aa C1.length ca, .slice Ba M1.length da] 29)); have H6 := heap_alloc_new w5 (.cells #[.int .i64 y2, .slice Ab C2.length cb, .slice Bb M2.length db] 29); have hpa := orb_parts hLa; have hpb := orb_parts hLb; clear n0 n1 n2; obtain ⟨b0, b1, b2⟩ := OrbK.row3 K6; obtain ⟨n0, n1, n2⟩ := OrbK.row3 J6; obtain ⟨p0, p1, p2⟩ := OrbK.row3 G6; obtain ⟨q0, q1, q2⟩ := OrbK.row3 H6; have hsm := hSM Aa Ab ca cb (w5.alloc (.cells #[.int .i64 y2, .slice Ab C2.length cb, .slice Bb M2.length db] 29)) ((hpa.1.1.below hbx3).below h45) (hpb.1.1.below hbx5))
          | (go_at_call 105; (with_reducible refine hsm.mono ?_); rintro e w7 ⟨rfl, hb7⟩; have hbz7 := hbz6.trans (hb7.mono hbz6.size); have G8 := (hb7.block _ (OrbK.box_lt G6)).trans G6; have H8 := (hb7.block _ (OrbK.box_lt H6)).trans H6; clear p0 p1 p2 q0 q1 q2; obtain ⟨p0, p1, p2⟩ := OrbK.row3 G8; obtain ⟨q0, q1, q2⟩ := OrbK.row3 H8))
        have K6 := Lib.hid ((hb7.block _ (OrbK.box_lt K6)).trans K6)
        have J6 := Lib.hid ((hb7.block _ (OrbK.box_lt J6)).trans J6)
        have G6 := Lib.hid G8
        have H6 := Lib.hid H8
        have HBZ := Lib.hid hbz7
        have HMM := Lib.hid (show RowsIn w7 (.slice Ba M1.length da) M1 from RowsIn.below (show RowsIn _ (.slice Ba M1.length da) M1 from RowsIn.below (show RowsIn _ (.slice Ba M1.length da) M1 from hpa.2.below hbx3) h45) hb7)
        have HRM := Lib.hid (show RowsIn w7 (.slice Bb M2.length db) M2 from RowsIn.below (show RowsIn _ (.slice Bb M2.length db) M2 from hpb.2.below hbx5) hb7)
        clear hcA hCR2 hcB hLa hSa hb3 hbx3 h03 hbz4 K4 J4 hLb hSb hb5 hbx5 h45 hpa hpb b0 b1 b2 n0 n1 n2 p0 p1 p2 q0 q1 q2 HB0 HK0 HK1 hsm hSM hb7 hbz6 hbz7 G8 H8 hleb hled
        obtain ⟨g, hg⟩ : ∃ g : Nat, g = w3.heap.size := ⟨_, rfl⟩
        rw [← hg] at G6 ⊢
        obtain ⟨h, hh⟩ : ∃ h : Nat, h = w5.heap.size := ⟨_, rfl⟩
        rw [← hh] at H6 ⊢
        clear hg hh
        have hbl : Below w7.heap.size w7 w7 := Below.refl _ _
        go_loopw [7, 8] (fun sv iv wr => ∃ q : Nat, q ≤ M1.length ∧ iv = .int .i64 q ∧ sv = .bool (sameTo M1 M2 q) ∧ Below w7.heap.size w7 wr) (fun _ iv _ => M1.length - (intOf iv).toNat)
        case atStart => exact ⟨0, Nat.zero_le _, rfl, by rw [hst0.out], hbl⟩
        case round =>
          clear hbl
          obtain ⟨q, hq, rfl, rfl, hbi⟩ := hrel
          have h7w := (hbi.block _ (OrbK.box_lt G6.out)).trans G6.out
          have hbW := HBZ.out.trans (hbi.mono HBZ.out.size)
          cases hst : sameTo M1 M2 q with
          | false =>
            have hn : Hid ((orbB z1 l1 m1 && (orbB z1 l2 m2 && ((decide (z1 = z1) && decide (C1 = C2)) && decide (M1 = M2)))) = false) := Lib.hid (by rw [sameTo_no hst]; simp)
            clear hst h7w
            go_wp2
            go_ret
            exact ⟨bool_end hn.out.symm, hbW⟩
          | true =>
            obtain ⟨u0, u1, u2⟩ := OrbK.row3 h7w
            by_cases hlq : q < M1.length
            · have hlm : q < M2.length := by have := HLE.out; omega
              have HN := Lib.hid (sameTo_next hst hlq)
              obtain ⟨b5, o5, rfl, hb5, hc5⟩ := RowsIn.get (HMM.out.below hbi) (by omega)
              obtain ⟨b6, o6, rfl, hb6, hc6⟩ := RowsIn.get (HRM.out.below hbi) (by omega)
              obtain ⟨Ax, cx, dx, hAx⟩ := hc5 q hlq
              obtain ⟨Ay, cy, dy, hAy⟩ := hc6 q hlm
              have hdw : Below wr.heap.size wr wr.drew := ⟨rfl, rfl, rfl, Nat.le_refl _, fun _ _ => rfl⟩
              have hx1 := sumR_at hlq
              have hy1 := sumR_at hlm
              have hsm := l1Same_any Ax Ay cx cy (rwAt M1 q) (rwAt M2 q) wr.drew (hAx.below hdw) (hAy.below hdw) (by omega) (by omega)
              have h3w := (hbi.block _ (OrbK.box_lt H6.out)).trans H6.out
              obtain ⟨v0, v1, v2⟩ := OrbK.row3 h3w
              have hl7 := OrbK.box_lt h7w
              have hl3 := OrbK.box_lt h3w
              have hqi : (q : Int) < (M1.length : Int) := by omega
              have hqj : (q : Int) < (M2.length : Int) := by omega
              have hq0 : (0 : Int) ≤ (q : Int) := by omega
              clear hAx hAy hc5 hc6 hx1 hy1 h7w h3w hst hbW
              generalize rwAt M1 q = X at *
              generalize rwAt M2 q = Y at *
              have HS : Hid (∀ W : World, Below wr.heap.size wr W → W.cell? ⟨g, 2, none⟩ = some (.slice (some ⟨b5, o5, none⟩) M1.length da) ∧ W.cell? ⟨b5, o5 + q, none⟩ = some (.slice Ax X.length cx) ∧ W.cell? ⟨h, 2, none⟩ = some (.slice (some ⟨b6, o6, none⟩) M2.length db) ∧ W.cell? ⟨b6, o6 + q, none⟩ = some (.slice Ay Y.length cy)) :=
                Lib.hid (fun W k => ⟨(k.cell (p := ⟨g, 2, none⟩) hl7).trans u2, (k.cell (p := ⟨b5, o5 + q, none⟩) hb5).trans dx, (k.cell (p := ⟨h, 2, none⟩) hl3).trans v2, (k.cell (p := ⟨b6, o6 + q, none⟩) hb6).trans dy⟩)
              obtain ⟨f0, f1, f2, f3⟩ := HS.out wr.drew hdw
              go_wp2
              go_region_held3 (fun w' => w'.cell? ⟨g, 2, none⟩ = some (.slice (some ⟨b5, o5, none⟩) M1.length da) ∧ w'.cell? ⟨b5, o5 + q, none⟩ = some (.slice Ax X.length cx) ∧ w'.cell? ⟨h, 2, none⟩ = some (.slice (some ⟨b6, o6, none⟩) M2.length db) ∧ w'.cell? ⟨b6, o6 + q, none⟩ = some (.slice Ay Y.length cy))
                (with_reducible exact ⟨by assumption, by assumption, by assumption, by assumption⟩)
                (first
                | (go_at_call 105; (with_reducible refine hsm.mono ?_); rintro e w9 ⟨rfl, hb9⟩; have fr9 := hdw.trans (hb9.mono hdw.size); obtain ⟨j0, j1, j2, j3⟩ := HS.out w9 fr9)
                | fail)
              have hbn := hbi.trans (fr9.mono hbi.size)
              clear f0 f1 f2 f3 j0 j1 j2 j3 hsm hdw hb9 fr9 HS u0 u1 u2 v0 v1 v2 dx dy hbi
              go_wp2
              refine ⟨⟨q + 1, by omega, by go_num, by rw [HN.out], hbn⟩, ?_⟩
              (first | (simp only [intOf]; omega) | omega)
            · have e : q = M1.length := by omega
              subst e
              have hmm := sameTo_all hst
              have K8 := (hbi.block _ (OrbK.box_lt K6.out)).trans K6.out
              have J8 := (hbi.block _ (OrbK.box_lt J6.out)).trans J6.out
              obtain ⟨b0, b1, b2⟩ := OrbK.row3 K8
              have hio1 := HIO1.out wr hbW
              cases ho1 : orbB z1 l1 m1 with
              | false =>
                rw [ho1] at hio1
                have hn : Hid ((orbB z1 l1 m1 && (orbB z1 l2 m2 && ((decide (z1 = z1) && decide (C1 = C2)) && decide (M1 = M2)))) = false) := Lib.hid (by rw [ho1]; rfl)
                clear hst hmm h7w K8 J8 ho1
                go_wp2_with (go_at_call 74; (with_reducible refine hio1.mono ?_); rintro e w8 ⟨rfl, hb8⟩; have hbe := hbW.trans (hb8.mono hbW.size))
                go_ret
                exact ⟨bool_end hn.out.symm, hbe⟩
              | true =>
                rw [ho1] at hio1
                have hn : Hid ((orbB z1 l1 m1 && (orbB z1 l2 m2 && ((decide (z1 = z1) && decide (C1 = C2)) && decide (M1 = M2)))) = orbB z1 l2 m2) := Lib.hid (by rw [ho1, hmm, HCC.out]; simp)
                have HJ8 := Lib.hid J8
                clear hst hmm h7w K8 J8 ho1
                go_wp2_with (first
                  | (go_at_call 74; (with_reducible refine hio1.mono ?_); rintro e w8 ⟨rfl, hb8⟩; have hbW2 := hbW.trans (hb8.mono hbW.size); have J9 := (hb8.block _ (OrbK.box_lt HJ8.out)).trans HJ8.out; clear b0 b1 b2; obtain ⟨n0, n1, n2⟩ := OrbK.row3 J9; have hio2 := HIO2.out w8 hbW2)
                  | (go_at_call 74; (with_reducible refine hio2.mono ?_); rintro e w9 ⟨rfl, hb9⟩; have hbe := hbW2.trans (hb9.mono hbW2.size)))
                go_ret
                exact ⟨bool_end hn.out.symm, hbe⟩
      · have hleb : ((M1.length : Int) == (M2.length : Int)) = false := by (first | (simp; omega) | simp [hle])
        have hlei : ¬ (M1.length : Int) = (M2.length : Int) := by omega
        have hn : Hid ((orbB z1 l1 m1 && (orbB z1 l2 m2 && ((decide (z1 = z1) && decide (C1 = C2)) && decide (M1 = M2)))) = false) := Lib.hid (by rw [decide_eq_false (p := M1 = M2) (fun e => hle (by rw [e]))]; simp)
        clear HIO1 HIO2 hcc
        go_enter Try.func52, Try.ntmps52
        go_wp2_with (first
          | (go_at_call 50; (with_reducible refine hcA.mono ?_); rintro e w3 ⟨Aa, ca, Ba, da, Sa, rfl, hLa, hSa, hb3⟩; have hbx3 : Below w3.heap.size w3 (w3.alloc (.cells #[.int .i64 y1, .slice Aa C1.length ca, .slice Ba M1.length da] 29)) := (Below.refl _ _).alloc (Nat.le_refl _) _; have h03 := hb3.trans (hbx3.mono hb3.size); have hbz4 := HB0.out.trans (h03.mono HB0.out.size); have K4 := (h03.block _ (OrbK.box_lt HK0.out)).trans HK0.out; have J4 := (h03.block _ (OrbK.box_lt HK1.out)).trans HK1.out; clear b0 b1 b2 n0 n1 n2; obtain ⟨n0, n1, n2⟩ := OrbK.row3 J4; have hcB := hCR2 _ hbz4)
          | (go_at_call 50; (with_reducible refine hcB.mono ?_); rintro e w5 ⟨Ab, cb, Bb, db, Sb, rfl, hLb, hSb, hb5⟩; have hbx5 : Below w5.heap.size w5 (w5.alloc (.cells #[.int .i64 y2, .slice Ab C2.length cb, .slice Bb M2.length db] 29)) := (Below.refl _ _).alloc (Nat.le_refl _) _; have h45 := hb5.trans (hbx5.mono hb5.size); have hbz6 := hbz4.trans (h45.mono hbz4.size); have K6 := (h45.block _ (OrbK.box_lt K4)).trans K4; have J6 := (h45.block _ (OrbK.box_lt J4)).trans J4; have G6 := (h45.block w3.heap.size (by simp)).trans (heap_alloc_new w3 (.cells #[.int .i64 y1, .slice Aa C1.length ca, .slice Ba M1.length da] 29)); have H6 := heap_alloc_new w5 (.cells #[.int .i64 y2, .slice Ab C2.length cb, .slice Bb M2.length db] 29); have hpa := orb_parts hLa; have hpb := orb_parts hLb; clear n0 n1 n2; obtain ⟨b0, b1, b2⟩ := OrbK.row3 K6; obtain ⟨n0, n1, n2⟩ := OrbK.row3 J6; obtain ⟨p0, p1, p2⟩ := OrbK.row3 G6; obtain ⟨q0, q1, q2⟩ := OrbK.row3 H6; have hsm := hSM Aa Ab ca cb (w5.alloc (.cells #[.int .i64 y2, .slice Ab C2.length cb, .slice Bb M2.length db] 29)) ((hpa.1.1.below hbx3).below h45) (hpb.1.1.below hbx5))
          | (go_at_call 105; (with_reducible refine hsm.mono ?_); rintro e w7 ⟨rfl, hb7⟩; have hbz7 := hbz6.trans (hb7.mono hbz6.size); have G8 := (hb7.block _ (OrbK.box_lt G6)).trans G6; have H8 := (hb7.block _ (OrbK.box_lt H6)).trans H6; clear p0 p1 p2 q0 q1 q2; obtain ⟨p0, p1, p2⟩ := OrbK.row3 G8; obtain ⟨q0, q1, q2⟩ := OrbK.row3 H8))
        have hbW := hbz7
        clear hcA hCR2 hcB hLa hSa hb3 hbx3 h03 hbz4 K4 J4 hLb hSb hb5 hbx5 h45 hpa hpb b0 b1 b2 n0 n1 n2 p0 p1 p2 q0 q1 q2 HB0 HK0 HK1 hsm hSM hbz6 hb7 hbz7 G8 H8 K6 J6 G6 H6
        go_loopw [7, 8] (fun sv iv wr => sv = .bool false ∧ iv = .int .i64 0 ∧ Below w.heap.size w wr) (fun _ _ _ => 0)
        case atStart => exact ⟨rfl, rfl, hbW⟩
        case round =>
          obtain ⟨rfl, rfl, hbi⟩ := hrel
          clear hbW
          go_wp2
          go_ret
          exact ⟨bool_end hn.out.symm, hbi⟩
    · have hSM := fun (Aa Ab : Option Addr) (ca cb : Nat) (W : World) (h1 : IntsAt W Aa C1) (h2 : IntsAt W Ab C2) => l1Same_any Aa Ab ca cb C1 C2 W h1 h2 (by omega) (by omega)
      rw [decide_eq_false hcc] at hSM
      have hn : Hid ((orbB z1 l1 m1 && (orbB z1 l2 m2 && ((decide (z1 = z1) && decide (C1 = C2)) && decide (M1 = M2)))) = false) := Lib.hid (by rw [decide_eq_false hcc]; simp)
      clear HIO1 HIO2
      go_enter Try.func52, Try.ntmps52
      go_wp2_with (first
        | (go_at_call 50; (with_reducible refine hcA.mono ?_); rintro e w3 ⟨Aa, ca, Ba, da, Sa, rfl, hLa, hSa, hb3⟩; have hbx3 : Below w3.heap.size w3 (w3.alloc (.cells #[.int .i64 y1, .slice Aa C1.length ca, .slice Ba M1.length da] 29)) := (Below.refl _ _).alloc (Nat.le_refl _) _; have h03 := hb3.trans (hbx3.mono hb3.size); have hbz4 := HB0.out.trans (h03.mono HB0.out.size); have K4 := (h03.block _ (OrbK.box_lt HK0.out)).trans HK0.out; have J4 := (h03.block _ (OrbK.box_lt HK1.out)).trans HK1.out; clear b0 b1 b2 n0 n1 n2; obtain ⟨n0, n1, n2⟩ := OrbK.row3 J4; have hcB := hCR2 _ hbz4)
        | (go_at_call 50; (with_reducible refine hcB.mono ?_); rintro e w5 ⟨Ab, cb, Bb, db, Sb, rfl, hLb, hSb, hb5⟩; have hbx5 : Below w5.heap.size w5 (w5.alloc (.cells #[.int .i64 y2, .slice Ab C2.length cb, .slice Bb M2.length db] 29)) := (Below.refl _ _).alloc (Nat.le_refl _) _; have h45 := hb5.trans (hbx5.mono hb5.size); have hbz6 := hbz4.trans (h45.mono hbz4.size); have K6 := (h45.block _ (OrbK.box_lt K4)).trans K4; have J6 := (h45.block _ (OrbK.box_lt J4)).trans J4; have G6 := (h45.block w3.heap.size (by simp)).trans (heap_alloc_new w3 (.cells #[.int .i64 y1, .slice Aa C1.length ca, .slice Ba M1.length da] 29)); have H6 := heap_alloc_new w5 (.cells #[.int .i64 y2, .slice Ab C2.length cb, .slice Bb M2.length db] 29); have hpa := orb_parts hLa; have hpb := orb_parts hLb; clear n0 n1 n2; obtain ⟨b0, b1, b2⟩ := OrbK.row3 K6; obtain ⟨n0, n1, n2⟩ := OrbK.row3 J6; obtain ⟨p0, p1, p2⟩ := OrbK.row3 G6; obtain ⟨q0, q1, q2⟩ := OrbK.row3 H6; have hsm := hSM Aa Ab ca cb (w5.alloc (.cells #[.int .i64 y2, .slice Ab C2.length cb, .slice Bb M2.length db] 29)) ((hpa.1.1.below hbx3).below h45) (hpb.1.1.below hbx5))
        | (go_at_call 105; (with_reducible refine hsm.mono ?_); rintro e w7 ⟨rfl, hb7⟩; have hbz7 := hbz6.trans (hb7.mono hbz6.size); have G8 := (hb7.block _ (OrbK.box_lt G6)).trans G6; have H8 := (hb7.block _ (OrbK.box_lt H6)).trans H6; clear p0 p1 p2 q0 q1 q2; obtain ⟨p0, p1, p2⟩ := OrbK.row3 G8; obtain ⟨q0, q1, q2⟩ := OrbK.row3 H8))
      have hbW := hbz7
      clear hcA hCR2 hcB hLa hSa hb3 hbx3 h03 hbz4 K4 J4 hLb hSb hb5 hbx5 h45 hpa hpb b0 b1 b2 n0 n1 n2 p0 p1 p2 q0 q1 q2 HB0 HK0 HK1 hsm hSM hbz6 hb7 hbz7 G8 H8 K6 J6 G6 H6
      go_loopw [7, 8] (fun sv iv wr => sv = .bool false ∧ iv = .int .i64 0 ∧ Below w.heap.size w wr) (fun _ _ _ => 0)
      case atStart => exact ⟨rfl, rfl, hbW⟩
      case round =>
        obtain ⟨rfl, rfl, hbi⟩ := hrel
        clear hbW
        go_wp2
        go_ret
        exact ⟨bool_end hn.out.symm, hbi⟩
  · have hzb : (z1 == z2) = false := by simpa using hz
    have hzi := hz
    have hSM := fun (Aa Ab : Option Addr) (ca cb : Nat) (W : World) (h1 : IntsAt W Aa C1) (h2 : IntsAt W Ab C2) => l1Same_any Aa Ab ca cb C1 C2 W h1 h2 (by omega) (by omega)
    have hn : Hid ((orbB z1 l1 m1 && (orbB z2 l2 m2 && ((decide (z1 = z2) && decide (C1 = C2)) && decide (M1 = M2)))) = false) := Lib.hid (by rw [decide_eq_false hz]; simp)
    clear HIO1 HIO2
    go_enter Try.func52, Try.ntmps52
    go_wp2_with (first
      | (go_at_call 50; (with_reducible refine hcA.mono ?_); rintro e w3 ⟨Aa, ca, Ba, da, Sa, rfl, hLa, hSa, hb3⟩; have hbx3 : Below w3.heap.size w3 (w3.alloc (.cells #[.int .i64 y1, .slice Aa C1.length ca, .slice Ba M1.length da] 29)) := (Below.refl _ _).alloc (Nat.le_refl _) _; have h03 := hb3.trans (hbx3.mono hb3.size); have hbz4 := HB0.out.trans (h03.mono HB0.out.size); have K4 := (h03.block _ (OrbK.box_lt HK0.out)).trans HK0.out; have J4 := (h03.block _ (OrbK.box_lt HK1.out)).trans HK1.out; clear b0 b1 b2 n0 n1 n2; obtain ⟨n0, n1, n2⟩ := OrbK.row3 J4; have hcB := hCR2 _ hbz4)
      | (go_at_call 50; (with_reducible refine hcB.mono ?_); rintro e w5 ⟨Ab, cb, Bb, db, Sb, rfl, hLb, hSb, hb5⟩; have hbx5 : Below w5.heap.size w5 (w5.alloc (.cells #[.int .i64 y2, .slice Ab C2.length cb, .slice Bb M2.length db] 29)) := (Below.refl _ _).alloc (Nat.le_refl _) _; have h45 := hb5.trans (hbx5.mono hb5.size); have hbz6 := hbz4.trans (h45.mono hbz4.size); have K6 := (h45.block _ (OrbK.box_lt K4)).trans K4; have J6 := (h45.block _ (OrbK.box_lt J4)).trans J4; have G6 := (h45.block w3.heap.size (by simp)).trans (heap_alloc_new w3 (.cells #[.int .i64 y1, .slice Aa C1.length ca, .slice Ba M1.length da] 29)); have H6 := heap_alloc_new w5 (.cells #[.int .i64 y2, .slice Ab C2.length cb, .slice Bb M2.length db] 29); have hpa := orb_parts hLa; have hpb := orb_parts hLb; clear n0 n1 n2; obtain ⟨b0, b1, b2⟩ := OrbK.row3 K6; obtain ⟨n0, n1, n2⟩ := OrbK.row3 J6; obtain ⟨p0, p1, p2⟩ := OrbK.row3 G6; obtain ⟨q0, q1, q2⟩ := OrbK.row3 H6; have hsm := hSM Aa Ab ca cb (w5.alloc (.cells #[.int .i64 y2, .slice Ab C2.length cb, .slice Bb M2.length db] 29)) ((hpa.1.1.below hbx3).below h45) (hpb.1.1.below hbx5)))
    have hbW := hbz6
    clear hcA hCR2 hcB hLa hSa hb3 hbx3 h03 hbz4 K4 J4 hLb hSb hb5 hbx5 h45 hpa hpb b0 b1 b2 n0 n1 n2 p0 p1 p2 q0 q1 q2 HB0 HK0 HK1 hsm hSM hbz6 K6 J6 G6 H6
    go_loopw [7, 8] (fun sv iv wr => sv = .bool false ∧ iv = .int .i64 0 ∧ Below w.heap.size w wr) (fun _ _ _ => 0)
    case atStart => exact ⟨rfl, rfl, hbW⟩
    case round =>
      obtain ⟨rfl, rfl, hbi⟩ := hrel
      clear hbW
      go_wp2
      go_ret
      exact ⟨bool_end hn.out.symm, hbi⟩
end Go.Proofs.Ytdbogjhkcnajkaa
end

