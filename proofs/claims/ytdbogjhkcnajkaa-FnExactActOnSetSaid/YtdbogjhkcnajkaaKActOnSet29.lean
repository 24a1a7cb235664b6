/-
  ActOnSet of the model, as a contract.
-/
import Derived.Test.YtdbogjhkcnajkaaKActOnSet25
import Derived.Test.YtdbogjhkcnajkaaKActOnSet3
import Derived.Test.YtdbogjhkcnajkaaKActOnSet28
import Derived.Test.YtdbogjhkcnajkaaKActOnSet16
import Derived.Test.YtdbogjhkcnajkaaKActOnSet17
import Derived.Deep.RegionHeld3
namespace Go.Proofs.Ytdbogjhkcnajkaa
open Go.RowKit Go.Sort
set_option linter.unusedVariables false

set_option maxRecDepth 100000 in
set_option maxHeartbeats 8000000 in
theorem actOnSet_spec (p : List (Int × Int)) (hpl : p.length ≤ 1048576) (z : Int) (l : List Int) (m : List (List Int)) (hf : FitO l m) (x : Value) (C : Option Addr) (e0 : Nat) (w : World) (hC : PairsAt w C p) (hx : OrbIx w x z l m) :
    Calls Try.prog 45 #[.slice C p.length e0, x] w (OrbBOut (ozR (acOk p z l m) z) (olR (acOk p z l m) (acC p l)) (omR (acOk p z l m) (acR p z l m)) (acOk p z l m) w) := by
  obtain ⟨i0, hi0, hz0, hz1, hz2⟩ := info_parts int_infoM
  have HSZ := Lib.hid hz2
  clear hz2
  have hX := hx
  obtain ⟨A, c, B, d, rfl, hl, hmr, hm⟩ := hx
  have hb0 : Below w.heap.size w ((w.alloc (.cells #[.int .i64 z, .slice A l.length c, .slice B m.length d] 29)).alloc (.cells #[.int .i64 0, .slice none 0 0, .slice none 0 0] 29)) := ((Below.refl _ _).alloc (Nat.le_refl _) _).alloc (by simp) _
  have k0 : ((w.alloc (.cells #[.int .i64 z, .slice A l.length c, .slice B m.length d] 29)).alloc (.cells #[.int .i64 0, .slice none 0 0, .slice none 0 0] 29)).heap[w.heap.size]? = some (.cells #[.int .i64 z, .slice A l.length c, .slice B m.length d] 29 (0, 0)) := (Below.heap_alloc _ _ _ (by simp)).trans (heap_alloc_new w _)
  have k1 : ((w.alloc (.cells #[.int .i64 z, .slice A l.length c, .slice B m.length d] 29)).alloc (.cells #[.int .i64 0, .slice none 0 0, .slice none 0 0] 29)).heap[w.heap.size + 1]? = some (.cells #[.int .i64 0, .slice none 0 0, .slice none 0 0] 29 (0, 0)) := by
    have h := heap_alloc_new (w.alloc (.cells #[.int .i64 z, .slice A l.length c, .slice B m.length d] 29)) (.cells #[.int .i64 0, .slice none 0 0, .slice none 0 0] 29)
    rw [World.size_alloc] at h
    exact h
  obtain ⟨b0, b1, b2⟩ := OrbK.row3 k0
  have hpm := isPerm_spec C e0 p _ (hC.below hb0) (by omega)
  rw [perm_same] at hpm
  have hio := fun (W : World) (h : Below w.heap.size w W) => isOrbitSet_spec z l m hf _ W (hX.below h)
  have HB0 := Lib.hid hb0
  have HK0 := Lib.hid k0
  have HK1 := Lib.hid k1
  have HC := Lib.hid hC
  have HL := Lib.hid hl
  have HM := Lib.hid hmr
  clear hl hmr hm k0 k1 hX hb0 hC
  cases hpb : permB p with
  | false =>
    rw [hpb] at hpm
    have hkk : acOk p z l m = false := by simp [acOk, hpb]
    clear hpb
    go_enter Try.func45, Try.ntmps45
    go_wp2_with (first
      | (go_at_call 95; (with_reducible refine hpm.mono ?_); rintro e w1 ⟨rfl, hb1⟩; have hbz1 := HB0.out.trans (hb1.mono HB0.out.size); have k1 := (hb1.block _ (OrbK.box_lt HK0.out)).trans HK0.out; clear b0 b1 b2; obtain ⟨b0, b1, b2⟩ := OrbK.row3 k1; have hr2 := (hb1.block _ (OrbK.box_lt HK1.out)).trans HK1.out; obtain ⟨x0, x1, x2⟩ := OrbK.row3 hr2; obtain ⟨y0, y1, y2⟩ := z3At hr2))
    have hbz := hbz1
    clear hpm hio hb1 b0 b1 b2 k1 hr2 HB0 HK0 HK1
    have hpost := orbB_zero (((hbz.setCell (p := ⟨w.heap.size + 1, 0, none⟩) (Nat.le_succ _) (.int .i64 0)).setCell (p := ⟨w.heap.size + 1, 1, none⟩) (Nat.le_succ _) (.slice none 0 0)).setCell (p := ⟨w.heap.size + 1, 2, none⟩) (Nat.le_succ _) (.slice none 0 0))
    go_wp2
    exact bodyPost_ret (v := .tuple #[.agg #[.int .i64 0, .slice none 0 0, .slice none 0 0], .bool false]) (by simp [results, Try.results45, go_sem, x0, x1, x2]) rfl (by rw [hkk]; exact hpost)
  | true =>
    rw [hpb] at hpm
    cases ho : orbB z l m with
    | false =>
      simp only [ho] at hio
      have hkk : acOk p z l m = false := by simp [acOk, ho]
      clear ho
      go_enter Try.func45, Try.ntmps45
      go_wp2_with (first
        | (go_at_call 95; (with_reducible refine hpm.mono ?_); rintro e w1 ⟨rfl, hb1⟩; have hbz1 := HB0.out.trans (hb1.mono HB0.out.size); have k1 := (hb1.block _ (OrbK.box_lt HK0.out)).trans HK0.out; clear b0 b1 b2; obtain ⟨b0, b1, b2⟩ := OrbK.row3 k1; have hioq := hio w1 hbz1)
        | (go_at_call 74; (with_reducible refine hioq.mono ?_); rintro e w2 ⟨rfl, hb2⟩; have hb12 := hb1.trans (hb2.mono hb1.size); have hbz2 := HB0.out.trans (hb12.mono HB0.out.size); have k2 := (hb12.block _ (OrbK.box_lt HK0.out)).trans HK0.out; clear b0 b1 b2; have hr2 := (hb12.block _ (OrbK.box_lt HK1.out)).trans HK1.out; obtain ⟨x0, x1, x2⟩ := OrbK.row3 hr2; obtain ⟨y0, y1, y2⟩ := z3At hr2))
      have hbz := hbz2
      clear hpm hio hioq hb1 hb2 hb12 k1 k2 hr2 HB0 HK0 HK1
      have hpost := orbB_zero (((hbz.setCell (p := ⟨w.heap.size + 1, 0, none⟩) (Nat.le_succ _) (.int .i64 0)).setCell (p := ⟨w.heap.size + 1, 1, none⟩) (Nat.le_succ _) (.slice none 0 0)).setCell (p := ⟨w.heap.size + 1, 2, none⟩) (Nat.le_succ _) (.slice none 0 0))
      go_wp2
      exact bodyPost_ret (v := .tuple #[.agg #[.int .i64 0, .slice none 0 0, .slice none 0 0], .bool false]) (by simp [results, Try.results45, go_sem, x0, x1, x2]) rfl (by rw [hkk]; exact hpost)
    | true =>
      simp only [ho] at hio
      have hkk : acOk p z l m = true := by simp [acOk, hpb, ho]
      have hip := isP_of hpb
      obtain ⟨hwz, hro⟩ := orb_rows ho
      have hz4 := widB_iff.1 hwz
      have hk3 := const_len (orb_const ho)
      obtain ⟨n, rfl⟩ : ∃ n : Nat, z = n := ⟨z.toNat, by omega⟩
      have hn4 : n ≤ 4 := by omega
      have hck := const_len (acC_const hip (orb_const ho))
      have hfm := hf.2
      have HND := Lib.hid (const_nodup (orb_const ho))
      have HEM : Hid (acR p n l m = (allP n (acC p l).length).filter (acG p l m)) := Lib.hid (by unfold acR; rw [show ((n : Int).toNat) = n by omega]; exact acM_eq hn4 hip (orb_const ho) (orb_mem ho))
      have HGG : Hid (∀ q, acG p l m q = thereB m (patL l (bksL p (exL (numL (acC p l) 4) q)))) := Lib.hid (fun _ => rfl)
      have HCN : Hid (∀ k, k < l.length → insAll [] (imsL p (l.take (k + 1))) = insL (insAll [] (imsL p (l.take k))) (imgL p (itAt l k))) := Lib.hid (fun k hk => by rw [imsL_next hk, insAll_all]; rfl)
      have HCA : Hid (∀ k, AscP (insAll [] (imsL p (l.take k)))) := Lib.hid (fun k => asc_insAll [] _ List.Pairwise.nil)
      have HCL3 : Hid (∀ k, (insAll [] (imsL p (l.take k))).length ≤ 3) := Lib.hid (fun k => by
        have h1 := length_insAll [] (imsL p (l.take k))
        rw [imsL_len, List.length_take] at h1
        simp at h1
        omega)
      have HCE : Hid (insAll [] (imsL p (l.take l.length)) = acC p l) := Lib.hid (by rw [List.take_length]; rfl)
      have HPL := Lib.hid (allP_pos (k := ((acC p l).length : Int)) (by omega) n)
      have HPM := Lib.hid (allP_4096 (k := ((acC p l).length : Int)) (by omega) (by omega) hn4)
      have HRW := Lib.hid (fun i (hi : i < (allP n (acC p l).length).length) => (allP_row (k := ((acC p l).length : Int)) (by omega) hi))
      have HTH := Lib.hid (thoseL_filter n (acC p l).length (acG p l m))
      have HFF := Lib.hid (filter_fitR (k := ((acC p l).length : Int)) (by omega) (by omega) hn4 (acG p l m))
      have hal := fun W => l6All_any (acC p l).length hck n hn4 n rfl W
      have hthose := fun (W : World) (L : List (List Int)) (h : FitR L) A' c' (hA : ConstAt W A' c' (acC p l)) (B9 : Option Addr) (d9 : Nat) (hB : RowsIn W (.slice B9 L.length d9) L) => l6Those_any n hn4 (acC p l) hck L h A' B9 c' d9 W hA hB
      have HKK := Lib.hid hkk
      clear ho hpb hwz hro hz4 hkk hip
      generalize thoseL n (acC p l).length = TH at hthose HTH
      generalize allP n (acC p l).length = P at *
      go_enter Try.func45, Try.ntmps45
      go_wp2_with (first
        | (go_at_call 95; (with_reducible refine hpm.mono ?_); rintro e w1 ⟨rfl, hb1⟩; have hbz1 := HB0.out.trans (hb1.mono HB0.out.size); have k1 := (hb1.block _ (OrbK.box_lt HK0.out)).trans HK0.out; clear b0 b1 b2; obtain ⟨b0, b1, b2⟩ := OrbK.row3 k1; have hioq := hio w1 hbz1)
        | (go_at_call 74; (with_reducible refine hioq.mono ?_); rintro e w2 ⟨rfl, hb2⟩; have hb12 := hb1.trans (hb2.mono hb1.size); have hbz2 := HB0.out.trans (hb12.mono HB0.out.size); have k2 := (hb12.block _ (OrbK.box_lt HK0.out)).trans HK0.out; clear b0 b1 b2; have k3 := (Below.heap_alloc w2 (.cells #[] 3) _ (OrbK.box_lt k2)).trans k2; obtain ⟨b0, b1, b2⟩ := OrbK.row3 k3))
      clear b0 b1 b2 k3 hio hioq hpm
      have KA0 := Lib.hid k2
      have KR0 := Lib.hid ((hb12.block _ (OrbK.box_lt HK1.out)).trans HK1.out)
      have HBW := Lib.hid hbz2
      have oC := World.ownsRow_lit (e := 3) (size := 1) w2 #[] 0 (Nat.le_refl _) (by decide) rfl
      have hbL : Below w2.heap.size w2 (w2.alloc (.cells #[] 3)) := (Below.refl _ _).alloc (Nat.le_refl _) _
      have HLx := Lib.hid (HL.out.1.below hbz2)
      clear hb1 hb2 hb12 k1 k2 hbz1 hbz2 HB0 HK0 HK1
      go_wp2
      go_loopw [6, 8, 28] (fun v6 _ i wr => ∃ (k g cap : Nat), k ≤ l.length ∧ i = .int .i64 k ∧ v6 = .slice (some ⟨g, 0, none⟩) (insAll [] (imsL p (l.take k))).length cap ∧ wr.ownsRow w2.heap.size 3 1 v6 (insAll [] (imsL p (l.take k))).length (icells (insAll [] (imsL p (l.take k)))) ∧ Below w2.heap.size w2 wr) (fun _ _ i _ => l.length - (intOf i).toNat)
      case atStart => exact ⟨0, w2.heap.size, 0, Nat.zero_le _, rfl, rfl, oC, hbL⟩
      case round =>
        clear oC hbL
        obtain ⟨k, g, cap, hk, rfl, rfl, ho, hb⟩ := hrel
        by_cases hlt : k < l.length
        · obtain ⟨b1, o1, rfl, hb1, hc1⟩ := (HLx.out.below hb) (by omega)
          have c1 := hc1 k hlt
          have him := l1Image_any C e0 p (itAt l k) wr (HC.out.below (HBW.out.trans (hb.mono HBW.out.size))) (by omega)
          have h3 := HCL3.out k
          have hins := l1Insert_any w2.heap.size g cap (insAll [] (imsL p (l.take k))) (imgL p (itAt l k)) wr ho (insCap ho) (by omega) (HCA.out k)
          have hnx := Lib.hid (HCN.out k hlt)
          rw [← hnx.out] at hins
          clear hnx
          generalize hL2 : insAll [] (imsL p (l.take (k + 1))) = L2 at hins
          have HL2 := Lib.hid hL2
          clear hL2
          generalize insAll [] (imsL p (l.take k)) = L1 at *
          generalize imgL p (itAt l k) = y at him hins
          generalize itAt l k = x at c1 him
          have hs0 := hb.size
          clear hc1
          go_wp2_with (first
            | (go_at_call 97; (with_reducible refine him.mono ?_); rintro e w4 ⟨rfl, rfl⟩)
            | (go_at_call 96; (with_reducible refine hins.mono ?_); rintro e w5 ⟨g2, cap2, rfl, ho2, hb2⟩))
          have hb3 := hb.trans (hb2.mono hb.size)
          clear hins him ho hb hb2 c1
          refine ⟨⟨k + 1, g2, cap2, by omega, by go_num, by rw [HL2.out], by rw [HL2.out]; exact ho2, hb3⟩, ?_⟩
          simp only [intOf]
          omega
        · have e : k = l.length := by omega
          subst e
          rw [HCE.out] at ho
          rw [HCE.out]
          obtain ⟨w3, rfl⟩ : ∃ x : World, x = wr := ⟨_, rfl⟩
          have HC3 := Lib.hid (ints_own ho)
          have KA := Lib.hid ((hb.block _ (OrbK.box_lt KA0.out)).trans KA0.out)
          have KR := Lib.hid ((hb.block _ (OrbK.box_lt KR0.out)).trans KR0.out)
          have HBW3 := Lib.hid (HBW.out.trans (hb.mono HBW.out.size))
          clear ho hb KA0 KR0 HCE HCN HCA HCL3 HLx
          obtain ⟨gC, rfl⟩ : ∃ x : Nat, x = g := ⟨_, rfl⟩
          obtain ⟨capC, rfl⟩ : ∃ x : Nat, x = cap := ⟨_, rfl⟩
          generalize acC p l = C' at *
          have hbL : Below w3.heap.size w3 (w3.alloc (.cells #[] 27)) := (Below.refl _ _).alloc (Nat.le_refl _) _
          have k3 := (hbL.block _ (OrbK.box_lt KA.out)).trans KA.out
          obtain ⟨b0, b1, b2⟩ := OrbK.row3 k3
          go_wp2_with fail
          (with_reducible refine (hal _).mono ?_)
          rintro e w8 ⟨v8, S8, rfl, hS8, hS8b, hb8⟩
          obtain ⟨g, off, cg, u, T, rfl, hleft, hTS, hgS⟩ := left_of hS8 HPL.out
          have hsL : (w3.alloc (.cells #[] 27)).heap.size = w3.heap.size + 1 := by simp
          rw [hsL] at hS8b
          have hg0 := hS8b g hgS
          have O8 := Lib.hid ((own_lit0 w3).keep hb8)
          have HB8 := Lib.hid (hbL.trans (hb8.mono hbL.size))
          have HTB : Hid (∀ j, ∀ b ∈ T j, w3.heap.size + 1 ≤ b ∧ b < w8.heap.size) := Lib.hid (fun j b hb => ⟨hS8b b (hTS j b hb), hS8.lt b (hTS j b hb)⟩)
          have HLT := Lib.hid hleft
          have HS8 : Hid (w3.heap.size ≤ w8.heap.size) := Lib.hid (by have := hb8.size; omega)
          clear hS8 hS8b hTS hgS hleft hbL hsL hb8 b0 b1 b2 k3 hal
          go_wp2
          go_loopw [9, 11, 12, 14, 45] (fun v9 _ _ _ i wr => ∃ (j : Nat) (U2 : List Nat), j ≤ P.length ∧ i = .int .i64 j ∧ Hid (Own wr U2 v9 (rowsMem ((P.take j).filter (acG p l m)))) ∧ Hid (Left wr P g off u T j) ∧ Hid (∀ b ∈ U2, w3.heap.size ≤ b ∧ b ≠ g ∧ ∀ q, j ≤ q → b ∉ T q) ∧ Below w3.heap.size w3 wr ∧ w8.heap.size ≤ wr.heap.size) (fun _ _ _ _ i _ => P.length - (intOf i).toNat)
          case atStart => exact ⟨0, _, Nat.zero_le _, rfl, O8, HLT, Lib.hid (fun b hb => by
            have e : b = w3.heap.size := by simpa using hb
            subst e
            exact ⟨Nat.le_refl _, by omega, fun q _ hq => by have := (HTB.out q _ hq).1; omega⟩), HB8.out, Nat.le_refl _⟩
          case round =>
            clear O8 HLT HB8
            obtain ⟨j, U2, hj, rfl, hU, hLf, hUb, hb, hsw⟩ := hrel
            have hPb : P.length ≤ 4096 := HPM.out
            by_cases hlt : j < P.length
            · obtain ⟨wo, rfl⟩ : ∃ x : World, x = wr := ⟨_, rfl⟩
              obtain ⟨A1, c1, hu1, hA1, hc1, hO1⟩ := hLf.out.row hlt
              obtain ⟨hql, hqp⟩ := HRW.out j hlt
              have hq4 : (rwAt P j).length ≤ 4 := by omega
              have hLI : Below wo.heap.size wo (wo.alloc (.cells #[] 3)) := (Below.refl _ _).alloc (Nat.le_refl _) _
              have hC0 := HC3.out.below (hb.trans (hLI.mono hb.size))
              have hex := l6Example_any (some ⟨gC, 0, none⟩) A1 capC c1 C' (rwAt P j) (wo.alloc (.cells #[] 3)) hC0 (fun h => by cases h) (hA1.1.below hLI) (by omega) (by omega) (fun i hi => by
                have h1 := pat_places (k := C'.length) hqp (V := numL C' (rwAt P j).length) (by rw [numL_len]; omega) i hi
                rw [numL_len] at h1
                exact h1)
              rw [exL_same hqp (by omega)] at hex
              have hfy := Lib.hid (fun h => filter_yes (f := acG p l m) hlt h)
              have hfn := Lib.hid (fun h => filter_no (f := acG p l m) hlt h)
              have hfl := filter_take_le P (acG p l m) j
              have HG : Hid (acG p l m (rwAt P j) = thereB m (patL l (bksL p (exL (numL C' 4) (rwAt P j))))) := Lib.hid (HGG.out _)
              have HO3 := Lib.hid hO1
              have HDT := Lib.hid (fun b (h1 : b ∈ U2) => (hUb.out b h1).2.2 j (Nat.le_refl _))
              have HDJ := Lib.hid (fun q (h : j + 1 ≤ q) b (h1 : b ∈ T j) => hLf.out.dis j q (by omega) b h1)
              have HGJ := Lib.hid (hLf.out.hd j)
              have HTJ := Lib.hid (HTB.out j)
              have hgl := hLf.out.lt
              have hXl : (exL (numL C' 4) (rwAt P j)).length ≤ 4 := by rw [exL_len]; omega
              clear hA1 hu1 hO1 hqp hql hC0
              generalize hFF : (P.take j).filter (acG p l m) = FF at hU hfy hfn hfl
              generalize exL (numL C' 4) (rwAt P j) = X at hex HG hXl
              generalize hpp : rwAt P j = q at hq4 hfy hfn hex hc1 HG HO3 ⊢
              clear hFF hpp
              have hsL : (wo.alloc (.cells #[] 3)).heap.size = wo.heap.size + 1 := by simp
              have HSL := Lib.hid hsL
              clear hsL
              go_wp2_with fail
              (with_reducible refine hex.mono ?_)
              rintro e w4 ⟨v4, rfl, ho4, hb4⟩
              obtain ⟨A3, c3, rfl, _⟩ := own_intsAt ho4
              have OT := own_below (World.ownsRow_lit (e := 3) (size := 1) wo #[] 0 (Nat.le_refl _) (by decide) rfl) hb4
              have OX := own_le ho4 (show wo.heap.size ≤ (wo.alloc (.cells #[] 3)).heap.size by rw [HSL.out]; omega)
              have hap0 : Apart (.slice A3 X.length c3) (.slice (some ⟨wo.heap.size, 0, none⟩) 0 0) := fun k h1 h2 => by
                have h3 := (ho4.lt k h1).1
                rw [HSL.out] at h3
                simp [Value.ownBlock] at h2
                omega
              have hbI := hLI.trans (hb4.mono hLI.size)
              clear hex ho4 hb4 hLI hc1
              go_wp2
              go_loopw [12, 14, 54] (fun v _ i wr => ∃ k : Nat, k ≤ X.length ∧ i = .int .i64 k ∧ wr.ownsRow wo.heap.size 3 1 v k (icells (bksL p (X.take k))) ∧ wr.ownsRow wo.heap.size 3 1 (.slice A3 X.length c3) X.length (icells X) ∧ Apart (.slice A3 X.length c3) v ∧ Below wo.heap.size wo wr) (fun _ _ i _ => X.length - (intOf i).toNat)
              case atStart => exact ⟨0, Nat.zero_le _, rfl, OT, OX, hap0, hbI⟩
              case round =>
                clear OT OX hap0 hbI
                obtain ⟨k, hk, rfl, ho, hoX, hap, hbo⟩ := hrel
                by_cases hlk : k < X.length
                · have hIX : IntsAt wr A3 X := by
                    obtain ⟨A', c', e, h⟩ := own_intsAt hoX
                    simp only [Value.slice.injEq] at e
                    rw [e.1]; exact h
                  obtain ⟨b5, o5, rfl, hb5, hc5⟩ := hIX (by omega)
                  have c5 := hc5 k hlk
                  have hnext := Lib.hid (bksL_next (p := p) hlk)
                  have hbk := l1Back_any C e0 p (itAt X k) wr (HC.out.below (HBW3.out.trans ((hb.trans (hbo.mono hb.size)).mono HBW3.out.size))) (by omega)
                  clear hc5 hIX
                  generalize itAt X k = x at c5 hnext hbk
                  generalize backL p x = a at hnext hbk
                  have hbx : Below wr.heap.size wr (wr.alloc (.cells #[.int .i64 a] 3)) := (Below.refl _ _).alloc (Nat.le_refl _) _
                  have ho5b := own_below hoX hbx
                  have ho6b := own_below ho hbx
                  have hb2 := hbo.trans (hbx.mono hbo.size)
                  have hcell : (wr.alloc (.cells #[.int .i64 a] 3)).cell? ⟨wr.heap.size, 0, none⟩ = some (.int .i64 a) := by simp
                  have HCL := Lib.hid (one_cell hcell)
                  have hso : wo.heap.size ≤ wr.heap.size := hbo.size
                  have hsz2 : wo.heap.size ≤ (wr.alloc (.cells #[.int .i64 a] 3)).heap.size := by simp; omega
                  clear hcell ho hoX hbo hbx
                  go_wp2_with fail
                  (with_reducible refine hbk.mono ?_)
                  rintro e w9 ⟨rfl, rfl⟩
                  clear hbk
                  go_wp2_with (at_builtin; refine wpList_append_lies _ rfl (.tmp 58) (.tmp 62) 27 rfl wo.heap.size 3 i0 (.int .i64 0) 1 8 Try.underlying27 hi0 hz0 hz1 HSZ.out rfl (by decide) _ k _ rfl ho6b ⟨w9.heap.size, 0, none⟩ 1 1 [.int .i64 a] rfl rfl HCL.out (int_one _) (by decide) ?c3 ?c4 ?c5 _ rfl ?_)
                  case c3 => unfold maxLen; omega
                  case c4 => omega
                  case c5 => first | exact hsz2 | (simp at hsz2 ⊢; omega) | omega
                  intro g5 cap5 w5 ho7 hg7 hcase _
                  have ho8 : w5.ownsRow wo.heap.size 3 1 (.slice (some ⟨g5, 0, none⟩) (k + 1) cap5) (k + 1) (icells (bksL p (X.take (k + 1)))) := by
                    rw [hnext.out, icells_append]
                    exact ho7
                  have ho9 := apart_kept ho5b hg7 hap
                  have hap2 := apart_new (m := k + 1) (cap := cap5) ho5b hap (hcase.imp id fun h => by rw [h, World.size_alloc])
                  have hb7 : Below wo.heap.size wo w5 := below_own hb2 ho6b (Nat.le_refl _) hsz2 hg7
                  clear ho7 hg7 hcase ho5b ho6b hb2 hap HCL hnext c5
                  go_wp2
                  refine ⟨⟨k + 1, by omega, by go_num, ho8, ho9, hap2, hb7⟩, ?_⟩
                  simp only [intOf]
                  omega
                · have e : k = X.length := by omega
                  subst e
                  rw [List.take_length] at ho
                  have hel := bksL_len p X
                  rw [← hel] at ho
                  obtain ⟨A7, c7, rfl, hA7⟩ := own_intsAt ho
                  rw [hel]
                  have hdw : Below wr.heap.size wr wr.drew := ⟨rfl, rfl, rfl, Nat.le_refl _, fun _ _ => rfl⟩
                  have hbA := hb.trans (hbo.mono hb.size)
                  have HBA := Lib.hid (HBW3.out.trans (hbA.mono HBW3.out.size))
                  have HHB := Lib.hid hbA
                  have hpat := l6Pattern_any A A7 c c7 l (bksL p X) wr.drew (HL.out.1.below (HBA.out.trans (hdw.mono HBA.out.size))) HL.out.2 HND.out (hA7.below hdw) (by omega) (by rw [hel]; omega)
                  rw [hel] at hpat
                  have HTQ := Lib.hid (fun (W : World) (h : Below wr.heap.size wr W) (A9 : Option Addr) (c9 : Nat) (hi : IntsAt W A9 (patL l (bksL p X))) => l6There_any B A9 d c9 m (patL l (bksL p X)) W (HM.out.below (HBA.out.trans (h.mono HBA.out.size))) hi hfm (by rw [patL_len, hel]; omega))
                  have ka := (hbA.block _ (OrbK.box_lt KA.out)).trans KA.out
                  have HS : Hid (∀ W : World, Below wr.heap.size wr W → W.cell? ⟨w.heap.size, 1, none⟩ = some (.slice A l.length c) ∧ W.cell? ⟨w.heap.size, 2, none⟩ = some (.slice B m.length d)) :=
                    Lib.hid (fun W h => by
                      obtain ⟨_, q1, q2⟩ := OrbK.row3 ((h.block _ (OrbK.box_lt ka)).trans ka)
                      exact ⟨q1, q2⟩)
                  have hso : wo.heap.size ≤ wr.heap.size := hbo.size
                  clear ho hoX hap hA7 hel hbA ka HBA HHB
                  generalize patL l (bksL p X) = Y at hpat HTQ HG
                  cases hin : acG p l m q with
                  | true =>
                    have hyy : thereB m Y = true := HG.out.symm.trans hin
                    rw [hyy] at HTQ
                    have HNX := Lib.hid (hfy.out hin)
                    clear hfy hfn
                    obtain ⟨f1, f2⟩ := HS.out wr.drew hdw
                    go_wp2
                    go_region_held3 (fun w' => w'.cell? ⟨w.heap.size, 1, none⟩ = some (.slice A l.length c) ∧ w'.cell? ⟨w.heap.size, 2, none⟩ = some (.slice B m.length d))
                      (with_reducible exact ⟨by assumption, by assumption⟩)
                      (first
                      | (go_at_call 69; (with_reducible refine hpat.mono ?_); rintro e w6 ⟨v6, rfl, ho6, hb6⟩; obtain ⟨A6, c6, rfl, hA6⟩ := own_intsAt ho6; have fr6 := hdw.trans (hb6.mono hdw.size); have htq := HTQ.out w6 fr6 A6 c6 hA6; obtain ⟨f3, f4⟩ := HS.out w6 fr6)
                      | (go_at_call 85; (with_reducible refine htq.mono ?_); rintro e w5 ⟨rfl, hbb⟩; have fr5 := fr6.trans (hbb.mono fr6.size); obtain ⟨f5, f6⟩ := HS.out w5 fr5)
                      | fail)
                    have hb5 := hbo.trans (fr5.mono hbo.size)
                    clear f1 f2 f3 f4 f5 f6 hpat htq HTQ hbb hb6 fr5 fr6 HS hdw ho6 hA6 hbo
                    have hbx : Below w5.heap.size w5 (w5.alloc (.cells #[.slice A1 q.length c1] 27)) := (Below.refl _ _).alloc (Nat.le_refl _) _
                    have hb56 := hb5.trans (hbx.mono hb5.size)
                    have hU6 := hU.out.keep hb56
                    have HO6 := Lib.hid (HO3.out.keep hb56)
                    have hcell : (w5.alloc (.cells #[.slice A1 q.length c1] 27)).cell? ⟨w5.heap.size, 0, none⟩ = some (.slice A1 q.length c1) := by simp
                    have HC9 := Lib.hid (one_cell hcell)
                    have HLF := Lib.hid (hLf.out.below hb56)
                    have HB6 := Lib.hid (hb.trans (hb56.mono hb.size))
                    have hs5 := hb5.size
                    have hdl : FF.length + 1 ≤ 16777216 := by omega
                    clear hcell hbx hb56 hb5 hU hLf HO3 hb
                    go_wp2_with (at_builtin; refine wpList_append_rows rfl (.tmp 72) (.tmp 74) rfl _ U2 FF rfl hU6 ⟨w5.heap.size, 0, none⟩ _ q (T j) rfl HC9.out HO6.out HDT.out hdl ?_)
                    intro g2 cap2 U3 w7 hU7 hU3 hon
                    have hs7 : w5.heap.size + 1 ≤ w7.heap.size := by have := hon.size; rw [World.size_alloc] at this; exact this
                    have L7 := Lib.hid (HLF.out.next.only hon (fun h => (hUb.out _ h).2.1 rfl) (fun q hq _ b h1 h2 => (hUb.out b h2).2.2 q (by omega) h1))
                    have hb7 := Only.below HB6.out hon HB6.out.size (fun b h => by have := (hUb.out _ h).1; omega)
                    have B7 : Hid (∀ b ∈ U3, w3.heap.size ≤ b ∧ b ≠ g ∧ ∀ q, j + 1 ≤ q → b ∉ T q) := Lib.hid (fun b h => by
                      rcases hU3 b h with h1 | h1 | h1
                      · exact ⟨(hUb.out b h1).1, (hUb.out b h1).2.1, fun q hq => (hUb.out b h1).2.2 q (by omega)⟩
                      · exact ⟨by have := (HTJ.out b h1).1; omega, fun e => HGJ.out (e ▸ h1), fun q hq => HDJ.out q hq b h1⟩
                      · (try rw [World.size_alloc] at h1)
                        have h8 := HS8.out
                        exact ⟨by omega, by omega, fun q _ hq => by have := (HTB.out q b hq).2; omega⟩)
                    rw [← HNX.out] at hU7
                    have U7 := Lib.hid hU7
                    clear hU7 hU3 hon HB6 HLF HO6 HC9 hUb HNX hU6
                    go_wp2
                    refine ⟨⟨j + 1, U3, by omega, by go_num, U7, L7, B7, hb7, by omega⟩, ?_⟩
                    simp only [intOf]
                    omega
                  | false =>
                    have hyy : thereB m Y = false := HG.out.symm.trans hin
                    rw [hyy] at HTQ
                    have HNX := Lib.hid (hfn.out hin)
                    clear hfy hfn
                    obtain ⟨f1, f2⟩ := HS.out wr.drew hdw
                    go_wp2
                    go_region_held3 (fun w' => w'.cell? ⟨w.heap.size, 1, none⟩ = some (.slice A l.length c) ∧ w'.cell? ⟨w.heap.size, 2, none⟩ = some (.slice B m.length d))
                      (with_reducible exact ⟨by assumption, by assumption⟩)
                      (first
                      | (go_at_call 69; (with_reducible refine hpat.mono ?_); rintro e w6 ⟨v6, rfl, ho6, hb6⟩; obtain ⟨A6, c6, rfl, hA6⟩ := own_intsAt ho6; have fr6 := hdw.trans (hb6.mono hdw.size); have htq := HTQ.out w6 fr6 A6 c6 hA6; obtain ⟨f3, f4⟩ := HS.out w6 fr6)
                      | (go_at_call 85; (with_reducible refine htq.mono ?_); rintro e w5 ⟨rfl, hbb⟩; have fr5 := fr6.trans (hbb.mono fr6.size); obtain ⟨f5, f6⟩ := HS.out w5 fr5)
                      | fail)
                    have hb5 := hbo.trans (fr5.mono hbo.size)
                    clear f1 f2 f3 f4 f5 f6 hpat htq HTQ hbb hb6 fr5 fr6 HS hdw ho6 hA6 hbo
                    have U5 := hU.out.keep hb5
                    rw [← HNX.out] at U5
                    have U6 := Lib.hid U5
                    have L5 := Lib.hid ((hLf.out.below hb5).next)
                    have B5' : Hid (∀ b ∈ U2, w3.heap.size ≤ b ∧ b ≠ g ∧ ∀ q, j + 1 ≤ q → b ∉ T q) := Lib.hid (fun b h1 => ⟨(hUb.out b h1).1, (hUb.out b h1).2.1, fun q hq => (hUb.out b h1).2.2 q (by omega)⟩)
                    have hb7 := hb.trans (hb5.mono hb.size)
                    have hs7 : w8.heap.size ≤ w5.heap.size := Nat.le_trans hsw hb5.size
                    clear hb5 hU hLf hUb HNX HO3 hb hsw U5
                    go_wp2
                    refine ⟨⟨j + 1, U2, by omega, by go_num, U6, L5, B5', hb7, hs7⟩, ?_⟩
                    simp only [intOf]
                    omega
            · have e : j = P.length := by omega
              subst e
              rw [List.take_length] at hU
              have hth := HTH.out
              have hff := HFF.out
              rw [← HEM.out] at hU hth hff
              generalize acR p n l m = R at *
              have hU' := hU.out.at_
              obtain ⟨B9, d9, hB9⟩ := RowsIn.form (ls := R) hU'
              subst hB9
              have hso := hthose wr R hff _ capC ⟨HC3.out.below hb, fun h => by cases h⟩ B9 d9 hU'
              rw [hth] at hso
              have hr := (hb.block _ (OrbK.box_lt KA.out)).trans KA.out
              have hq := (hb.block _ (OrbK.box_lt KR.out)).trans KR.out
              obtain ⟨b0, b1, b2⟩ := OrbK.row3 hr
              clear hU hU' hff hth HTH HFF hthose HPL HPM HRW HTB hUb hLf
              go_wp2_with (go_at_call 70; (with_reducible refine hso.mono ?_); rintro e w9 ⟨A4, c4, A7, c7, S9, rfl, hL9, hS9, hb9⟩; have hr9 := (hb9.block _ (OrbK.box_lt hq)).trans hq; obtain ⟨x0, x1, x2⟩ := OrbK.row3 hr9; obtain ⟨y0, y1, y2⟩ := z3At hr9)
              have hbF := HBW3.out.trans ((hb.trans (hb9.mono hb.size)).mono HBW3.out.size)
              have hpost := orbB_of true (orb_pass (r := w.heap.size + 1) hL9 hbF (Nat.le_succ _) (fun b h => by have h1 := hS9 b h; have h2 := OrbK.box_lt hq; omega))
              clear hso hL9 hS9 hb9 hr9 hb hr hq b0 b1 b2
              go_wp2
              exact bodyPost_ret (v := .tuple #[.agg #[.int .i64 (n : Int), .slice A4 C'.length c4, .slice A7 R.length c7], .bool true]) (by simp [results, Try.results45, go_sem, x0, x1, x2]) rfl (by rw [HKK.out]; exact hpost)
end Go.Proofs.Ytdbogjhkcnajkaa
