/-
  A letter read by a machine, in the model, as a contract. RunMachine and AcceptsWord in the model, as contracts.
-/
import Derived.Test.YtkhjdidcpoefdaaKAcceptsWord14
import Derived.Test.YtkhjdidcpoefdaaKAcceptsWord15
import Derived.Deep.DeepCutAuto
import Derived.Deep.RegionHeld3
import Derived.Test.YtkhjdidcpoefdaaKAcceptsWord8
import Derived.Test.YtkhjdidcpoefdaaKAcceptsWord12
section
namespace Go.Proofs.Ytkhjdidcpoefdaa
open Go.RowKit Go.Sort
set_option linter.unusedVariables false

set_option maxRecDepth 100000 in
set_option maxHeartbeats 8000000 in
theorem l7Step_any (t : Mach) (g : Good t) (x : Value) (q a : Int) (rs : List Int) (V : Option Addr) (cv : Nat) (w : World) (hx : MachIx w x t) (hq0 : 0 ≤ q) (hq1 : q < t.st) (hl : rs.length = t.rg.toNat)
    (hV : IntsAt w V rs) (hz : V = none → cv = 0) :
    Calls Try.prog 61 #[x, .int .i64 q, .slice V rs.length cv, .int .i64 a] w (NumRow (mvOf t q rs a).1 (stored rs (mvOf t q rs a).2 a) w) := by
  obtain ⟨A, c, B, d, rfl, hA, hB, _⟩ := hx
  obtain ⟨hix, hs0, hs1, hs2⟩ := g.ix (a := a) hq0 hq1 hl
  have hmo := g.move (a := a) hq0 hq1 hl
  have hmp : 0 < t.mv.length := by omega
  obtain ⟨b1, o1, rfl, hb1, hc1⟩ := hB hmp
  obtain ⟨e0, e1⟩ := hc1 _ hix
  have hr3 := g.r3
  have hr0 := g.r0
  have hs9 := g.s9
  have hmle : t.mv.length ≤ 100 := by have := g.ml; rcases casZ_of g.r0 g.r3 with ⟨_, h⟩ | ⟨_, h⟩ | ⟨_, h⟩ | ⟨_, h⟩ <;> rw [h] at this <;> omega
  have hl3 : rs.length ≤ 3 := by omega
  obtain ⟨W, hW⟩ : ∃ W, W = w.alloc (.cells #[.int .i64 t.st, .int .i64 t.rg, .slice A t.ac.length c, .slice (some ⟨b1, o1, none⟩) t.mv.length d] 30) := ⟨_, rfl⟩
  have hbW : Below w.heap.size w W := by rw [hW]; exact (Below.refl _ _).alloc (Nat.le_refl _) _
  have hkW := heap_alloc_new w (.cells #[.int .i64 t.st, .int .i64 t.rg, .slice A t.ac.length c, .slice (some ⟨b1, o1, none⟩) t.mv.length d] 30)
  rw [← hW] at hkW
  have hcas := Lib.hid (fun W' => l7Cases_any t.st t.rg (.slice A t.ac.length c) (.slice (some ⟨b1, o1, none⟩) t.mv.length d) W' g.r0 g.r3)
  have hm : Hid (mvOf t q rs a = prAt t.mv (q * casZ t.rg + setN rs a).toNat) := Lib.hid rfl
  unfold mvIx at e0 e1 hix
  generalize mvOf t q rs a = m at *
  rw [← hm.out] at e0 e1
  clear hm hc1
  have hsn : Hid (setN rs a = setN rs a) := Lib.hid rfl
  have hcz := casZ_of g.r0 g.r3
  generalize casZ t.rg = cz at *
  obtain ⟨m1, m2⟩ := m
  dsimp only at *
  have hpost1 := Lib.hid (show ¬ 0 ≤ m2 → stored rs m2 a = rs from fun h => if_neg h)
  have hpost2 := Lib.hid (show 0 ≤ m2 → stored rs m2 a = rs.set m2.toNat a from fun h => if_pos h)
  have hpl := Lib.hid (stored_len rs m2 a)
  obtain ⟨st, rg, ac, mv⟩ := t
  dsimp only at *
  clear hA hB g
  generalize ac.length = la at *
  generalize mv.length = lm at *
  generalize stored rs m2 a = rs2 at *
  have HLN := Lib.hid hl
  clear hl
  have HV := Lib.hid hV
  obtain ⟨d0, d1, d2, d3⟩ := MachK.row4 hkW
  rw [← hbW.cell (p := ⟨b1, _, none⟩) hb1] at e0 e1
  have hlt0 : w.heap.size < W.heap.size := MachK.box_lt hkW
  have hlt1 : b1 < W.heap.size := by omega
  have HCC : Hid (∀ w' : World, Below W.heap.size W w' → w'.cell? ⟨w.heap.size, 0, none⟩ = some (.int .i64 st) ∧ w'.cell? ⟨w.heap.size, 1, none⟩ = some (.int .i64 rg) ∧ w'.cell? ⟨w.heap.size, 2, none⟩ = some (.slice A la c) ∧ w'.cell? ⟨w.heap.size, 3, none⟩ = some (.slice (some ⟨b1, o1, none⟩) lm d) ∧ w'.cell? ⟨b1, o1 + (q * cz + setN rs a).toNat * 2, none⟩ = some (.int .i64 m1) ∧ w'.cell? ⟨b1, o1 + (q * cz + setN rs a).toNat * 2 + 1, none⟩ = some (.int .i64 m2)) :=
    Lib.hid fun w' h => ⟨(h.cell (p := ⟨w.heap.size, 0, none⟩) hlt0).trans d0, (h.cell (p := ⟨w.heap.size, 1, none⟩) hlt0).trans d1, (h.cell (p := ⟨w.heap.size, 2, none⟩) hlt0).trans d2, (h.cell (p := ⟨w.heap.size, 3, none⟩) hlt0).trans d3, (h.cell (p := ⟨b1, _, none⟩) hlt1).trans e0, (h.cell (p := ⟨b1, _, none⟩) hlt1).trans e1⟩
  have HW := Lib.hid hW
  have HBW := Lib.hid hbW
  have hVW := hV.below hbW
  have HIX := Lib.hid (show (q * cz + setN rs a).toNat < lm ∧ 0 ≤ q * cz + setN rs a ∧ (0 ≤ setN rs a ∧ setN rs a ≤ 8) ∧ q * cz + setN rs a ≤ 100 from ⟨hix, hs0, hs1, hs2⟩)
  have HCZ := Lib.hid hcz
  clear hV d0 d1 d2 d3 e0 e1 hkW hW hbW hix hs0 hs1 hs2 hcz hsn
  go_enter Try.func61, Try.ntmps61
  go_upto_region 3 with fail
  rw [← HW.out]
  go_wp2
  go_loop [10, 11, 13, 18] (fun s b _ i => ∃ k : Nat, k ≤ rs.length ∧ i = .int .i64 k ∧ s = .int .i64 (setN (rs.take k) a) ∧ b = .int .i64 ((2 ^ k : Nat) : Int)) (fun _ _ _ i => rs.length - (intOf i).toNat)
  case atStart => exact ⟨0, Nat.zero_le _, rfl, rfl, rfl⟩
  case round =>
    obtain ⟨k, hk, rfl, rfl, rfl⟩ := hrel
    by_cases hlt : k < rs.length
    · obtain ⟨b2, o2, rfl, hb2, hc2⟩ := hVW (by omega)
      have c1 := hc2 k hlt
      have hnx := Lib.hid (setN_take a hlt)
      have hb := setN_bound a (rs.take k)
      rw [List.length_take, Nat.min_eq_left (by omega)] at hb
      have hp : ((2 ^ k : Nat) : Int) ≤ 8 := by
        have : k = 0 ∨ k = 1 ∨ k = 2 := by omega
        rcases this with rfl | rfl | rfl <;> decide
      have hp0 : (0 : Int) ≤ ((2 ^ k : Nat) : Int) := Int.natCast_nonneg _
      have hpn : Hid (((2 ^ (k + 1) : Nat) : Int) = 2 * ((2 ^ k : Nat) : Int)) := Lib.hid (by rw [Nat.pow_succ]; omega)
      generalize itAt rs k = y at c1 hnx
      generalize setN (rs.take k) a = s at hb hnx
      generalize ((2 ^ k : Nat) : Int) = bit at hb hnx hp hp0 hpn
      clear hc2 hVW
      by_cases he : y = a
      · have hn : Hid (setN (rs.take (k + 1)) a = s + bit) := Lib.hid (by rw [hnx.out, if_pos he])
        subst he
        clear hnx
        go_wp2
        refine ⟨⟨k + 1, by omega, by go_num, by rw [hn.out], by rw [hpn.out]⟩, ?_⟩
        simp only [intOf]
        omega
      · have hn : Hid (setN (rs.take (k + 1)) a = s) := Lib.hid (by rw [hnx.out, if_neg he]; omega)
        have hq : (y == a) = false := by simp [he]
        clear hnx hb he
        go_wp2
        refine ⟨⟨k + 1, by omega, by go_num, by rw [hn.out], by rw [hpn.out]⟩, ?_⟩
        simp only [intOf]
        omega
    · have e : k = rs.length := by omega
      subst e
      rw [List.take_length]
      obtain ⟨hix, hs0, hs1, hs2⟩ := HIX.out
      have hcopy := Lib.hid (fun (W' : World) (h : Below W.heap.size W W') => l1Copy_ints V cv rs W' (hVW.below h) hz (by omega))
      generalize setN rs a = sn at *
      have hcz := HCZ.out
      clear hVW HIX HCZ
      rcases hcz with ⟨rfl, rfl⟩ | ⟨rfl, rfl⟩ | ⟨rfl, rfl⟩ | ⟨rfl, rfl⟩
      · simp only [Int.mul_one] at HCC hix hs0 hs2
        have hwr1 : IntKind.i64.wrap (q * 1) = q := by rw [Int.mul_one]; exact IntWalk.i64_in _ (by omega)
        have hwr0 : IntKind.i64.wrap q = q := IntWalk.i64_in _ (by omega)
        have hwr2 : IntKind.i64.wrap (q + sn) = q + sn := IntWalk.i64_in _ (by omega)
        have hbI : q + sn < (lm : Int) := by omega
        have hbJ : ¬ q + sn < 0 := by omega
        go_upto_region 10 with fail
        go_cut [14] (fun s wx => MvR.Rel W (m1, m2) s wx)
        case first =>
          have hdw : Below W.heap.size W W.drew := ⟨rfl, rfl, rfl, Nat.le_refl _, fun _ _ => rfl⟩
          have hal : Below W.heap.size W (W.alloc (.cells #[.int .i64 0, .int .i64 0] 70)).drew := by
            have h : Below W.heap.size W (W.alloc (.cells #[.int .i64 0, .int .i64 0] 70)) := (Below.refl _ _).alloc (Nat.le_refl _) _
            exact ⟨h.os, h.tape, h.output, h.size, h.block⟩
          obtain ⟨u0, u1, u2, u3, u4, u5⟩ := HCC.out (W.drew) hdw
          obtain ⟨v0, v1, v2, v3, v4, v5⟩ := HCC.out ((W.alloc (.cells #[.int .i64 0, .int .i64 0] 70)).drew) hal
          have h0a := hcas.out W.drew
          have h0b := hcas.out (W.alloc (.cells #[.int .i64 0, .int .i64 0] 70)).drew
          have hc9 : (casZ 0) = 1 := rfl
          have ne0 : w.heap.size ≠ W.heap.size := Nat.ne_of_lt hlt0
          have ne1 : b1 ≠ W.heap.size := Nat.ne_of_lt hlt1
          go_region_held3 (fun w' => w'.cell? ⟨w.heap.size, 0, none⟩ = some (.int .i64 st) ∧ w'.cell? ⟨w.heap.size, 1, none⟩ = some (.int .i64 0) ∧ w'.cell? ⟨w.heap.size, 2, none⟩ = some (.slice A la c) ∧ w'.cell? ⟨w.heap.size, 3, none⟩ = some (.slice (some ⟨b1, o1, none⟩) lm d) ∧ w'.cell? ⟨b1, o1 + (q + sn).toNat * 2, none⟩ = some (.int .i64 m1) ∧ w'.cell? ⟨b1, o1 + (q + sn).toNat * 2 + 1, none⟩ = some (.int .i64 m2))
            (first | (with_reducible exact ⟨by assumption, by assumption, by assumption, by assumption, by assumption, by assumption⟩) | ((try dsimp only); exact ⟨by assumption, by assumption, by assumption, by assumption, by assumption, by assumption⟩) | (with_reducible exact ⟨MvR.set2_keep (by assumption) (by assumption), MvR.set2_keep (by assumption) (by assumption), MvR.set2_keep (by assumption) (by assumption), MvR.set2_keep (by assumption) (by assumption), MvR.set2_keep (by assumption) (by assumption), MvR.set2_keep (by assumption) (by assumption)⟩) | go_keep)
            (first
              | (go_at_call 54; (first | (with_reducible refine h0a.mono ?_) | (with_reducible refine h0b.mono ?_)); rintro e wq ⟨rfl, hbq⟩; have fr : Below W.heap.size W wq := (by first | (with_reducible exact hdw.trans (hbq.mono hdw.size)) | (with_reducible exact hal.trans (hbq.mono hal.size))); (try (have zq : wq.heap[W.heap.size]? = some (.cells #[.int .i64 0, .int .i64 0] 70) := (hbq.block W.heap.size (by simp)).trans (heap_alloc_new W (.cells #[.int .i64 0, .int .i64 0] 70)))); obtain ⟨p0, p1, p2, p3, p4, p5⟩ := HCC.out (wq) fr; have fr2 := fr.alloc fr.size (.cells #[.int .i64 m1, .int .i64 m2] 70); obtain ⟨r0, r1, r2, r3, r4, r5⟩ := HCC.out (wq.alloc (.cells #[.int .i64 m1, .int .i64 m2] 70)) fr2; have ne2 : w.heap.size ≠ wq.heap.size := Nat.ne_of_lt (Nat.lt_of_lt_of_le hlt0 fr.size); have ne3 : b1 ≠ wq.heap.size := Nat.ne_of_lt (Nat.lt_of_lt_of_le hlt1 fr.size); (try (obtain ⟨g0, g1⟩ := MvR.row2 zq; have y0 := frozen_of_row _ _ 0 _ _ zq; have y1 := frozen_of_row _ _ 1 _ _ zq)))
              | fail)
          all_goals
            go_wp2_with fail
            go_meet
            first | (with_reducible exact MvR.rel_new (m := (m1, m2)) fr) | (with_reducible exact MvR.rel_set (m := (m1, m2)) zq (Nat.le_refl _) fr)
        case rest =>
          obtain ⟨gm, rfl, hgm, hge, hbm⟩ := hcut
          have hcp := hcopy.out wc hbm
          have hbw := HBW.out.trans (hbm.mono HBW.out.size)
          have hgml : gm < wc.heap.size := MvR.box_lt hgm
          have HGM := Lib.hid hgm
          clear hgm hge hcopy HCC hwr1 hwr2 hbI hbJ hcas
          go_wp2_with fail
          (with_reducible refine hcp.mono ?_)
          rintro e w2 ⟨v2, rfl, ho, hb2⟩
          have hgm2 := (hb2.block gm hgml).trans HGM.out
          obtain ⟨c0, c1⟩ := MvR.row2 hgm2
          (try dsimp only at c0 c1)
          have hbw2 := hbw.trans (hb2.mono hbw.size)
          clear hcp hbm HGM hgm2
          by_cases hm0 : 0 ≤ m2
          · exfalso; omega
          · have em : m2 = -1 := by omega
            subst em
            have HP := Lib.hid (hpost1.out (by omega))
            have HFIN := Lib.hid (show NumRow m1 rs2 w (.returned (.tuple #[.int .i64 m1, v2])) w2 from ⟨_, rfl, by rw [HP.out]; exact own_le ho hbw.size, hbw2⟩)
            clear ho hpost1 hpost2 HV
            go_wp2
            go_ret2
            exact HFIN.out
      · skip
        have hwr1 : IntKind.i64.wrap (q * 2) = q * 2 := IntWalk.i64_in _ (by omega)
        skip
        have hwr2 : IntKind.i64.wrap (q * 2 + sn) = q * 2 + sn := IntWalk.i64_in _ (by omega)
        have hbI : q * 2 + sn < (lm : Int) := by omega
        have hbJ : ¬ q * 2 + sn < 0 := by omega
        go_upto_region 10 with fail
        go_cut [14] (fun s wx => MvR.Rel W (m1, m2) s wx)
        case first =>
          have hdw : Below W.heap.size W W.drew := ⟨rfl, rfl, rfl, Nat.le_refl _, fun _ _ => rfl⟩
          have hal : Below W.heap.size W (W.alloc (.cells #[.int .i64 0, .int .i64 0] 70)).drew := by
            have h : Below W.heap.size W (W.alloc (.cells #[.int .i64 0, .int .i64 0] 70)) := (Below.refl _ _).alloc (Nat.le_refl _) _
            exact ⟨h.os, h.tape, h.output, h.size, h.block⟩
          obtain ⟨u0, u1, u2, u3, u4, u5⟩ := HCC.out (W.drew) hdw
          obtain ⟨v0, v1, v2, v3, v4, v5⟩ := HCC.out ((W.alloc (.cells #[.int .i64 0, .int .i64 0] 70)).drew) hal
          have h0a := hcas.out W.drew
          have h0b := hcas.out (W.alloc (.cells #[.int .i64 0, .int .i64 0] 70)).drew
          have hc9 : (casZ 1) = 2 := rfl
          have ne0 : w.heap.size ≠ W.heap.size := Nat.ne_of_lt hlt0
          have ne1 : b1 ≠ W.heap.size := Nat.ne_of_lt hlt1
          go_region_held3 (fun w' => w'.cell? ⟨w.heap.size, 0, none⟩ = some (.int .i64 st) ∧ w'.cell? ⟨w.heap.size, 1, none⟩ = some (.int .i64 1) ∧ w'.cell? ⟨w.heap.size, 2, none⟩ = some (.slice A la c) ∧ w'.cell? ⟨w.heap.size, 3, none⟩ = some (.slice (some ⟨b1, o1, none⟩) lm d) ∧ w'.cell? ⟨b1, o1 + (q * 2 + sn).toNat * 2, none⟩ = some (.int .i64 m1) ∧ w'.cell? ⟨b1, o1 + (q * 2 + sn).toNat * 2 + 1, none⟩ = some (.int .i64 m2))
            (first | (with_reducible exact ⟨by assumption, by assumption, by assumption, by assumption, by assumption, by assumption⟩) | ((try dsimp only); exact ⟨by assumption, by assumption, by assumption, by assumption, by assumption, by assumption⟩) | (with_reducible exact ⟨MvR.set2_keep (by assumption) (by assumption), MvR.set2_keep (by assumption) (by assumption), MvR.set2_keep (by assumption) (by assumption), MvR.set2_keep (by assumption) (by assumption), MvR.set2_keep (by assumption) (by assumption), MvR.set2_keep (by assumption) (by assumption)⟩) | go_keep)
            (first
              | (go_at_call 54; (first | (with_reducible refine h0a.mono ?_) | (with_reducible refine h0b.mono ?_)); rintro e wq ⟨rfl, hbq⟩; have fr : Below W.heap.size W wq := (by first | (with_reducible exact hdw.trans (hbq.mono hdw.size)) | (with_reducible exact hal.trans (hbq.mono hal.size))); (try (have zq : wq.heap[W.heap.size]? = some (.cells #[.int .i64 0, .int .i64 0] 70) := (hbq.block W.heap.size (by simp)).trans (heap_alloc_new W (.cells #[.int .i64 0, .int .i64 0] 70)))); obtain ⟨p0, p1, p2, p3, p4, p5⟩ := HCC.out (wq) fr; have fr2 := fr.alloc fr.size (.cells #[.int .i64 m1, .int .i64 m2] 70); obtain ⟨r0, r1, r2, r3, r4, r5⟩ := HCC.out (wq.alloc (.cells #[.int .i64 m1, .int .i64 m2] 70)) fr2; have ne2 : w.heap.size ≠ wq.heap.size := Nat.ne_of_lt (Nat.lt_of_lt_of_le hlt0 fr.size); have ne3 : b1 ≠ wq.heap.size := Nat.ne_of_lt (Nat.lt_of_lt_of_le hlt1 fr.size); (try (obtain ⟨g0, g1⟩ := MvR.row2 zq; have y0 := frozen_of_row _ _ 0 _ _ zq; have y1 := frozen_of_row _ _ 1 _ _ zq)))
              | fail)
          all_goals
            go_wp2_with fail
            go_meet
            first | (with_reducible exact MvR.rel_new (m := (m1, m2)) fr) | (with_reducible exact MvR.rel_set (m := (m1, m2)) zq (Nat.le_refl _) fr)
        case rest =>
          obtain ⟨gm, rfl, hgm, hge, hbm⟩ := hcut
          have hcp := hcopy.out wc hbm
          have hbw := HBW.out.trans (hbm.mono HBW.out.size)
          have hgml : gm < wc.heap.size := MvR.box_lt hgm
          have HGM := Lib.hid hgm
          clear hgm hge hcopy HCC hwr1 hwr2 hbI hbJ hcas
          go_wp2_with fail
          (with_reducible refine hcp.mono ?_)
          rintro e w2 ⟨v2, rfl, ho, hb2⟩
          have hgm2 := (hb2.block gm hgml).trans HGM.out
          obtain ⟨c0, c1⟩ := MvR.row2 hgm2
          (try dsimp only at c0 c1)
          have hbw2 := hbw.trans (hb2.mono hbw.size)
          clear hcp hbm HGM hgm2
          by_cases hm0 : 0 ≤ m2
          · obtain ⟨j, rfl⟩ : ∃ j : Nat, m2 = j := ⟨m2.toNat, by omega⟩
            have hP := hpost2.out (by omega)
            rw [Int.toNat_natCast] at hP
            have HP := Lib.hid hP
            have hjl : j < rs.length := by have := HLN.out; omega
            obtain ⟨V2, cv2, rfl, _⟩ := own_intsAt ho
            rcases ho.2 with ⟨e9, h9⟩ | ⟨gr, cap, cur, e9, _⟩
            · omega
            · injection e9 with e91 _ e93
              subst e91; subst e93
              have k0 := (ho.cellAt j (by omega)).trans (icells_at rs j hjl)
              have k1 := ho.frozenAt j
              have hgr := ho.lt gr rfl
              obtain ⟨ho3, hg3⟩ := ho.stored j (.int .i64 a)
              have hb3 := hbw2.setCell (p := ⟨gr, j, none⟩) (show w.heap.size ≤ gr by have := hbw.size; omega) (.int .i64 a)
              have HFIN := Lib.hid (show NumRow m1 rs2 w (.returned (.tuple #[.int .i64 m1, .slice (some ⟨gr, 0, none⟩) rs.length cv2])) (w2.setCell ⟨gr, j, none⟩ (.int .i64 a)) from ⟨_, rfl, by rw [hpl.out, HP.out]; unfold icells; rw [List.map_set]; exact own_le ho3 hbw.size, hb3⟩)
              have hgne : gm ≠ gr := by omega
              have hgrl := hgr.2
              clear ho3 hg3 ho hpost1 hpost2 hP HV hgr hb3
              generalize rs.length = ln at *
              go_wp2
              go_ret2
              exact HFIN.out
          · have em : m2 = -1 := by omega
            subst em
            have HP := Lib.hid (hpost1.out (by omega))
            have HFIN := Lib.hid (show NumRow m1 rs2 w (.returned (.tuple #[.int .i64 m1, v2])) w2 from ⟨_, rfl, by rw [HP.out]; exact own_le ho hbw.size, hbw2⟩)
            clear ho hpost1 hpost2 HV
            go_wp2
            go_ret2
            exact HFIN.out
      · skip
        have hwr1 : IntKind.i64.wrap (q * 4) = q * 4 := IntWalk.i64_in _ (by omega)
        skip
        have hwr2 : IntKind.i64.wrap (q * 4 + sn) = q * 4 + sn := IntWalk.i64_in _ (by omega)
        have hbI : q * 4 + sn < (lm : Int) := by omega
        have hbJ : ¬ q * 4 + sn < 0 := by omega
        go_upto_region 10 with fail
        go_cut [14] (fun s wx => MvR.Rel W (m1, m2) s wx)
        case first =>
          have hdw : Below W.heap.size W W.drew := ⟨rfl, rfl, rfl, Nat.le_refl _, fun _ _ => rfl⟩
          have hal : Below W.heap.size W (W.alloc (.cells #[.int .i64 0, .int .i64 0] 70)).drew := by
            have h : Below W.heap.size W (W.alloc (.cells #[.int .i64 0, .int .i64 0] 70)) := (Below.refl _ _).alloc (Nat.le_refl _) _
            exact ⟨h.os, h.tape, h.output, h.size, h.block⟩
          obtain ⟨u0, u1, u2, u3, u4, u5⟩ := HCC.out (W.drew) hdw
          obtain ⟨v0, v1, v2, v3, v4, v5⟩ := HCC.out ((W.alloc (.cells #[.int .i64 0, .int .i64 0] 70)).drew) hal
          have h0a := hcas.out W.drew
          have h0b := hcas.out (W.alloc (.cells #[.int .i64 0, .int .i64 0] 70)).drew
          have hc9 : (casZ 2) = 4 := rfl
          have ne0 : w.heap.size ≠ W.heap.size := Nat.ne_of_lt hlt0
          have ne1 : b1 ≠ W.heap.size := Nat.ne_of_lt hlt1
          go_region_held3 (fun w' => w'.cell? ⟨w.heap.size, 0, none⟩ = some (.int .i64 st) ∧ w'.cell? ⟨w.heap.size, 1, none⟩ = some (.int .i64 2) ∧ w'.cell? ⟨w.heap.size, 2, none⟩ = some (.slice A la c) ∧ w'.cell? ⟨w.heap.size, 3, none⟩ = some (.slice (some ⟨b1, o1, none⟩) lm d) ∧ w'.cell? ⟨b1, o1 + (q * 4 + sn).toNat * 2, none⟩ = some (.int .i64 m1) ∧ w'.cell? ⟨b1, o1 + (q * 4 + sn).toNat * 2 + 1, none⟩ = some (.int .i64 m2))
            (first | (with_reducible exact ⟨by assumption, by assumption, by assumption, by assumption, by assumption, by assumption⟩) | ((try dsimp only); exact ⟨by assumption, by assumption, by assumption, by assumption, by assumption, by assumption⟩) | (with_reducible exact ⟨MvR.set2_keep (by assumption) (by assumption), MvR.set2_keep (by assumption) (by assumption), MvR.set2_keep (by assumption) (by assumption), MvR.set2_keep (by assumption) (by assumption), MvR.set2_keep (by assumption) (by assumption), MvR.set2_keep (by assumption) (by assumption)⟩) | go_keep)
            (first
              | (go_at_call 54; (first | (with_reducible refine h0a.mono ?_) | (with_reducible refine h0b.mono ?_)); rintro e wq ⟨rfl, hbq⟩; have fr : Below W.heap.size W wq := (by first | (with_reducible exact hdw.trans (hbq.mono hdw.size)) | (with_reducible exact hal.trans (hbq.mono hal.size))); (try (have zq : wq.heap[W.heap.size]? = some (.cells #[.int .i64 0, .int .i64 0] 70) := (hbq.block W.heap.size (by simp)).trans (heap_alloc_new W (.cells #[.int .i64 0, .int .i64 0] 70)))); obtain ⟨p0, p1, p2, p3, p4, p5⟩ := HCC.out (wq) fr; have fr2 := fr.alloc fr.size (.cells #[.int .i64 m1, .int .i64 m2] 70); obtain ⟨r0, r1, r2, r3, r4, r5⟩ := HCC.out (wq.alloc (.cells #[.int .i64 m1, .int .i64 m2] 70)) fr2; have ne2 : w.heap.size ≠ wq.heap.size := Nat.ne_of_lt (Nat.lt_of_lt_of_le hlt0 fr.size); have ne3 : b1 ≠ wq.heap.size := Nat.ne_of_lt (Nat.lt_of_lt_of_le hlt1 fr.size); (try (obtain ⟨g0, g1⟩ := MvR.row2 zq; have y0 := frozen_of_row _ _ 0 _ _ zq; have y1 := frozen_of_row _ _ 1 _ _ zq)))
              | fail)
          all_goals
            go_wp2_with fail
            go_meet
            first | (with_reducible exact MvR.rel_new (m := (m1, m2)) fr) | (with_reducible exact MvR.rel_set (m := (m1, m2)) zq (Nat.le_refl _) fr)
        case rest =>
          obtain ⟨gm, rfl, hgm, hge, hbm⟩ := hcut
          have hcp := hcopy.out wc hbm
          have hbw := HBW.out.trans (hbm.mono HBW.out.size)
          have hgml : gm < wc.heap.size := MvR.box_lt hgm
          have HGM := Lib.hid hgm
          clear hgm hge hcopy HCC hwr1 hwr2 hbI hbJ hcas
          go_wp2_with fail
          (with_reducible refine hcp.mono ?_)
          rintro e w2 ⟨v2, rfl, ho, hb2⟩
          have hgm2 := (hb2.block gm hgml).trans HGM.out
          obtain ⟨c0, c1⟩ := MvR.row2 hgm2
          (try dsimp only at c0 c1)
          have hbw2 := hbw.trans (hb2.mono hbw.size)
          clear hcp hbm HGM hgm2
          by_cases hm0 : 0 ≤ m2
          · obtain ⟨j, rfl⟩ : ∃ j : Nat, m2 = j := ⟨m2.toNat, by omega⟩
            have hP := hpost2.out (by omega)
            rw [Int.toNat_natCast] at hP
            have HP := Lib.hid hP
            have hjl : j < rs.length := by have := HLN.out; omega
            obtain ⟨V2, cv2, rfl, _⟩ := own_intsAt ho
            rcases ho.2 with ⟨e9, h9⟩ | ⟨gr, cap, cur, e9, _⟩
            · omega
            · injection e9 with e91 _ e93
              subst e91; subst e93
              have k0 := (ho.cellAt j (by omega)).trans (icells_at rs j hjl)
              have k1 := ho.frozenAt j
              have hgr := ho.lt gr rfl
              obtain ⟨ho3, hg3⟩ := ho.stored j (.int .i64 a)
              have hb3 := hbw2.setCell (p := ⟨gr, j, none⟩) (show w.heap.size ≤ gr by have := hbw.size; omega) (.int .i64 a)
              have HFIN := Lib.hid (show NumRow m1 rs2 w (.returned (.tuple #[.int .i64 m1, .slice (some ⟨gr, 0, none⟩) rs.length cv2])) (w2.setCell ⟨gr, j, none⟩ (.int .i64 a)) from ⟨_, rfl, by rw [hpl.out, HP.out]; unfold icells; rw [List.map_set]; exact own_le ho3 hbw.size, hb3⟩)
              have hgne : gm ≠ gr := by omega
              have hgrl := hgr.2
              clear ho3 hg3 ho hpost1 hpost2 hP HV hgr hb3
              generalize rs.length = ln at *
              go_wp2
              go_ret2
              exact HFIN.out
          · have em : m2 = -1 := by omega
            subst em
            have HP := Lib.hid (hpost1.out (by omega))
            have HFIN := Lib.hid (show NumRow m1 rs2 w (.returned (.tuple #[.int .i64 m1, v2])) w2 from ⟨_, rfl, by rw [HP.out]; exact own_le ho hbw.size, hbw2⟩)
            clear ho hpost1 hpost2 HV
            go_wp2
            go_ret2
            exact HFIN.out
      · skip
        have hwr1 : IntKind.i64.wrap (q * 8) = q * 8 := IntWalk.i64_in _ (by omega)
        skip
        have hwr2 : IntKind.i64.wrap (q * 8 + sn) = q * 8 + sn := IntWalk.i64_in _ (by omega)
        have hbI : q * 8 + sn < (lm : Int) := by omega
        have hbJ : ¬ q * 8 + sn < 0 := by omega
        go_upto_region 10 with fail
        go_cut [14] (fun s wx => MvR.Rel W (m1, m2) s wx)
        case first =>
          have hdw : Below W.heap.size W W.drew := ⟨rfl, rfl, rfl, Nat.le_refl _, fun _ _ => rfl⟩
          have hal : Below W.heap.size W (W.alloc (.cells #[.int .i64 0, .int .i64 0] 70)).drew := by
            have h : Below W.heap.size W (W.alloc (.cells #[.int .i64 0, .int .i64 0] 70)) := (Below.refl _ _).alloc (Nat.le_refl _) _
            exact ⟨h.os, h.tape, h.output, h.size, h.block⟩
          obtain ⟨u0, u1, u2, u3, u4, u5⟩ := HCC.out (W.drew) hdw
          obtain ⟨v0, v1, v2, v3, v4, v5⟩ := HCC.out ((W.alloc (.cells #[.int .i64 0, .int .i64 0] 70)).drew) hal
          have h0a := hcas.out W.drew
          have h0b := hcas.out (W.alloc (.cells #[.int .i64 0, .int .i64 0] 70)).drew
          have hc9 : (casZ 3) = 8 := rfl
          have ne0 : w.heap.size ≠ W.heap.size := Nat.ne_of_lt hlt0
          have ne1 : b1 ≠ W.heap.size := Nat.ne_of_lt hlt1
          go_region_held3 (fun w' => w'.cell? ⟨w.heap.size, 0, none⟩ = some (.int .i64 st) ∧ w'.cell? ⟨w.heap.size, 1, none⟩ = some (.int .i64 3) ∧ w'.cell? ⟨w.heap.size, 2, none⟩ = some (.slice A la c) ∧ w'.cell? ⟨w.heap.size, 3, none⟩ = some (.slice (some ⟨b1, o1, none⟩) lm d) ∧ w'.cell? ⟨b1, o1 + (q * 8 + sn).toNat * 2, none⟩ = some (.int .i64 m1) ∧ w'.cell? ⟨b1, o1 + (q * 8 + sn).toNat * 2 + 1, none⟩ = some (.int .i64 m2))
            (first | (with_reducible exact ⟨by assumption, by assumption, by assumption, by assumption, by assumption, by assumption⟩) | ((try dsimp only); exact ⟨by assumption, by assumption, by assumption, by assumption, by assumption, by assumption⟩) | (with_reducible exact ⟨MvR.set2_keep (by assumption) (by assumption), MvR.set2_keep (by assumption) (by assumption), MvR.set2_keep (by assumption) (by assumption), MvR.set2_keep (by assumption) (by assumption), MvR.set2_keep (by assumption) (by assumption), MvR.set2_keep (by assumption) (by assumption)⟩) | go_keep)
            (first
              | (go_at_call 54; (first | (with_reducible refine h0a.mono ?_) | (with_reducible refine h0b.mono ?_)); rintro e wq ⟨rfl, hbq⟩; have fr : Below W.heap.size W wq := (by first | (with_reducible exact hdw.trans (hbq.mono hdw.size)) | (with_reducible exact hal.trans (hbq.mono hal.size))); (try (have zq : wq.heap[W.heap.size]? = some (.cells #[.int .i64 0, .int .i64 0] 70) := (hbq.block W.heap.size (by simp)).trans (heap_alloc_new W (.cells #[.int .i64 0, .int .i64 0] 70)))); obtain ⟨p0, p1, p2, p3, p4, p5⟩ := HCC.out (wq) fr; have fr2 := fr.alloc fr.size (.cells #[.int .i64 m1, .int .i64 m2] 70); obtain ⟨r0, r1, r2, r3, r4, r5⟩ := HCC.out (wq.alloc (.cells #[.int .i64 m1, .int .i64 m2] 70)) fr2; have ne2 : w.heap.size ≠ wq.heap.size := Nat.ne_of_lt (Nat.lt_of_lt_of_le hlt0 fr.size); have ne3 : b1 ≠ wq.heap.size := Nat.ne_of_lt (Nat.lt_of_lt_of_le hlt1 fr.size); (try (obtain ⟨g0, g1⟩ := MvR.row2 zq; have y0 := frozen_of_row _ _ 0 _ _ zq; have y1 := frozen_of_row _ _ 1 _ _ zq)))
              | fail)
          all_goals
            go_wp2_with fail
            go_meet
            first | (with_reducible exact MvR.rel_new (m := (m1, m2)) fr) | (with_reducible exact MvR.rel_set (m := (m1, m2)) zq (Nat.le_refl _) fr)
        case rest =>
          obtain ⟨gm, rfl, hgm, hge, hbm⟩ := hcut
          have hcp := hcopy.out wc hbm
          have hbw := HBW.out.trans (hbm.mono HBW.out.size)
          have hgml : gm < wc.heap.size := MvR.box_lt hgm
          have HGM := Lib.hid hgm
          clear hgm hge hcopy HCC hwr1 hwr2 hbI hbJ hcas
          go_wp2_with fail
          (with_reducible refine hcp.mono ?_)
          rintro e w2 ⟨v2, rfl, ho, hb2⟩
          have hgm2 := (hb2.block gm hgml).trans HGM.out
          obtain ⟨c0, c1⟩ := MvR.row2 hgm2
          (try dsimp only at c0 c1)
          have hbw2 := hbw.trans (hb2.mono hbw.size)
          clear hcp hbm HGM hgm2
          by_cases hm0 : 0 ≤ m2
          · obtain ⟨j, rfl⟩ : ∃ j : Nat, m2 = j := ⟨m2.toNat, by omega⟩
            have hP := hpost2.out (by omega)
            rw [Int.toNat_natCast] at hP
            have HP := Lib.hid hP
            have hjl : j < rs.length := by have := HLN.out; omega
            obtain ⟨V2, cv2, rfl, _⟩ := own_intsAt ho
            rcases ho.2 with ⟨e9, h9⟩ | ⟨gr, cap, cur, e9, _⟩
            · omega
            · injection e9 with e91 _ e93
              subst e91; subst e93
              have k0 := (ho.cellAt j (by omega)).trans (icells_at rs j hjl)
              have k1 := ho.frozenAt j
              have hgr := ho.lt gr rfl
              obtain ⟨ho3, hg3⟩ := ho.stored j (.int .i64 a)
              have hb3 := hbw2.setCell (p := ⟨gr, j, none⟩) (show w.heap.size ≤ gr by have := hbw.size; omega) (.int .i64 a)
              have HFIN := Lib.hid (show NumRow m1 rs2 w (.returned (.tuple #[.int .i64 m1, .slice (some ⟨gr, 0, none⟩) rs.length cv2])) (w2.setCell ⟨gr, j, none⟩ (.int .i64 a)) from ⟨_, rfl, by rw [hpl.out, HP.out]; unfold icells; rw [List.map_set]; exact own_le ho3 hbw.size, hb3⟩)
              have hgne : gm ≠ gr := by omega
              have hgrl := hgr.2
              clear ho3 hg3 ho hpost1 hpost2 hP HV hgr hb3
              generalize rs.length = ln at *
              go_wp2
              go_ret2
              exact HFIN.out
          · have em : m2 = -1 := by omega
            subst em
            have HP := Lib.hid (hpost1.out (by omega))
            have HFIN := Lib.hid (show NumRow m1 rs2 w (.returned (.tuple #[.int .i64 m1, v2])) w2 from ⟨_, rfl, by rw [HP.out]; exact own_le ho hbw.size, hbw2⟩)
            clear ho hpost1 hpost2 HV
            go_wp2
            go_ret2
            exact HFIN.out
end Go.Proofs.Ytkhjdidcpoefdaa
end

section
namespace Go.Proofs.Ytkhjdidcpoefdaa
open Go.RowKit Go.Sort
set_option linter.unusedVariables false

set_option maxRecDepth 100000 in
set_option maxHeartbeats 8000000 in
theorem runMachine_spec (t : Mach) (hf : FitM t) (x : Value) (A0 : Option Addr) (c0 : Nat) (l : List Int) (w : World) (hx : MachIx w x t) (hA0 : IntsAt w A0 l) (hl : l.length ≤ 1099511627776) :
    Calls Try.prog 20 #[x, .slice A0 l.length c0] w (NumRowB (runQ t l) (runV t l) (runOk t l) w) := by
  have hX := Lib.hid hx
  obtain ⟨A, c, B, d, rfl, hbools, hrest⟩ := hx
  obtain ⟨W, hW⟩ : ∃ W, W = w.alloc (.cells #[.int .i64 t.st, .int .i64 t.rg, .slice A t.ac.length c, .slice B t.mv.length d] 30) := ⟨_, rfl⟩
  have hbW : Below w.heap.size w W := by rw [hW]; exact (Below.refl _ _).alloc (Nat.le_refl _) _
  have hkW : W.heap[w.heap.size]? = some (.cells #[.int .i64 t.st, .int .i64 t.rg, .slice A t.ac.length c, .slice B t.mv.length d] 30) := by rw [hW]; exact heap_alloc_new w _
  obtain ⟨d0, d1, d2, d3⟩ := MachK.row4 hkW
  have hlt0 : w.heap.size < W.heap.size := MachK.box_lt hkW
  have HCC : Hid (∀ w' : World, Below W.heap.size W w' → w'.cell? ⟨w.heap.size, 0, none⟩ = some (.int .i64 t.st) ∧ w'.cell? ⟨w.heap.size, 1, none⟩ = some (.int .i64 t.rg) ∧ w'.cell? ⟨w.heap.size, 2, none⟩ = some (.slice A t.ac.length c) ∧ w'.cell? ⟨w.heap.size, 3, none⟩ = some (.slice B t.mv.length d)) :=
    Lib.hid fun w' h => ⟨(h.cell (p := ⟨w.heap.size, 0, none⟩) hlt0).trans d0, (h.cell (p := ⟨w.heap.size, 1, none⟩) hlt0).trans d1, (h.cell (p := ⟨w.heap.size, 2, none⟩) hlt0).trans d2, (h.cell (p := ⟨w.heap.size, 3, none⟩) hlt0).trans d3⟩
  have HW := Lib.hid hW
  have HBW := Lib.hid hbW
  clear hkW hW
  have hm := isMachine_spec t (by unfold FitM at hf; omega) _ W (hX.out.below hbW).in_
  have HWD := Lib.hid (fun (W' : World) (h : Below W.heap.size W W') => l7Word_any A0 c0 l W' (hA0.below (HBW.out.trans (h.mono HBW.out.size))) hl)
  clear hbW hbools hrest
  by_cases hmb : machB t = true
  case neg =>
    have hmb : machB t = false := by simpa using hmb
    obtain ⟨r1, r2, r3⟩ := runOk_no1 (l := l) hmb
    rw [hmb] at hm
    rw [r1, r2, r3]
    clear r1 r2 r3 hmb HWD hA0
    generalize l.length = n at *
    go_enter Try.func20, Try.ntmps20
    go_wp2_with fail
    rw [← HW.out]
    (with_reducible refine hm.mono ?_)
    rintro e w1 ⟨rfl, hb1⟩
    have hbz := HBW.out.trans (hb1.mono HBW.out.size)
    have HF := Lib.hid (numRowB_empty (q := 0) (b := false) hbz)
    clear hm d0 d1 d2 d3
    go_wp2
    go_ret3
    exact HF.out
  rw [hmb] at hm
  by_cases hwb : wordB l = true
  case neg =>
    have hwb : wordB l = false := by simpa using hwb
    obtain ⟨r1, r2, r3⟩ := runOk_no2 (t := t) hwb
    rw [r1, r2, r3]
    clear r1 r2 r3 hmb hA0
    rw [hwb] at HWD
    generalize l.length = n at *
    go_enter Try.func20, Try.ntmps20
    go_wp2_with fail
    rw [← HW.out]
    (with_reducible refine hm.mono ?_)
    rintro e w1 ⟨rfl, hb1⟩
    have hwd := HWD.out w1 hb1
    have hbz := HBW.out.trans (hb1.mono HBW.out.size)
    have HF := Lib.hid (numRowB_empty (q := 0) (b := false) hbz)
    clear hm d0 d1 d2 d3
    go_wp2_with (go_at_call 59; (with_reducible refine hwd.mono ?_); rintro e w2 ⟨rfl, rfl⟩)
    go_ret3
    exact HF.out
  obtain ⟨r1, r2, r3⟩ := runOk_yes hmb hwb
  rw [r1, r2, r3]
  have g := good_of hmb
  have hl9 := word_len hwb
  have HST := Lib.hid (fun (W' : World) (h : Below W.heap.size W W') => l7Start_any t g _ W' (hX.out.below (HBW.out.trans (h.mono HBW.out.size))))
  have HSP := Lib.hid (fun (q a : Int) (rs : List Int) (V : Option Addr) (cv : Nat) (W' : World) (h : Below W.heap.size W W') (h0 : 0 ≤ q) (h1 : q < t.st) (h2 : rs.length = t.rg.toNat) (h3 : IntsAt W' V rs) (h4 : V = none → cv = 0) => l7Step_any t g _ q a rs V cv W' (hX.out.below (HBW.out.trans (h.mono HBW.out.size))) h0 h1 h2 h3 h4)
  have hpost := Lib.hid (show runM t l = runFrom t (0, List.replicate t.rg.toNat (-1)) l from rfl)
  have hok := Lib.hid (fun k => runFrom_ok g (l := l.take k) (start_ok g))
  have hstep := Lib.hid (fun (k : Nat) (h : k < l.length) => runFrom_next t (0, List.replicate t.rg.toNat (-1)) h)
  rw [hpost.out]
  clear r1 r2 r3 hmb hpost
  rw [hwb] at HWD
  go_enter Try.func20, Try.ntmps20
  go_wp2_with fail
  rw [← HW.out]
  (with_reducible refine hm.mono ?_)
  rintro e w1 ⟨rfl, hb1⟩
  have hwd := HWD.out w1 hb1
  have hst := HST.out w1 hb1
  obtain ⟨e0, e1, e2, e3⟩ := HCC.out w1 hb1
  clear hm d0 d1 d2 d3 HW
  go_wp2_with (first | (go_at_call 59; (with_reducible refine hwd.mono ?_); rintro e w2 ⟨rfl, rfl⟩) | (go_at_call 60; (with_reducible refine hst.mono ?_); rintro e w3 ⟨v0, rfl, ho, hb3⟩))
  have ho3 := own_le ho hb1.size
  have hbs3 := hb1.trans (hb3.mono hb1.size)
  clear hwd hst e0 e1 e2 e3 ho hb3 HWD HST
  go_loopw [7, 8, 10, 11, 12, 26] (fun s v _ _ _ i wr => ∃ k : Nat, k ≤ l.length ∧ i = .int .i64 k ∧ s = .int .i64 (runFrom t (0, List.replicate t.rg.toNat (-1)) (l.take k)).1 ∧ wr.ownsRow W.heap.size 3 1 v (runFrom t (0, List.replicate t.rg.toNat (-1)) (l.take k)).2.length (icells (runFrom t (0, List.replicate t.rg.toNat (-1)) (l.take k)).2) ∧ Below W.heap.size W wr) (fun _ _ _ _ _ i _ => l.length - (intOf i).toNat)
  case atStart => exact ⟨0, Nat.zero_le _, rfl, rfl, ho3, hbs3⟩
  case round =>
    obtain ⟨k, hk, rfl, rfl, ho, hb⟩ := hrel
    have hbw := HBW.out.trans (hb.mono HBW.out.size)
    have hokk := Lib.hid (hok.out k)
    by_cases hlt : k < l.length
    · obtain ⟨b1, o1, rfl, hb1', hc1⟩ := hA0 (by omega)
      have c1 := hc1 k hlt
      rw [← hbw.cell (p := ⟨b1, _, none⟩) hb1'] at c1
      have hst := Lib.hid (hstep.out k hlt)
      generalize runFrom t (0, List.replicate t.rg.toNat (-1)) (l.take k) = p at *
      generalize itAt l k = a at *
      obtain ⟨q, rs⟩ := p
      dsimp only at ho
      obtain ⟨V, cv, rfl, hV⟩ := own_intsAt ho
      have hrl := HSP.out q a rs V cv wr hb hokk.out.1 hokk.out.2.1 hokk.out.2.2 hV (MachK.nilcap ho)
      obtain ⟨e0, e1, e2, e3⟩ := HCC.out wr hb
      have hlm : Hid ((mvOf t q rs a).1 = (runFrom t (0, List.replicate t.rg.toNat (-1)) (l.take (k + 1))).1 ∧ stored rs (mvOf t q rs a).2 a = (runFrom t (0, List.replicate t.rg.toNat (-1)) (l.take (k + 1))).2) := Lib.hid (by rw [hst.out]; exact ⟨rfl, rfl⟩)
      generalize mvOf t q rs a = m at hrl hlm
      generalize stored rs m.2 a = rs2 at hrl hlm
      clear hc1 hA0 hok hstep hst hokk ho hV
      dsimp only
      generalize rs.length = ln at *
      go_wp2_with fail
      (with_reducible refine hrl.mono ?_)
      rintro e w2 ⟨v2, rfl, ho2, hb2⟩
      have hb4 := hb.trans (hb2.mono hb.size)
      have ho4 := own_le ho2 hb.size
      rw [hlm.out.2] at ho4
      rw [hlm.out.1]
      clear hrl hlm e0 e1 e2 e3 c1 ho2 hb2
      go_wp2
      refine ⟨⟨k + 1, by omega, by go_num, rfl, ho4, hb4⟩, ?_⟩
      simp only [intOf]
      omega
    · have e : k = l.length := by omega
      subst e
      rw [List.take_length] at ho ⊢
      have HF := Lib.hid (show NumRowB (runFrom t (0, List.replicate t.rg.toNat (-1)) l).1 (runFrom t (0, List.replicate t.rg.toNat (-1)) l).2 true w (.returned (.tuple #[.int .i64 (runFrom t (0, List.replicate t.rg.toNat (-1)) l).1, u8, .bool true])) wr from ⟨u8, rfl, own_le ho HBW.out.size, hbw⟩)
      clear ho hA0
      go_wp2
      go_ret3
      exact HF.out
set_option maxRecDepth 100000 in
set_option maxHeartbeats 8000000 in
theorem acceptsWord_spec (t : Mach) (hf : FitM t) (x : Value) (A0 : Option Addr) (c0 : Nat) (l : List Int) (w : World) (hx : MachIx w x t) (hA0 : IntsAt w A0 l) (hl : l.length ≤ 1099511627776) :
    Calls Try.prog 27 #[x, .slice A0 l.length c0] w fun e w' => e = .returned (.bool (accB t l)) ∧ Below w.heap.size w w' := by
  have hX := Lib.hid hx
  obtain ⟨A, c, B, d, rfl, hbools, hrest⟩ := hx
  obtain ⟨W, hW⟩ : ∃ W, W = w.alloc (.cells #[.int .i64 t.st, .int .i64 t.rg, .slice A t.ac.length c, .slice B t.mv.length d] 30) := ⟨_, rfl⟩
  have hbW : Below w.heap.size w W := by rw [hW]; exact (Below.refl _ _).alloc (Nat.le_refl _) _
  have hkW : W.heap[w.heap.size]? = some (.cells #[.int .i64 t.st, .int .i64 t.rg, .slice A t.ac.length c, .slice B t.mv.length d] 30) := by rw [hW]; exact heap_alloc_new w _
  obtain ⟨d0, d1, d2, d3⟩ := MachK.row4 hkW
  have hlt0 : w.heap.size < W.heap.size := MachK.box_lt hkW
  have HCC : Hid (∀ w' : World, Below W.heap.size W w' → w'.cell? ⟨w.heap.size, 0, none⟩ = some (.int .i64 t.st) ∧ w'.cell? ⟨w.heap.size, 1, none⟩ = some (.int .i64 t.rg) ∧ w'.cell? ⟨w.heap.size, 2, none⟩ = some (.slice A t.ac.length c) ∧ w'.cell? ⟨w.heap.size, 3, none⟩ = some (.slice B t.mv.length d)) :=
    Lib.hid fun w' h => ⟨(h.cell (p := ⟨w.heap.size, 0, none⟩) hlt0).trans d0, (h.cell (p := ⟨w.heap.size, 1, none⟩) hlt0).trans d1, (h.cell (p := ⟨w.heap.size, 2, none⟩) hlt0).trans d2, (h.cell (p := ⟨w.heap.size, 3, none⟩) hlt0).trans d3⟩
  have HW := Lib.hid hW
  have HBW := Lib.hid hbW
  clear hkW hW
  have hm := runMachine_spec t hf _ A0 c0 l W (hX.out.below hbW) (hA0.below hbW) hl
  have HAC := Lib.hid hbools
  clear hrest hA0 hbW
  cases hro : runOk t l with
  | false =>
    have hr : accB t l = false := by unfold accB; rw [hro]; rfl
    rw [hro] at hm
    rw [hr]
    clear hbools hro hr
    generalize runQ t l = q at *
    generalize runV t l = rv at *
    generalize l.length = n at *
    go_enter Try.func27, Try.ntmps27
    go_wp2_with fail
    rw [← HW.out]
    (with_reducible refine hm.mono ?_)
    rintro e w1 ⟨v, rfl, ho, hb1⟩
    have hbz := HBW.out.trans (hb1.mono HBW.out.size)
    obtain ⟨e0, e1, e2, e3⟩ := HCC.out w1 hb1
    clear hm d0 d1 d2 d3 ho
    go_wp2
    go_ret
    exact ⟨rfl, hbz⟩
  | true =>
    have hr : accB t l = lastB t l := by unfold accB; rw [hro]; rfl
    have hmw : machB t = true ∧ wordB l = true := by unfold runOk at hro; rw [Bool.and_eq_true] at hro; exact hro
    have g := good_of hmw.1
    rw [hro, (runOk_yes hmw.1 hmw.2).2.1] at hm
    rw [hr]
    have hok := runM_ok g l
    have hal := g.al
    have hs9 := g.s9
    have hq : Hid (lastB t l = btAt t.ac (runM t l).1.toNat) := Lib.hid rfl
    clear hr hro hmw
    generalize lastB t l = r at *
    generalize runV t l = rv at *
    generalize runM t l = p at *
    obtain ⟨q, rs⟩ := p
    obtain ⟨h0, h1, _⟩ := hok
    dsimp only at h0 h1 hq hm
    obtain ⟨j, rfl⟩ : ∃ j : Nat, q = j := ⟨q.toNat, by omega⟩
    rw [Int.toNat_natCast] at hq
    have hjl : j < t.ac.length := by omega
    have hl9 : t.ac.length ≤ 9 := by omega
    clear hbools hl hal g
    generalize l.length = n at *
    go_enter Try.func27, Try.ntmps27
    go_wp2_with fail
    rw [← HW.out]
    (with_reducible refine hm.mono ?_)
    rintro e w1 ⟨v, rfl, ho, hb1⟩
    have hbz := HBW.out.trans (hb1.mono HBW.out.size)
    obtain ⟨e0, e1, e2, e3⟩ := HCC.out w1 hb1
    obtain ⟨b1, o1, rfl, hbl, hc1⟩ := HAC.out.below hbz (by omega)
    have c1 := hc1 j hjl
    rw [← hq.out] at c1
    clear hm d0 d1 d2 d3 ho hc1 hq HAC hb1 HBW HCC HW hX
    generalize t.ac.length = la at *
    go_wp2
    go_ret
    exact ⟨rfl, hbz⟩
end Go.Proofs.Ytkhjdidcpoefdaa
end

