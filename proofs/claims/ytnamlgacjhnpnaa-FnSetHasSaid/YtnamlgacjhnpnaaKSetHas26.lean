/-
  The law FnSetHas returns true for every code of bytes: a drawn set of patterns has the examples of its patterns, which its complement has not, and each drawn tuple is in one of both. No condition.
-/
import Derived.Test.YtnamlgacjhnpnaaKSetHas5
import Derived.Test.YtnamlgacjhnpnaaKSetHas24
import Derived.Test.YtnamlgacjhnpnaaKSetHas14
import Derived.Test.YtnamlgacjhnpnaaKSetHas16
import Derived.Test.YtnamlgacjhnpnaaKSetHas3
import Derived.Test.YtnamlgacjhnpnaaKSetHas25
namespace Go.Proofs.Ytnamlgacjhnpnaa.fnSetHas
open Go.ChangeShapes Go.WideShapes Go.ChangeAt Go.RowKit
set_option linter.unusedVariables false

theorem big_no (A : Option Addr) (n c : Nat) (w : World) (h : n ≤ 4096) : Calls Try.prog 9 #[.slice A n c] w fun e w' => e = .returned (.bool false) ∧ w = w' := by
  have k0 : decide ((4096 : Int) < n) = false := by simp; omega
  go_enter Try.func9, Try.ntmps9
  go_wp2
  go_ret
  exact ⟨rfl, rfl⟩

theorem big_yes (A : Option Addr) (n c : Nat) (w : World) (h : 4096 < n) (h2 : n ≤ 9223372036854775807) : Calls Try.prog 9 #[.slice A n c] w fun e w' => e = .returned (.bool true) ∧ w = w' := by
  have k0 : decide ((4096 : Int) < n) = true := by simp; omega
  go_enter Try.func9, Try.ntmps9
  go_wp2
  go_ret
  exact ⟨rfl, rfl⟩

theorem open_bytesZ {H : Type} {enc : TypeId × Value → H} {W : World} {A : Option Addr} {n c : Nat} {d : DataW H} {p : List MemPlace}
    (h : DataW.Trod enc Try.prog W 0 (fun _ => true) true 22 (.slice A n c) d p) : A = none → c = 0 := by
  obtain ⟨fuel, hf⟩ := h
  rcases open_ints Try.underlying22 Try.underlying5 (by kernel_rfl) hf with ⟨hcs, _⟩ | ⟨x, len, cap, zs, hcs, _⟩
  · simp [Value.cells] at hcs
    exact fun _ => hcs.2.2
  · simp [Value.cells] at hcs
    rw [hcs.1]
    intro e
    cases e

open Go.Sort in
set_option maxRecDepth 100000 in
set_option maxHeartbeats 8000000 in
theorem walk (w : World) (A0 : Option Addr) (c0 n0 : Nat) (hA0 : BytesIn w A0 n0) (hz0 : A0 = none → c0 = 0) (hm0 : n0 ≤ maxLen) :
    Calls Try.prog 4 #[.slice A0 n0 c0] w fun e w' => e = .returned (.bool true) ∧ Below w.heap.size w w' := by
  unfold maxLen at hm0
  by_cases hn : n0 ≤ 4096
  · have hdr := drawSets_any A0 n0 c0 w hA0 (by omega)
    go_enter Try.func4, Try.ntmps4
    go_wp2_with (first | (go_at_call 9; refine (big_no _ _ _ _ hn).mono ?_; rintro e w' ⟨rfl, rfl⟩) | fail)
    refine hdr.mono ?_
    rintro e w1 ⟨n, cs, cs2, M, M2, A1, B1, A2, B2, c1, d1, c2, d2, rfl, hn3, hl1, _, hv, _, ho1, _, hb1⟩
    have hn4 : n ≤ 4 := by omega
    have hM4 := SetX.valid_fit hn4 hv
    have hf : FitO cs M := ⟨by omega, fitR_of (by omega)⟩
    have hor := SetX.valid_orb hn4 hv
    have hb2 : Below w1.heap.size w1 ((w1.alloc (.cells #[.int .i64 (n : Int), .slice A1 cs.length c1, .slice B1 M.length d1] 32)).alloc (.cells #[.int .i64 (n : Int), .slice A2 cs2.length c2, .slice B2 M2.length d2] 32)) := ((Below.refl _ _).alloc (Nat.le_refl _) _).alloc (by simp) _
    have k0 : ((w1.alloc (.cells #[.int .i64 (n : Int), .slice A1 cs.length c1, .slice B1 M.length d1] 32)).alloc (.cells #[.int .i64 (n : Int), .slice A2 cs2.length c2, .slice B2 M2.length d2] 32)).heap[w1.heap.size]? = some (.cells #[.int .i64 (n : Int), .slice A1 cs.length c1, .slice B1 M.length d1] 32 (0, 0)) := (Below.heap_alloc _ _ _ (by simp)).trans (heap_alloc_new w1 _)
    obtain ⟨b0, b1, b2⟩ := OrbK.row3 k0
    have hcp := complement_impl n cs M hf _ ((w1.alloc (.cells #[.int .i64 (n : Int), .slice A1 cs.length c1, .slice B1 M.length d1] 32)).alloc (.cells #[.int .i64 (n : Int), .slice A2 cs2.length c2, .slice B2 M2.length d2] 32)) (ho1.below hb2)
    rw [hor] at hcp
    change Calls Try.prog 15 _ _ (OrbOut n cs (cplL n cs M) _) at hcp
    have HEX := Lib.hid (fun (W : World) (h : Below w1.heap.size w1 W) => examplesOf_impl n cs M hf _ W (ho1.below h))
    rw [exsR_yes hor] at HEX
    have HTU := Lib.hid (fun (W : World) (h : Below w.heap.size w W) => drawTuple_any A0 n0 c0 n hn4 W (DrawN.bytes_more hA0 h) hz0 (by omega))
    have hKL := SetX.len_cpl hv
    have HXL := Lib.hid (fun t (h1 : t.length = n) (h2 : DrawN.Small t) => SetX.has_cpl hn4 hv h1 (DrawN.small_tup (by omega) h2))
    have HXM := Lib.hid (fun i (hi : i < M.length) => (by rw [rwAt_get _ _ hi]; exact List.getElem_mem hi : rwAt M i ∈ M))
    have HV := Lib.hid hv
    have HO1 := Lib.hid ho1
    have HB1 := Lib.hid hb1
    have HK0 := Lib.hid k0
    have HFK : Hid (FitO cs (cplL n cs M)) := Lib.hid (by
      have h1 := cplFit n cs M
      rw [hor] at h1
      exact h1)
    generalize hKK : cplL n cs M = K at hcp hKL HXL HFK
    have HKK := Lib.hid hKK
    clear hdr hA0 hz0 ho1 k0 hKK hor
    go_wp2_with (first
      | (go_at_call 15; (with_reducible refine hcp.mono ?_); rintro e w3 ⟨A3, c3, B3, d3, S3, rfl, hL3, hS3, hb3⟩; have hbx : Below w3.heap.size w3 (w3.alloc (.cells #[.int .i64 (n : Int), .slice A3 cs.length c3, .slice B3 K.length d3] 32)) := (Below.refl _ _).alloc (Nat.le_refl _) _; have h23 := hb3.trans (hbx.mono hb3.size); have k3 := (h23.block _ (OrbK.box_lt HK0.out)).trans HK0.out; have k5 := heap_alloc_new w3 (.cells #[.int .i64 (n : Int), .slice A3 cs.length c3, .slice B3 K.length d3] 32); clear b0 b1 b2; obtain ⟨b0, b1, b2⟩ := OrbK.row3 k3; have h13 := hb2.trans (h23.mono hb2.size); have htu := HTU.out _ (HB1.out.trans (h13.mono HB1.out.size)))
      | (go_at_call 16; (with_reducible refine htu.mono ?_); rintro e w5 ⟨t, At, ct, rfl, htl, hts, htA, _, hb5⟩; have HTL := Lib.hid htl; have HTS := Lib.hid hts; clear htl hts; have k6 := (hb5.block _ (OrbK.box_lt k3)).trans k3; clear b0 b1 b2; obtain ⟨b0, b1, b2⟩ := OrbK.row3 k6; have h15 := h13.trans (hb5.mono h13.size); have hex := HEX.out _ h15)
      | (go_at_call 17; (with_reducible refine hex.mono ?_); rintro e w6 ⟨v6, S6, rfl, hS6, hS6b, hb6⟩; obtain ⟨BE, dE, hBE⟩ := RowsIn.form (ls := exsL cs M) hS6.at_; subst hBE))
    have h16 := h15.trans (hb6.mono h15.size)
    have K6 := Lib.hid ((hb6.block _ (OrbK.box_lt k6)).trans k6)
    have h56 := hb5.trans (hb6.mono hb5.size)
    have K5 := Lib.hid ((h56.block _ (OrbK.box_lt k5)).trans k5)
    have HS6 := Lib.hid (HO1.out.below h16)
    have HC6 := Lib.hid ((orbOut_ix hL3).below (hbx.trans (h56.mono hbx.size)))
    have HT6 := Lib.hid (htA.below hb6)
    have HE6 := Lib.hid (show RowsIn w6 (.slice BE (exsL cs M).length dE) (exsL cs M) from hS6.at_)
    have HM6 := Lib.hid (show RowsIn w6 (.slice B1 M.length d1) M from by
      obtain ⟨_, _, _, _, e, _, h2, _⟩ := HS6.out
      simp only [Value.agg.injEq, Array.mk.injEq, List.cons.injEq, Value.slice.injEq, and_true, true_and] at e
      obtain ⟨⟨rfl, rfl⟩, rfl, rfl⟩ := e
      exact h2)
    have HA6 := Lib.hid (show ConstAt w6 A1 c1 cs from by
      obtain ⟨_, _, _, _, e, h2, _⟩ := HS6.out
      simp only [Value.agg.injEq, Array.mk.injEq, List.cons.injEq, Value.slice.injEq, and_true, true_and] at e
      obtain ⟨⟨rfl, rfl⟩, rfl, rfl⟩ := e
      exact h2)
    have HB6 := Lib.hid (HB1.out.trans (h16.mono HB1.out.size))
    have HXT := Lib.hid (HXL.out t HTL.out HTS.out)
    have htl4 : t.length ≤ 4 := by have := HTL.out; omega
    obtain ⟨g3, hg3⟩ : ∃ g : Nat, g = w1.heap.size := ⟨_, rfl⟩
    obtain ⟨g5, hg5⟩ : ∃ g : Nat, g = w3.heap.size := ⟨_, rfl⟩
    rw [← hg3] at K6 ⊢
    rw [← hg5] at K5 ⊢
    rw [exsL_len] at *
    have hlk := OrbK.box_lt K6.out
    have hlj := OrbK.box_lt K5.out
    have HSC : Hid (∀ W : World, Below w6.heap.size w6 W → (W.cell? ⟨g3, 0, none⟩ = some (.int .i64 (n : Int)) ∧ W.cell? ⟨g3, 1, none⟩ = some (.slice A1 cs.length c1) ∧ W.cell? ⟨g3, 2, none⟩ = some (.slice B1 M.length d1)) ∧ W.cell? ⟨g5, 0, none⟩ = some (.int .i64 (n : Int)) ∧ W.cell? ⟨g5, 1, none⟩ = some (.slice A3 cs.length c3) ∧ W.cell? ⟨g5, 2, none⟩ = some (.slice B3 K.length d3)) := Lib.hid (fun W k => by
      obtain ⟨a0, a1, a2⟩ := OrbK.row3 K6.out
      obtain ⟨e0, e1, e2⟩ := OrbK.row3 K5.out
      exact ⟨⟨(k.cell (p := ⟨g3, 0, none⟩) hlk).trans a0, (k.cell (p := ⟨g3, 1, none⟩) hlk).trans a1, (k.cell (p := ⟨g3, 2, none⟩) hlk).trans a2⟩, (k.cell (p := ⟨g5, 0, none⟩) hlj).trans e0, (k.cell (p := ⟨g5, 1, none⟩) hlj).trans e1, (k.cell (p := ⟨g5, 2, none⟩) hlj).trans e2⟩)
    have HHS := Lib.hid (fun (W : World) (k : Below w6.heap.size w6 W) X C cc (hC : IntsAt W C X) (hl : X.length ≤ 1048576) => hasTuple_impl n cs M X hf C cc _ W (HS6.out.below k) hC hl)
    have HHC := Lib.hid (fun (W : World) (k : Below w6.heap.size w6 W) X C cc (hC : IntsAt W C X) (hl : X.length ≤ 1048576) => hasTuple_impl n cs K X HFK.out C cc _ W (HC6.out.below k) hC hl)
    clear b0 b1 b2 hcp hb2 hL3 hS3 hb3 hbx h23 k3 k5 h13 htu HTL HTS htA hb5 k6 h15 hex hS6 hS6b hb6 h16 h56 HEX HTU HXL HO1 HB1 HK0 hb1 hg3 hg5
    go_loopw [8, 9, 10] (fun i _ _ wr => ∃ q : Nat, q ≤ M.length ∧ i = .int .i64 q ∧ Below w6.heap.size w6 wr) (fun i _ _ _ => M.length - (intOf i).toNat)
    case atStart => exact ⟨0, Nat.zero_le _, rfl, Below.refl _ _⟩
    case round =>
      obtain ⟨q, hq, rfl, hb⟩ := hrel
      have hdw : Below wr.heap.size wr wr.drew := ⟨rfl, rfl, rfl, Nat.le_refl _, fun _ _ => rfl⟩
      have hbd := hb.trans (hdw.mono hb.size)
      by_cases hlq : q < M.length
      · obtain ⟨be, oe, rfl, hbe, hce⟩ := RowsIn.get (show RowsIn wr (.slice BE M.length dE) (exsL cs M) from RowsIn.below (show RowsIn w6 (.slice BE M.length dE) (exsL cs M) from HE6.out) hb) (by rw [exsL_len]; omega)
        obtain ⟨bm, om, rfl, hbm, hcm⟩ := RowsIn.get (show RowsIn wr (.slice B1 M.length d1) M from RowsIn.below HM6.out hb) (by omega)
        obtain ⟨Ax, cx, hx1, hx2⟩ := hce q (by rw [exsL_len]; exact hlq)
        obtain ⟨Ay, cy, hy1, hy2⟩ := hcm q hlq
        have hmem := HXM.out q hlq
        have hexq : rwAt (exsL cs M) q = exL (numL cs 4) (rwAt M q) := ex_at hlq
        rw [hexq] at hx1 hx2
        have h1 := SetX.ex_tup hn4 HV.out.1 (SetX.valid_mem HV.out _ hmem)
        have h2 := SetX.ex_pat hn4 HV.out hmem
        have h3 := SetX.ex_has hn4 HV.out hmem
        have h4 := SetX.ex_cpl hn4 HV.out hmem
        rw [HKK.out] at h4
        have hpl : (rwAt M q).length ≤ 4 := by
          have := ((mem_allP (by omega)).1 (SetX.valid_mem HV.out _ hmem)).1
          omega
        have hxl : (exL (numL cs 4) (rwAt M q)).length ≤ 4 := by rw [exL_len]; exact hpl
        have hpb : patB cs (exL (numL cs 4) (rwAt M q)) = true := by unfold patB; rw [HV.out.1, h1]; rfl
        have hpa := fun W (k : Below wr.heap.size wr W) => patternOf_impl A1 Ax c1 cx cs (exL (numL cs 4) (rwAt M q)) W ((HA6.out.1.below hb).below k) (hx2.below k) (by omega) (by omega)
        rw [hpb, patR_yes hpb, h2] at hpa
        have hHS := fun W (k : Below wr.heap.size wr W) => HHS.out W (hb.trans (k.mono hb.size)) (exL (numL cs 4) (rwAt M q)) Ax cx (hx2.below k) (by omega)
        have hHC := fun W (k : Below wr.heap.size wr W) => HHC.out W (hb.trans (k.mono hb.size)) (exL (numL cs 4) (rwAt M q)) Ax cx (hx2.below k) (by omega)
        simp only [h3] at hHS
        simp only [h4] at hHC
        have hIN := fun W (k : Below wr.heap.size wr W) A9 c9 (h9 : IntsAt W A9 (rwAt M q)) => lawInts_any A9 Ay c9 cy (rwAt M q) (rwAt M q) W h9 (hy2.below k) (by omega)
        simp only [decide_true] at hIN
        have hqi : (q : Int) < (M.length : Int) := by omega
        have hq0 : (0 : Int) ≤ (q : Int) := by omega
        clear h1 h2 h3 h4 hpb hexq hce hcm hmem
        generalize exL (numL cs 4) (rwAt M q) = X at *
        generalize rwAt M q = p at *
        have HS8 : Hid (∀ W : World, Below wr.heap.size wr W → (W.cell? ⟨be, oe + q, none⟩ = some (.slice Ax X.length cx) ∧ W.cell? ⟨bm, om + q, none⟩ = some (.slice Ay p.length cy)) ∧ (W.cell? ⟨g3, 0, none⟩ = some (.int .i64 (n : Int)) ∧ W.cell? ⟨g3, 1, none⟩ = some (.slice A1 cs.length c1) ∧ W.cell? ⟨g3, 2, none⟩ = some (.slice (some ⟨bm, om, none⟩) M.length d1)) ∧ W.cell? ⟨g5, 0, none⟩ = some (.int .i64 (n : Int)) ∧ W.cell? ⟨g5, 1, none⟩ = some (.slice A3 cs.length c3) ∧ W.cell? ⟨g5, 2, none⟩ = some (.slice B3 K.length d3)) := Lib.hid (fun W k => ⟨⟨(k.cell (p := ⟨be, oe + q, none⟩) hbe).trans hx1, (k.cell (p := ⟨bm, om + q, none⟩) hbm).trans hy1⟩, HSC.out W (hb.trans (k.mono hb.size))⟩)
        obtain ⟨⟨f0, f1⟩, ⟨f2, f3, f4⟩, f5, f6, f7⟩ := HS8.out wr.drew hdw
        have hp1 := hpa wr.drew hdw
        clear hpa
        go_wp2
        go_region_held3 (fun w' => (w'.cell? ⟨be, oe + q, none⟩ = some (.slice Ax X.length cx) ∧ w'.cell? ⟨bm, om + q, none⟩ = some (.slice Ay p.length cy)) ∧ (w'.cell? ⟨g3, 0, none⟩ = some (.int .i64 (n : Int)) ∧ w'.cell? ⟨g3, 1, none⟩ = some (.slice A1 cs.length c1) ∧ w'.cell? ⟨g3, 2, none⟩ = some (.slice (some ⟨bm, om, none⟩) M.length d1)) ∧ w'.cell? ⟨g5, 0, none⟩ = some (.int .i64 (n : Int)) ∧ w'.cell? ⟨g5, 1, none⟩ = some (.slice A3 cs.length c3) ∧ w'.cell? ⟨g5, 2, none⟩ = some (.slice B3 K.length d3))
          (with_reducible exact ⟨⟨by assumption, by assumption⟩, ⟨by assumption, by assumption, by assumption⟩, by assumption, by assumption, by assumption⟩)
          (first
          | (go_at_call 11; (with_reducible refine hp1.mono ?_); rintro e w7 ⟨v7, rfl, ho7, hb7⟩; obtain ⟨A9, c9, hv9, hI9⟩ := own_intsAt ho7; subst hv9; have fr7 := hdw.trans (hb7.mono hdw.size); obtain ⟨⟨j0, j1⟩, ⟨j2, j3, j4⟩, j5, j6, j7⟩ := HS8.out w7 fr7)
          | fail)
        clear f0 f1 f2 f3 f4 f5 f6 f7 hp1 hdw hbd hb7 ho7
        have hdv : Below w7.heap.size w7 w7.drew := ⟨rfl, rfl, rfl, Nat.le_refl _, fun _ _ => rfl⟩
        have fr8 := fr7.trans (hdv.mono fr7.size)
        have hi1 := hIN w7.drew fr8 A9 c9 (hI9.below hdv)
        obtain ⟨⟨f0, f1⟩, ⟨f2, f3, f4⟩, f5, f6, f7⟩ := HS8.out w7.drew fr8
        clear hIN hI9
        go_wp2
        go_region_held3 (fun w' => (w'.cell? ⟨be, oe + q, none⟩ = some (.slice Ax X.length cx) ∧ w'.cell? ⟨bm, om + q, none⟩ = some (.slice Ay p.length cy)) ∧ (w'.cell? ⟨g3, 0, none⟩ = some (.int .i64 (n : Int)) ∧ w'.cell? ⟨g3, 1, none⟩ = some (.slice A1 cs.length c1) ∧ w'.cell? ⟨g3, 2, none⟩ = some (.slice (some ⟨bm, om, none⟩) M.length d1)) ∧ w'.cell? ⟨g5, 0, none⟩ = some (.int .i64 (n : Int)) ∧ w'.cell? ⟨g5, 1, none⟩ = some (.slice A3 cs.length c3) ∧ w'.cell? ⟨g5, 2, none⟩ = some (.slice B3 K.length d3))
          (with_reducible exact ⟨⟨by assumption, by assumption⟩, ⟨by assumption, by assumption, by assumption⟩, by assumption, by assumption, by assumption⟩)
          (first
          | (go_at_call 18; (with_reducible refine hi1.mono ?_); rintro e wa ⟨rfl, hba⟩; have fra := fr8.trans (hba.mono fr8.size); obtain ⟨⟨i0, i1⟩, ⟨i2, i3, i4⟩, i5, i6, i7⟩ := HS8.out wa fra; have hh1 := hHS wa fra)
          | (go_at_call 19; (with_reducible refine hh1.mono ?_); rintro e wb ⟨rfl, hbb⟩; have frb := fra.trans (hbb.mono fra.size); obtain ⟨⟨l0, l1⟩, ⟨l2, l3, l4⟩, l5, l6, l7⟩ := HS8.out wb frb; have hh2 := hHC wb frb)
          | (go_at_call 19; (with_reducible refine hh2.mono ?_); rintro e wd ⟨rfl, hbd2⟩; have frd := frb.trans (hbd2.mono frb.size); obtain ⟨⟨m0, m1⟩, ⟨m2, m3, m4⟩, m5, m6, m7⟩ := HS8.out wd frd)
          | fail)
        have hbz := hb.trans (frd.mono hb.size)
        clear f0 f1 f2 f3 f4 f5 f6 f7 j0 j1 j2 j3 j4 j5 j6 j7 i0 i1 i2 i3 i4 i5 i6 i7 l0 l1 l2 l3 l4 l5 l6 l7 m0 m1 m2 m3 m4 m5 m6 m7 hi1 hh1 hh2 hHS hHC fr7 fr8 fra frb frd hba hbb hbd2 hdv HS8 hx1 hx2 hy1 hy2 hbe hbm hb
        go_wp2
        refine ⟨⟨q + 1, by omega, by go_num, hbz⟩, ?_⟩
        simp only [intOf]
        omega
      · have e : q = M.length := by omega
        subst e
        have hps := patternsOf_impl n cs.length
        have hpr : patsR n cs.length = allP n cs.length := by
          have hw : widB (n : Int) = true := widB_iff.2 (by omega)
          have hk : kB (cs.length : Int) = true := by unfold kB; simp; omega
          unfold patsR
          rw [hw, hk, show ((n : Int).toNat) = n by omega]
          rfl
        rw [hpr] at hps
        generalize allP n cs.length = P at hps hKL
        have hs1 := HHS.out wr.drew hbd t At ct (HT6.out.below hbd) (by omega)
        have hc1 := HHC.out
        have hxt := HXT.out
        have hHC2 := fun W (k : Below w6.heap.size w6 W) => HHC.out W k t At ct (HT6.out.below k) (by omega)
        rw [hxt] at hHC2
        generalize hasTB n cs M t = bb at hs1 hHC2
        have hne : (bb != !bb) = true := by cases bb <;> rfl
        have hdd : ((M.length : Int) + (K.length : Int) == (P.length : Int)) = true := by simp; omega
        have hKl := HFK.out.2.1
        have hwr : IntKind.i64.wrap ((M.length : Int) + (K.length : Int)) = (M.length : Int) + (K.length : Int) := IntWalk.i64_in _ (by omega)
        have HWD : Hid ((IntKind.i64.wrap ((M.length : Int) + (K.length : Int)) == (P.length : Int)) = true) := Lib.hid (by rw [hwr]; exact hdd)
        clear hwr hdd hKl
        obtain ⟨⟨f2, f3, f4⟩, f5, f6, f7⟩ := HSC.out wr.drew hbd
        clear hc1 hxt hpr hKL
        go_wp2
        go_region_held3 (fun w' => (w'.cell? ⟨g3, 0, none⟩ = some (.int .i64 (n : Int)) ∧ w'.cell? ⟨g3, 1, none⟩ = some (.slice A1 cs.length c1) ∧ w'.cell? ⟨g3, 2, none⟩ = some (.slice B1 M.length d1)) ∧ w'.cell? ⟨g5, 0, none⟩ = some (.int .i64 (n : Int)) ∧ w'.cell? ⟨g5, 1, none⟩ = some (.slice A3 cs.length c3) ∧ w'.cell? ⟨g5, 2, none⟩ = some (.slice B3 K.length d3))
          (with_reducible exact ⟨⟨by assumption, by assumption, by assumption⟩, by assumption, by assumption, by assumption⟩)
          (first
          | (go_at_call 19; (with_reducible refine hs1.mono ?_); rintro e wa ⟨rfl, hba⟩; have fra := hbd.trans (hba.mono hbd.size); obtain ⟨⟨i2, i3, i4⟩, i5, i6, i7⟩ := HSC.out wa fra; have hh2 := hHC2 wa fra)
          | (go_at_call 19; (with_reducible refine hh2.mono ?_); rintro e wb ⟨rfl, hbb⟩; have frb := fra.trans (hbb.mono fra.size); obtain ⟨⟨l2, l3, l4⟩, l5, l6, l7⟩ := HSC.out wb frb)
          | (go_at_call 20; (with_reducible refine (hps wb).mono ?_); rintro e wd ⟨v9, S9, rfl, hS9, _, hbd2⟩; obtain ⟨B9, d9, hB9⟩ := RowsIn.form (ls := P) hS9.at_; subst hB9; have frd := frb.trans (hbd2.mono frb.size); obtain ⟨⟨m2, m3, m4⟩, m5, m6, m7⟩ := HSC.out wd frd)
          | fail)
        have hbz := HB6.out.trans (frd.mono HB6.out.size)
        clear f2 f3 f4 f5 f6 f7 i2 i3 i4 i5 i6 i7 l2 l3 l4 l5 l6 l7 m2 m3 m4 m5 m6 m7 hs1 hh2 hHC2 hps fra frb frd hba hbb hbd2 hS9 hb hdw hbd
        go_wp2
        go_ret
        exact ⟨bool_end HWD.out, hbz⟩
  · have hbig : 4096 < n0 := by omega
    clear hn hA0
    go_enter Try.func4, Try.ntmps4
    go_wp2_with (go_at_call 9; refine (big_yes _ _ _ _ hbig (by omega)).mono ?_; rintro e w' ⟨rfl, rfl⟩)
    go_ret
    exact ⟨rfl, Below.refl _ _⟩

set_option maxRecDepth 100000 in
theorem lifted (os : Os) (started : os.Started) (H : Type) (enc : TypeId × Value → H) :
    ReturnsInHanded {} Try.checked os 4 .any (Rows.fnSetHasSpec.pre6 enc Try.prog Try.f4 Rows.fnSetHasRow.domain false) (Rows.fnSetHasSpec.post enc Try.prog Try.f4 false true false false) := by
  refine returnsInHanded_of_change (C := Try.checked) own started (by kernel_rfl) Try.func4
    (ChangeSpec.witness6 (enc := enc) (C := Try.checked) false ⟨#[], #[.slice none 0 0], []⟩ 8 (by kernel_rfl) (by kernel_rfl) (by kernel_rfl) (by kernel_rfl)) ?_
  intro W base args ds gs before hval0 hW hcnd _
  have hval : ∀ (j : Nat) t v, Try.f4.params[j]? = some t → args[j]? = some v → Value.okWide Try.prog W .any base t v := hval0
  have hW' := hW
  obtain ⟨p, q, hA0, hV, rfl, hfz, hnd⟩ := hW
  have hA : DataW.TrodAll enc Try.prog W 0 (fun _ => true) true Try.f4.params.toList args.toList ds p := hA0
  rw [Try.params4] at hA hval
  obtain ⟨v0, vs0, d0, ds0, p0, q0, hargs, rfl, rfl, h0, r0⟩ := trodAll_cons hA
  obtain ⟨rfl, rfl, rfl⟩ := trodAll_nil r0
  obtain rfl : args = #[v0] := by cases args; simp_all
  obtain ⟨rfl, rfl⟩ := trodVars_none hV
  have k0 := h0
  have lt0 : ∀ x ∈ p0, x.block < W.heap.size := by obtain ⟨m, hm⟩ := k0; exact DataW.trod_lt m _ _ _ hm
  obtain ⟨A0, n0, c0, rfl⟩ := okWide_slice Try.underlying22 (hval 0 22 v0 rfl rfl)
  obtain ⟨w0, m0⟩ := open_bytesL h0
  clear hA0 hval0
  refine (walk W A0 c0 n0 w0 (open_bytesZ h0) m0).mono fun e W' ⟨he, bel⟩ => ?_
  subst he
  exact ⟨_, rfl, _, _, _, [], _, [], hW', trodAll_mk1 (shut_bool Try.underlying4 _), (trodAll_cons_mk (Below.trod laidOut (by kernel_rfl) (of_decide_eq_true (by kernel_rfl)) k0 bel lt0) trodAll_mk0), rfl, bel.frame _, fun h => by cases h⟩

theorem over : Rows.fnSetHasRow.holds Try.pinned (OpenSpec.ofChange Rows.fnSetHasSpec) :=
  OpenClaim.holds_of_wide 4 Try.f4 rfl rfl rfl rfl rfl rfl rfl ⟨rfl, rfl, rfl, rfl, rfl⟩ rfl rfl rfl rfl rfl (by kernel_rfl) Try.func4 (by kernel_rfl)
    (of_decide_eq_true (by kernel_rfl)) (by unfold Func.isWrapper; first | (rw [if_pos (by decide +kernel)]; kernel_rfl) | (rw [if_neg (by decide +kernel)]; exact ⟨rfl, rfl⟩))
    (fun os started H enc _ => lifted os started H enc)

theorem proved : Rows.FnSetHasSaid := over
#print axioms proved
end Go.Proofs.Ytnamlgacjhnpnaa.fnSetHas
