/-
  The law FnCountWords returns true for every code of bytes: words are counted as they are told one by one. No condition.
-/
import Derived.Test.YtcginiklekdbgaaKCountWords7
import Derived.Test.YtcginiklekdbgaaKCountWords15
import Derived.Test.YtcginiklekdbgaaKCountWords17
import Derived.Test.YtcginiklekdbgaaKCountWords2
import Derived.Test.YtcginiklekdbgaaKCountWords21
import Derived.Test.YtcginiklekdbgaaKCountWords22
namespace Go.Proofs.Ytcginiklekdbgaa.fnCountWords
open Go.ChangeShapes Go.WideShapes Go.ChangeAt Go.RowKit
set_option linter.unusedVariables false

theorem big_no (A : Option Addr) (n c : Nat) (w : World) (h : n ≤ 4096) : Calls Try.prog 5 #[.slice A n c] w fun e w' => e = .returned (.bool false) ∧ w = w' := by
  have k0 : decide ((4096 : Int) < n) = false := by simp; omega
  go_enter Try.func5, Try.ntmps5
  go_wp2
  go_ret
  exact ⟨rfl, rfl⟩

theorem big_yes (A : Option Addr) (n c : Nat) (w : World) (h : 4096 < n) (h2 : n ≤ 9223372036854775807) : Calls Try.prog 5 #[.slice A n c] w fun e w' => e = .returned (.bool true) ∧ w = w' := by
  have k0 : decide ((4096 : Int) < n) = true := by simp; omega
  go_enter Try.func5, Try.ntmps5
  go_wp2
  go_ret
  exact ⟨rfl, rfl⟩

theorem open_bytesZ {H : Type} {enc : TypeId × Value → H} {W : World} {A : Option Addr} {n c : Nat} {d : DataW H} {p : List MemPlace}
    (h : DataW.Trod enc Try.prog W 0 (fun _ => true) true 22 (.slice A n c) d p) : A = none → c = 0 := by
  obtain ⟨fuel, hf⟩ := h
  rcases open_ints Try.underlying22 Try.underlying5 (by kernel_rfl) hf with ⟨hcs, _⟩ | ⟨x, len, cap, zs, hcs, _⟩
  · simp [Value.cells] at hcs
    exact fun _ => hcs.2.2
  · simp [Value.cells] at hcs
    rw [hcs.1]
    intro e
    cases e

theorem inN_all {k n : Nat} (hk : k < 64) (hn : n < 4) : allB (([0, 1, 2, 3] : List Int).take n) (CwT.wordK k) = CwT.inN n k := by
  unfold allB CwT.wordK CwT.inN
  simp only [List.all_cons, List.all_nil, Bool.and_true]
  rw [CwT.has_low hn (by omega), CwT.has_low hn (by omega), CwT.has_low hn (by omega)]

open Go.Sort in
set_option maxRecDepth 100000 in
set_option maxHeartbeats 8000000 in
theorem walk (w : World) (A0 : Option Addr) (c0 n0 : Nat) (hA0 : BytesIn w A0 n0) (hz0 : A0 = none → c0 = 0) (hm0 : n0 ≤ maxLen) :
    Calls Try.prog 4 #[.slice A0 n0 c0] w fun e w' => e = .returned (.bool true) ∧ Below w.heap.size w w' := by
  obtain ⟨i0, hi0, hzz, hz1, hz2⟩ := info_parts DrawN.int_info
  have HS := Lib.hid hz2
  clear hz2
  unfold maxLen at hm0
  by_cases hn : n0 ≤ 4096
  · have HA0 := Lib.hid hA0
    have HZ0 := Lib.hid hz0
    clear hA0 hz0
    have hdr := drawMachines_any A0 n0 c0 w HA0.out (by omega)
    go_enter Try.func4, Try.ntmps4
    go_wp2_with (first | (go_at_call 5; refine (big_no _ _ _ _ hn).mono ?_; rintro e w' ⟨rfl, rfl⟩) | fail)
    refine hdr.mono ?_
    rintro e w1 ⟨t, A, B, A2, B2, c, d, c2, d2, n2, m2, s2, r2, rfl, hmb, hst, hrg, hm, hb1⟩
    clear hdr
    have hb2 : Below w1.heap.size w1 ((w1.alloc (.cells #[.int .i64 t.st, .int .i64 t.rg, .slice A t.ac.length c, .slice B t.mv.length d] 27)).alloc (.cells #[.int .i64 s2, .int .i64 r2, .slice A2 n2 c2, .slice B2 m2 d2] 27)) := ((Below.refl _ _).alloc (Nat.le_refl _) _).alloc (by simp) _
    have k0 : ((w1.alloc (.cells #[.int .i64 t.st, .int .i64 t.rg, .slice A t.ac.length c, .slice B t.mv.length d] 27)).alloc (.cells #[.int .i64 s2, .int .i64 r2, .slice A2 n2 c2, .slice B2 m2 d2] 27)).heap[w1.heap.size]? = some (.cells #[.int .i64 t.st, .int .i64 t.rg, .slice A t.ac.length c, .slice B t.mv.length d] 27 (0, 0)) := (Below.heap_alloc _ _ _ (by simp)).trans (heap_alloc_new w1 _)
    have K := Lib.hid k0
    have HBB := Lib.hid (hb1.trans (hb2.mono hb1.size))
    have HM := Lib.hid (hm.below hb2)
    have hgd := good_of hmb
    have hfm : FitM t := ⟨by have := hgd.al; have := hgd.s9; omega, by
      have h1 := hgd.ml
      have h2 : t.st * casZ t.rg ≤ 9 * 8 := Int.mul_le_mul hgd.s9 hgd.casZ_le.2 (by have := hgd.casZ_le; omega) (by omega)
      omega⟩
    obtain ⟨n, hn4, hnm⟩ : ∃ n : Nat, n < 4 ∧ n0 % 4 = n := ⟨n0 % 4, by omega, rfl⟩
    have hcw : cwR t 3 (n : Int) = CwT.upTo t n 64 := by rw [cwR_yes hmb (by omega) (by omega), CwT.all_words t n hn4 (by have := hgd.r3; omega)]; rfl
    have HCI := Lib.hid (fun (W : World) (k : Below ((w1.alloc (.cells #[.int .i64 t.st, .int .i64 t.rg, .slice A t.ac.length c, .slice B t.mv.length d] 27)).alloc (.cells #[.int .i64 s2, .int .i64 r2, .slice A2 n2 c2, .slice B2 m2 d2] 27)).heap.size ((w1.alloc (.cells #[.int .i64 t.st, .int .i64 t.rg, .slice A t.ac.length c, .slice B t.mv.length d] 27)).alloc (.cells #[.int .i64 s2, .int .i64 r2, .slice A2 n2 c2, .slice B2 m2 d2] 27)) W) => (by have h1 := countWords_impl t hfm 3 (n : Int) (.agg #[.int .i64 t.st, .int .i64 t.rg, .slice A t.ac.length c, .slice B t.mv.length d]) W (HM.out.below k); rw [hcw] at h1; exact h1 : Calls Try.prog 15 #[(.agg #[.int .i64 t.st, .int .i64 t.rg, .slice A t.ac.length c, .slice B t.mv.length d]), .int .i64 3, .int .i64 n] W (fun e w' => e = .returned (.int .i64 (CwT.upTo t n 64)) ∧ Below W.heap.size W w')))
    have HCS := Lib.hid (fun (W : World) (k : Below ((w1.alloc (.cells #[.int .i64 t.st, .int .i64 t.rg, .slice A t.ac.length c, .slice B t.mv.length d] 27)).alloc (.cells #[.int .i64 s2, .int .i64 r2, .slice A2 n2 c2, .slice B2 m2 d2] 27)).heap.size ((w1.alloc (.cells #[.int .i64 t.st, .int .i64 t.rg, .slice A t.ac.length c, .slice B t.mv.length d] 27)).alloc (.cells #[.int .i64 s2, .int .i64 r2, .slice A2 n2 c2, .slice B2 m2 d2] 27)) W) => (by have h1 := countWords_spec t hfm 3 (n : Int) (.agg #[.int .i64 t.st, .int .i64 t.rg, .slice A t.ac.length c, .slice B t.mv.length d]) W (HM.out.below k); rw [hcw] at h1; exact h1 : Calls Try.prog 16 #[(.agg #[.int .i64 t.st, .int .i64 t.rg, .slice A t.ac.length c, .slice B t.mv.length d]), .int .i64 3, .int .i64 n] W (fun e w' => e = .returned (.int .i64 (CwT.upTo t n 64)) ∧ Below W.heap.size W w')))
    have HAC := Lib.hid (fun (k : Nat) (hk : k < 64) (W : World) (h : Below ((w1.alloc (.cells #[.int .i64 t.st, .int .i64 t.rg, .slice A t.ac.length c, .slice B t.mv.length d] 27)).alloc (.cells #[.int .i64 s2, .int .i64 r2, .slice A2 n2 c2, .slice B2 m2 d2] 27)).heap.size ((w1.alloc (.cells #[.int .i64 t.st, .int .i64 t.rg, .slice A t.ac.length c, .slice B t.mv.length d] 27)).alloc (.cells #[.int .i64 s2, .int .i64 r2, .slice A2 n2 c2, .slice B2 m2 d2] 27)) W) (A9 : Option Addr) (c9 : Nat) (hA9 : IntsAt W A9 (CwT.wordK k)) => (by have h1 := acceptsWord_impl t hfm (.agg #[.int .i64 t.st, .int .i64 t.rg, .slice A t.ac.length c, .slice B t.mv.length d]) A9 c9 (CwT.wordK k) W (HM.out.below h) hA9 (by simp [CwT.wordK]); have h2 : accB t (CwT.wordK k) = lastB t (CwT.wordK k) := (by unfold accB runOk; rw [hmb, CwT.word_ok hk]; rfl); rw [h2] at h1; exact h1 : Calls Try.prog 13 #[(.agg #[.int .i64 t.st, .int .i64 t.rg, .slice A t.ac.length c, .slice B t.mv.length d]), .slice A9 3 c9] W (fun e w' => e = .returned (.bool (lastB t (CwT.wordK k))) ∧ Below W.heap.size W w')))
    have HSC : Hid (∀ W : World, Below ((w1.alloc (.cells #[.int .i64 t.st, .int .i64 t.rg, .slice A t.ac.length c, .slice B t.mv.length d] 27)).alloc (.cells #[.int .i64 s2, .int .i64 r2, .slice A2 n2 c2, .slice B2 m2 d2] 27)).heap.size ((w1.alloc (.cells #[.int .i64 t.st, .int .i64 t.rg, .slice A t.ac.length c, .slice B t.mv.length d] 27)).alloc (.cells #[.int .i64 s2, .int .i64 r2, .slice A2 n2 c2, .slice B2 m2 d2] 27)) W → W.cell? ⟨w1.heap.size, 0, none⟩ = some (.int .i64 t.st) ∧ W.cell? ⟨w1.heap.size, 1, none⟩ = some (.int .i64 t.rg) ∧ W.cell? ⟨w1.heap.size, 2, none⟩ = some (.slice A t.ac.length c) ∧ W.cell? ⟨w1.heap.size, 3, none⟩ = some (.slice B t.mv.length d)) := Lib.hid (fun W k => DrawM.box4 ((k.block _ (DrawM.blt K.out)).trans K.out))
    clear hb1 hb2 k0 hm hgd hfm hcw hmb
    go_wp2
    have hnz : ((n0 : Int) % 4) = (n : Int) := by omega
    rw [hnz]
    generalize (w1.alloc (.cells #[.int .i64 t.st, .int .i64 t.rg, .slice A t.ac.length c, .slice B t.mv.length d] 27)).alloc (.cells #[.int .i64 s2, .int .i64 r2, .slice A2 n2 c2, .slice B2 m2 d2] 27) = w2 at HCI HCS HAC HSC HBB ⊢
    clear HM K hnz hnm
    generalize w1.heap.size = g at HSC ⊢
    have hni : (n : Int) < 4 := by omega
    have hn0i : (0 : Int) ≤ (n : Int) := by omega
    have hn4i : (n : Int) ≤ 4 := by omega
    go_loopw [6, 8, 9] (fun cnt kk _ wr => ∃ q : Nat, q ≤ 64 ∧ kk = .int .i64 q ∧ cnt = .int .i64 (CwT.upTo t n q) ∧ Below w2.heap.size w2 wr) (fun _ kk _ _ => 64 - (intOf kk).toNat)
    case atStart => exact ⟨0, Nat.zero_le _, rfl, by simp [CwT.upTo, sumI], Below.refl _ _⟩
    case round =>
      obtain ⟨q, hq, rfl, rfl, hb⟩ := hrel
      by_cases hlt : q < 64
      · have hli : (q : Int) < 64 := by omega
        have hA3 : IntsAt (wr.alloc (.cells #[.int .i64 ((q : Int) % 4), .int .i64 ((q : Int) / 4 % 4), .int .i64 ((q : Int) / 16)] 3)) (some ⟨wr.heap.size, 0, none⟩) (CwT.wordK q) := by rw [CwT.wordK_eq]; exact lit_ints (heap_alloc_new wr _)
        have hb3 : Below wr.heap.size wr (wr.alloc (.cells #[.int .i64 ((q : Int) % 4), .int .i64 ((q : Int) / 4 % 4), .int .i64 ((q : Int) / 16)] 3)) := (Below.refl _ _).alloc (Nat.le_refl _) _
        have hb4 : Below (wr.alloc (.cells #[.int .i64 ((q : Int) % 4), .int .i64 ((q : Int) / 4 % 4), .int .i64 ((q : Int) / 16)] 3)).heap.size (wr.alloc (.cells #[.int .i64 ((q : Int) % 4), .int .i64 ((q : Int) / 4 % 4), .int .i64 ((q : Int) / 16)] 3)) ((wr.alloc (.cells #[.int .i64 ((q : Int) % 4), .int .i64 ((q : Int) / 4 % 4), .int .i64 ((q : Int) / 16)] 3)).alloc (.cells #[.int .i64 0, .int .i64 1, .int .i64 2, .int .i64 3] 3)) := (Below.refl _ _).alloc (Nat.le_refl _) _
        have hA4 := hA3.below hb4
        have hL4 : IntsAt ((wr.alloc (.cells #[.int .i64 ((q : Int) % 4), .int .i64 ((q : Int) / 4 % 4), .int .i64 ((q : Int) / 16)] 3)).alloc (.cells #[.int .i64 0, .int .i64 1, .int .i64 2, .int .i64 3] 3)) (some ⟨wr.heap.size + 1, 0, none⟩) (([0, 1, 2, 3] : List Int).take n) := CwT.take_ints (by have h := lit_ints (heap_alloc_new (wr.alloc (.cells #[.int .i64 ((q : Int) % 4), .int .i64 ((q : Int) / 4 % 4), .int .i64 ((q : Int) / 16)] 3)) (.cells #[.int .i64 0, .int .i64 1, .int .i64 2, .int .i64 3] 3)) (l := [0, 1, 2, 3]); rw [World.size_alloc] at h; exact h)
        have hal := lawAllB_any (some ⟨wr.heap.size + 1, 0, none⟩) (some ⟨wr.heap.size, 0, none⟩) 4 3 _ _ ((wr.alloc (.cells #[.int .i64 ((q : Int) % 4), .int .i64 ((q : Int) / 4 % 4), .int .i64 ((q : Int) / 16)] 3)).alloc (.cells #[.int .i64 0, .int .i64 1, .int .i64 2, .int .i64 3] 3)) hL4 hA4 (by simp; omega) (by simp [CwT.wordK])
        rw [CwT.take_len hn4, inN_all hlt hn4, show (CwT.wordK q).length = 3 from rfl] at hal
        have hbz := hb.trans ((hb3.trans (hb4.mono hb3.size)).mono hb.size)
        have hac := HAC.out q hlt _ hbz (some ⟨wr.heap.size, 0, none⟩) 3 hA4
        obtain ⟨z0, z1, z2, z3⟩ := HSC.out _ hbz
        have hub := CwT.upTo_bound t n q
        have hun := CwT.upTo_next t n q
        generalize CwT.upTo t n q = u at hub hun ⊢
        have hwr : IntKind.i64.wrap (u + 1) = u + 1 := IntWalk.i64_in _ (by omega)
        have HBZ := Lib.hid hbz
        have HUN := Lib.hid hun
        clear hA3 hb3 hb4 hA4 hL4 hb hbz hun
        cases hin : CwT.inN n q with
        | false =>
          rw [hin] at hal
          have HF : Hid (CwT.f64 t n q = 0) := Lib.hid (by unfold CwT.f64; rw [hin]; rfl)
          clear hac
          go_wp2_with (first | (go_at_call 14; (with_reducible refine hal.mono ?_); rintro e w' ⟨rfl, rfl⟩) | fail)
          refine ⟨⟨q + 1, by omega, by go_num, by rw [HUN.out, HF.out, Int.add_zero], HBZ.out⟩, ?_⟩
          simp only [intOf]
          omega
        | true =>
          rw [hin] at hal
          cases hla : lastB t (CwT.wordK q) with
          | false =>
            rw [hla] at hac
            have HF : Hid (CwT.f64 t n q = 0) := Lib.hid (by unfold CwT.f64; rw [hin, hla]; rfl)
            go_wp2_with (first | (go_at_call 14; (with_reducible refine hal.mono ?_); rintro e w' ⟨rfl, rfl⟩) | (go_at_call 13; (with_reducible refine hac.mono ?_); rintro e w5 ⟨rfl, hb5⟩) | fail)
            have hb6 := HBZ.out.trans (hb5.mono HBZ.out.size)
            refine ⟨⟨q + 1, by omega, by go_num, by rw [HUN.out, HF.out, Int.add_zero], hb6⟩, ?_⟩
            simp only [intOf]
            omega
          | true =>
            rw [hla] at hac
            have HF : Hid (CwT.f64 t n q = 1) := Lib.hid (by unfold CwT.f64; rw [hin, hla]; rfl)
            go_wp2_with (first | (go_at_call 14; (with_reducible refine hal.mono ?_); rintro e w' ⟨rfl, rfl⟩) | (go_at_call 13; (with_reducible refine hac.mono ?_); rintro e w5 ⟨rfl, hb5⟩) | fail)
            have hb6 := HBZ.out.trans (hb5.mono HBZ.out.size)
            refine ⟨⟨q + 1, by omega, by go_num, by rw [HUN.out, HF.out], hb6⟩, ?_⟩
            simp only [intOf]
            omega
      · have e : q = 64 := by omega
        subst e
        generalize CwT.upTo t n 64 = u at HCI HCS ⊢
        obtain ⟨z0, z1, z2, z3⟩ := HSC.out _ hb
        have hc1 := HCI.out wr hb
        go_wp2_with (first | (go_at_call 15; (with_reducible refine hc1.mono ?_); rintro e w5 ⟨rfl, hb5⟩; have hb6 := hb.trans (hb5.mono hb.size); have hc2 := HCS.out w5 hb6; obtain ⟨y0, y1, y2, y3⟩ := HSC.out _ hb6) | (go_at_call 16; (with_reducible refine hc2.mono ?_); rintro e w6 ⟨rfl, hb7⟩; have hb8 := hb6.trans (hb7.mono hb6.size)) | fail)
        go_ret
        exact ⟨bool_end (by simp), HBB.out.trans (hb8.mono HBB.out.size)⟩
  · have hbig : 4096 < n0 := by omega
    clear hn hA0
    go_enter Try.func4, Try.ntmps4
    go_wp2_with (go_at_call 5; refine (big_yes _ _ _ _ hbig (by omega)).mono ?_; rintro e w' ⟨rfl, rfl⟩)
    go_ret
    exact ⟨rfl, Below.refl _ _⟩

set_option maxRecDepth 100000 in
theorem lifted (os : Os) (started : os.Started) (H : Type) (enc : TypeId × Value → H) :
    ReturnsInHanded {} Try.checked os 4 .any (Rows.fnCountWordsSpec.pre6 enc Try.prog Try.f4 Rows.fnCountWordsRow.domain false) (Rows.fnCountWordsSpec.post enc Try.prog Try.f4 false true false false) := by
  refine returnsInHanded_of_change (C := Try.checked) own started (by kernel_rfl) Try.func4
    (ChangeSpec.witness6 (enc := enc) (C := Try.checked) false ⟨#[], #[.slice none 0 0], []⟩ 8 (by kernel_rfl) (by kernel_rfl) (by kernel_rfl) (by kernel_rfl)) ?_
  intro W base args ds gs before hval0 hW hcnd _
  have hval : ∀ (j : Nat) t v, Try.f4.params[j]? = some t → args[j]? = some v → Value.okWide Try.prog W .any base t v := hval0
  have hW' := hW
  obtain ⟨p, q, hA0, hV, rfl, hfz, hnd⟩ := hW
  have hA : DataW.TrodAll enc Try.prog W 0 (fun _ => true) true Try.f4.params.toList args.toList ds p := hA0
  rw [Try.params4] at hA hval
  obtain ⟨v0, vs0, d0, ds0, p0, q0, hargs, rfl, rfl, h0, r0⟩ := trodAll_cons hA
  obtain ⟨rfl, rfl, rfl⟩ := trodAll_nil r0
  obtain rfl : args = #[v0] := by cases args; simp_all
  obtain ⟨rfl, rfl⟩ := trodVars_none hV
  have k0 := h0
  have lt0 : ∀ x ∈ p0, x.block < W.heap.size := by obtain ⟨m, hm⟩ := k0; exact DataW.trod_lt m _ _ _ hm
  obtain ⟨A0, n0, c0, rfl⟩ := okWide_slice Try.underlying22 (hval 0 22 v0 rfl rfl)
  obtain ⟨w0, m0⟩ := open_bytesL h0
  clear hA0 hval0
  refine (walk W A0 c0 n0 w0 (open_bytesZ h0) m0).mono fun e W' ⟨he, bel⟩ => ?_
  subst he
  exact ⟨_, rfl, _, _, _, [], _, [], hW', trodAll_mk1 (shut_bool Try.underlying4 _), (trodAll_cons_mk (Below.trod laidOut (by kernel_rfl) (of_decide_eq_true (by kernel_rfl)) k0 bel lt0) trodAll_mk0), rfl, bel.frame _, fun h => by cases h⟩

theorem over : Rows.fnCountWordsRow.holds Try.pinned (OpenSpec.ofChange Rows.fnCountWordsSpec) :=
  OpenClaim.holds_of_wide 4 Try.f4 rfl rfl rfl rfl rfl rfl rfl ⟨rfl, rfl, rfl, rfl, rfl⟩ rfl rfl rfl rfl rfl (by kernel_rfl) Try.func4 (by kernel_rfl)
    (of_decide_eq_true (by kernel_rfl)) (by unfold Func.isWrapper; first | (rw [if_pos (by decide +kernel)]; kernel_rfl) | (rw [if_neg (by decide +kernel)]; exact ⟨rfl, rfl⟩))
    (fun os started H enc _ => lifted os started H enc)

theorem proved : Rows.FnCountWordsSaid := over
#print axioms proved
end Go.Proofs.Ytcginiklekdbgaa.fnCountWords
