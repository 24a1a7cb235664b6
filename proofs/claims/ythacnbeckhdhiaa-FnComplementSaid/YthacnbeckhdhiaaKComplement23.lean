/-
  The law FnComplement returns true for every code of bytes: exactly one of a machine and its complement accepts a word, and together they accept all words. No condition.
-/
import Derived.Test.YthacnbeckhdhiaaKComplement7
import Derived.Test.YthacnbeckhdhiaaKComplement17
import Derived.Test.YthacnbeckhdhiaaKComplement19
import Derived.Test.YthacnbeckhdhiaaKComplement20
import Derived.Test.YthacnbeckhdhiaaKComplement21
import Derived.Test.YthacnbeckhdhiaaKComplement2
import Derived.Test.YthacnbeckhdhiaaKComplement22
namespace Go.Proofs.Ythacnbeckhdhiaa.fnComplement
open Go.ChangeShapes Go.WideShapes Go.ChangeAt Go.RowKit
set_option linter.unusedVariables false

theorem big_no (A : Option Addr) (n c : Nat) (w : World) (h : n ≤ 4096) : Calls Try.prog 4 #[.slice A n c] w fun e w' => e = .returned (.bool false) ∧ w = w' := by
  have k0 : decide ((4096 : Int) < n) = false := by simp; omega
  go_enter Try.func4, Try.ntmps4
  go_wp2
  go_ret
  exact ⟨rfl, rfl⟩

theorem big_yes (A : Option Addr) (n c : Nat) (w : World) (h : 4096 < n) (h2 : n ≤ 9223372036854775807) : Calls Try.prog 4 #[.slice A n c] w fun e w' => e = .returned (.bool true) ∧ w = w' := by
  have k0 : decide ((4096 : Int) < n) = true := by simp; omega
  go_enter Try.func4, Try.ntmps4
  go_wp2
  go_ret
  exact ⟨rfl, rfl⟩

theorem open_bytesZ {H : Type} {enc : TypeId × Value → H} {W : World} {A : Option Addr} {n c : Nat} {d : DataW H} {p : List MemPlace}
    (h : DataW.Trod enc Try.prog W 0 (fun _ => true) true 22 (.slice A n c) d p) : A = none → c = 0 := by
  obtain ⟨fuel, hf⟩ := h
  rcases open_ints Try.underlying22 Try.underlying5 (by kernel_rfl) hf with ⟨hcs, _⟩ | ⟨x, len, cap, zs, hcs, _⟩
  · simp [Value.cells] at hcs
    exact fun _ => hcs.2.2
  · simp [Value.cells] at hcs
    rw [hcs.1]
    intro e
    cases e

open Go.Sort in
set_option maxRecDepth 100000 in
set_option maxHeartbeats 8000000 in
theorem walk (w : World) (A0 : Option Addr) (c0 n0 : Nat) (hA0 : BytesIn w A0 n0) (hz0 : A0 = none → c0 = 0) (hm0 : n0 ≤ maxLen) :
    Calls Try.prog 3 #[.slice A0 n0 c0] w fun e w' => e = .returned (.bool true) ∧ Below w.heap.size w w' := by
  obtain ⟨i0, hi0, hzz, hz1, hz2⟩ := info_parts DrawN.int_info
  have HS := Lib.hid hz2
  clear hz2
  unfold maxLen at hm0
  by_cases hn : n0 ≤ 4096
  · have HA0 := Lib.hid hA0
    have HZ0 := Lib.hid hz0
    clear hA0 hz0
    have hdr := drawMachines_any A0 n0 c0 w HA0.out (by omega)
    go_enter Try.func3, Try.ntmps3
    go_wp2_with (first | (go_at_call 4; refine (big_no _ _ _ _ hn).mono ?_; rintro e w' ⟨rfl, rfl⟩) | fail)
    refine hdr.mono ?_
    rintro e w1 ⟨t, A, B, A2, B2, c, d, c2, d2, n2, m2, s2, r2, rfl, hmb, hst, hrg, hm, hb1⟩
    clear hdr
    have hb2 : Below w1.heap.size w1 ((w1.alloc (.cells #[.int .i64 t.st, .int .i64 t.rg, .slice A t.ac.length c, .slice B t.mv.length d] 27)).alloc (.cells #[.int .i64 s2, .int .i64 r2, .slice A2 n2 c2, .slice B2 m2 d2] 27)) := ((Below.refl _ _).alloc (Nat.le_refl _) _).alloc (by simp) _
    have k0 : ((w1.alloc (.cells #[.int .i64 t.st, .int .i64 t.rg, .slice A t.ac.length c, .slice B t.mv.length d] 27)).alloc (.cells #[.int .i64 s2, .int .i64 r2, .slice A2 n2 c2, .slice B2 m2 d2] 27)).heap[w1.heap.size]? = some (.cells #[.int .i64 t.st, .int .i64 t.rg, .slice A t.ac.length c, .slice B t.mv.length d] 27 (0, 0)) := (Below.heap_alloc _ _ _ (by simp)).trans (heap_alloc_new w1 _)
    have K := Lib.hid k0
    have HBB := Lib.hid (hb1.trans (hb2.mono hb1.size))
    have HM := Lib.hid (hm.below hb2)
    have hgd := good_of hmb
    have hfm : FitM t := ⟨by have := hgd.al; have := hgd.s9; omega, by
      have h1 := hgd.ml
      have h2 : t.st * casZ t.rg ≤ 9 * 8 := Int.mul_le_mul hgd.s9 hgd.casZ_le.2 (by have := hgd.casZ_le; omega) (by omega)
      omega⟩
    have hdw := drawWord_any A0 n0 c0 ((w1.alloc (.cells #[.int .i64 t.st, .int .i64 t.rg, .slice A t.ac.length c, .slice B t.mv.length d] 27)).alloc (.cells #[.int .i64 s2, .int .i64 r2, .slice A2 n2 c2, .slice B2 m2 d2] 27)) (DrawN.bytes_moreW HA0.out HBB.out) HZ0.out (by omega)
    clear hm hb1 hb2 k0
    go_wp2_with fail
    refine hdw.mono ?_
    rintro e w2 ⟨l, gl, cl, rfl, hl7, hlt, hlA, hb⟩
    replace K := Lib.hid ((hb.block _ (DrawM.blt K.out)).trans K.out)
    replace HM := Lib.hid (HM.out.below hb)
    replace HBB := Lib.hid (HBB.out.trans (hb.mono HBB.out.size))
    have RL := Lib.hid hlA
    have hat : ∀ a ∈ l, atomB a = true := fun a ha => by have := hlt a ha; unfold atomB; simp; omega
    have wb1 : wordB l = true := by unfold wordB atomsB; rw [List.all_eq_true.2 hat]; simp; omega
    clear hdw hb hlA hat hlt
    have hcm := complementMachine_impl t hfm (.agg #[.int .i64 t.st, .int .i64 t.rg, .slice A t.ac.length c, .slice B t.mv.length d]) w2 HM.out
    rw [CmT.comp_is hmb] at hcm
    have HMU := Lib.hid (CmT.comp_mach hmb)
    have HACC := Lib.hid (CmT.acc_flip hmb wb1)
    have HCW := Lib.hid (fun (L : Nat) (hL : L ≤ 5) => CmT.cw_both hmb L hL)
    have HPT := Lib.hid (fun (L : Nat) (hL : L ≤ 5) => CmT.cw_pos hmb L hL)
    have HPU := Lib.hid (fun (L : Nat) (hL : L ≤ 5) => CmT.cw_pos HMU.out L hL)
    have HD0 : Hid (btAt t.ac 0 ≠ btAt (CmT.comp t).ac 0) := Lib.hid (CmT.first_differs hmb)
    have HFU : Hid (FitM (CmT.comp t)) := Lib.hid (CmT.comp_is hmb ▸ compM_fit hfm)
    generalize CmT.comp t = u at *
    obtain ⟨b0, b1, b2, b3⟩ := DrawM.box4 K.out
    go_wp2_with fail
    refine hcm.mono ?_
    rintro e w3 ⟨A3, c3, A4, c4, S, rfl, hL, _, hb⟩
    have hix := CmT.ix_of HMU.out hL
    have hb4 : Below w3.heap.size w3 (w3.alloc (.cells #[.int .i64 u.st, .int .i64 u.rg, .slice A3 u.ac.length c3, .slice A4 u.mv.length c4] 27)) := (Below.refl _ _).alloc (Nat.le_refl _) _
    have hbx := hb.trans (hb4.mono hb.size)
    replace K := Lib.hid ((hbx.block _ (DrawM.blt K.out)).trans K.out)
    replace HM := Lib.hid (HM.out.below hbx)
    replace RL := Lib.hid (RL.out.below hbx)
    replace HBB := Lib.hid (HBB.out.trans (hbx.mono HBB.out.size))
    have HU := Lib.hid (hix.below hb4)
    have KU := Lib.hid (heap_alloc_new w3 (.cells #[.int .i64 u.st, .int .i64 u.rg, .slice A3 u.ac.length c3, .slice A4 u.mv.length c4] 27))
    clear hcm hL hix hb hb4 hbx b0 b1 b2 b3
    go_upto_region 6 with fail
    generalize w3.alloc (.cells #[.int .i64 u.st, .int .i64 u.rg, .slice A3 u.ac.length c3, .slice A4 u.mv.length c4] 27) = w4 at K HM RL HBB HU KU ⊢
    generalize w3.heap.size = gu at KU ⊢
    generalize w1.heap.size = g at K ⊢
    have HSC : Hid (∀ W : World, Below w4.heap.size w4 W → (W.cell? ⟨g, 0, none⟩ = some (.int .i64 t.st) ∧ W.cell? ⟨g, 1, none⟩ = some (.int .i64 t.rg) ∧ W.cell? ⟨g, 2, none⟩ = some (.slice A t.ac.length c) ∧ W.cell? ⟨g, 3, none⟩ = some (.slice B t.mv.length d)) ∧ (W.cell? ⟨gu, 0, none⟩ = some (.int .i64 u.st) ∧ W.cell? ⟨gu, 1, none⟩ = some (.int .i64 u.rg) ∧ W.cell? ⟨gu, 2, none⟩ = some (.slice A3 u.ac.length c3) ∧ W.cell? ⟨gu, 3, none⟩ = some (.slice A4 u.mv.length c4))) := Lib.hid (fun W k => ⟨DrawM.box4 ((k.block _ (DrawM.blt K.out)).trans K.out), DrawM.box4 ((k.block _ (DrawM.blt KU.out)).trans KU.out)⟩)
    have HIM := Lib.hid (fun (W : World) (k : Below w4.heap.size w4 W) => (by have h1 := isMachine_impl u (by have := HFU.out; unfold FitM at this; omega) (.agg #[.int .i64 u.st, .int .i64 u.rg, .slice A3 u.ac.length c3, .slice A4 u.mv.length c4]) W (HU.out.below k).in_; rw [HMU.out] at h1; exact h1 : Calls Try.prog 8 #[(.agg #[.int .i64 u.st, .int .i64 u.rg, .slice A3 u.ac.length c3, .slice A4 u.mv.length c4])] W (fun e w' => e = .returned (.bool true) ∧ Below W.heap.size W w')))
    have HA1 := Lib.hid (fun (W : World) (k : Below w4.heap.size w4 W) => acceptsWord_impl t hfm (.agg #[.int .i64 t.st, .int .i64 t.rg, .slice A t.ac.length c, .slice B t.mv.length d]) (some ⟨gl, 0, none⟩) cl l W (HM.out.below k) (RL.out.below k) (by omega))
    have HA2 := Lib.hid (fun (W : World) (k : Below w4.heap.size w4 W) => (by have h1 := acceptsWord_impl u HFU.out (.agg #[.int .i64 u.st, .int .i64 u.rg, .slice A3 u.ac.length c3, .slice A4 u.mv.length c4]) (some ⟨gl, 0, none⟩) cl l W (HU.out.below k) (RL.out.below k) (by omega); rw [HACC.out] at h1; exact h1 : Calls Try.prog 9 #[(.agg #[.int .i64 u.st, .int .i64 u.rg, .slice A3 u.ac.length c3, .slice A4 u.mv.length c4]), .slice (some ⟨gl, 0, none⟩) l.length cl] W (fun e w' => e = .returned (.bool (!accB t l)) ∧ Below W.heap.size W w')))
    have HC1 := Lib.hid (fun (L : Nat) (W : World) (k : Below w4.heap.size w4 W) => countWords_impl t hfm L 3 (.agg #[.int .i64 t.st, .int .i64 t.rg, .slice A t.ac.length c, .slice B t.mv.length d]) W (HM.out.below k))
    have HC2 := Lib.hid (fun (L : Nat) (W : World) (k : Below w4.heap.size w4 W) => countWords_impl u HFU.out L 3 (.agg #[.int .i64 u.st, .int .i64 u.rg, .slice A3 u.ac.length c3, .slice A4 u.mv.length c4]) W (HU.out.below k))
    have HDL := Lib.hid (fun (W : World) (k : Below w4.heap.size w4 W) => differLength_zero t u hmb HMU.out HD0.out (.agg #[.int .i64 t.st, .int .i64 t.rg, .slice A t.ac.length c, .slice B t.mv.length d]) (.agg #[.int .i64 u.st, .int .i64 u.rg, .slice A3 u.ac.length c3, .slice A4 u.mv.length c4]) W (HM.out.below k) (HU.out.below k))
    generalize accB t l = ab at HA1 HA2
    have hnb : (ab == !ab) = false := by cases ab <;> rfl
    have hdr4 : Below w4.heap.size w4 w4.drew := ⟨rfl, rfl, rfl, Nat.le_refl _, fun _ _ => rfl⟩
    have kc := hdr4
    obtain ⟨⟨f0, f1, f2, f3⟩, ⟨f4, f5, f6, f7⟩⟩ := HSC.out _ kc
    go_region_held3 (fun w' => (w'.cell? ⟨g, 0, none⟩ = some (.int .i64 t.st) ∧ w'.cell? ⟨g, 1, none⟩ = some (.int .i64 t.rg) ∧ w'.cell? ⟨g, 2, none⟩ = some (.slice A t.ac.length c) ∧ w'.cell? ⟨g, 3, none⟩ = some (.slice B t.mv.length d)) ∧ (w'.cell? ⟨gu, 0, none⟩ = some (.int .i64 u.st) ∧ w'.cell? ⟨gu, 1, none⟩ = some (.int .i64 u.rg) ∧ w'.cell? ⟨gu, 2, none⟩ = some (.slice A3 u.ac.length c3) ∧ w'.cell? ⟨gu, 3, none⟩ = some (.slice A4 u.mv.length c4)))
      (with_reducible exact ⟨⟨by assumption, by assumption, by assumption, by assumption⟩, ⟨by assumption, by assumption, by assumption, by assumption⟩⟩)
      (first
      | (go_at_call 8; (with_reducible refine (HIM.out _ kc).mono ?_); rintro e wq ⟨rfl, hbq⟩; have kc := kc.trans (hbq.mono kc.size); obtain ⟨⟨_, _, _, _⟩, ⟨_, _, _, _⟩⟩ := HSC.out _ kc)
      | (go_at_call 9; (with_reducible refine (HA1.out _ kc).mono ?_); rintro e wq ⟨rfl, hbq⟩; have kc := kc.trans (hbq.mono kc.size); obtain ⟨⟨_, _, _, _⟩, ⟨_, _, _, _⟩⟩ := HSC.out _ kc)
      | (go_at_call 9; (with_reducible refine (HA2.out _ kc).mono ?_); rintro e wq ⟨rfl, hbq⟩; have kc := kc.trans (hbq.mono kc.size); obtain ⟨⟨_, _, _, _⟩, ⟨_, _, _, _⟩⟩ := HSC.out _ kc)
      | fail)
    all_goals
      clear f0 f1 f2 f3 f4 f5 f6 f7 hdr4 hnb HIM HA1 HA2
      have KC := Lib.hid kc
      clear kc
      go_wp2
      go_loopw [7, 8] (fun a n wr => ∃ k : Nat, k ≤ 5 ∧ n = .int .i64 k ∧ a = .int .i64 ((3 ^ k : Nat) : Int) ∧ Below w4.heap.size w4 wr) (fun _ n _ => 5 - (intOf n).toNat)
      case atStart => exact ⟨0, by omega, rfl, rfl, KC.out⟩
      case round =>
        obtain ⟨k, hk, rfl, rfl, hb⟩ := hrel
        by_cases hlt : k ≤ 4
        · have hli : (k : Int) ≤ 4 := by omega
          have hsum := HCW.out k (by omega)
          have hp1 := HPT.out k (by omega)
          have hp2 := HPU.out k (by omega)
          have hpw : ((3 ^ k : Nat) : Int) ≤ 81 ∧ 0 ≤ ((3 ^ k : Nat) : Int) ∧ ((3 ^ (k + 1) : Nat) : Int) = ((3 ^ k : Nat) : Int) * 3 := by
            refine ⟨?_, by omega, by rw [Nat.pow_succ, Int.natCast_mul]; rfl⟩
            obtain rfl | rfl | rfl | rfl | rfl : k = 0 ∨ k = 1 ∨ k = 2 ∨ k = 3 ∨ k = 4 := by omega
            all_goals decide
          have hc1 := fun W => HC1.out k W
          have hc2 := fun W => HC2.out k W
          generalize cwR t (k : Int) 3 = z1 at hsum hp1 hc1
          generalize cwR u (k : Int) 3 = z2 at hsum hp2 hc2
          have HNX := Lib.hid hpw.2.2
          generalize ((3 ^ k : Nat) : Int) = z at hsum hpw HNX ⊢
          have hw1 : IntKind.i64.wrap (z1 + z2) = z := by rw [IntWalk.i64_in _ (by omega)]; exact hsum
          have hw3 : IntKind.i64.wrap (z * 3) = z * 3 := IntWalk.i64_in _ (by omega)
          have hne : (z != z) = false := by simp
          have HCA := Lib.hid hc1
          have HCB := Lib.hid hc2
          have hdr4 : Below wr.heap.size wr wr.drew := ⟨rfl, rfl, rfl, Nat.le_refl _, fun _ _ => rfl⟩
          have kc := hb.trans (hdr4.mono hb.size)
          obtain ⟨⟨f0, f1, f2, f3⟩, ⟨f4, f5, f6, f7⟩⟩ := HSC.out _ kc
          clear hc1 hc2 hsum hp1 hp2 hpw
          go_upto_region 12 with fail
          go_region_held3 (fun w' => (w'.cell? ⟨g, 0, none⟩ = some (.int .i64 t.st) ∧ w'.cell? ⟨g, 1, none⟩ = some (.int .i64 t.rg) ∧ w'.cell? ⟨g, 2, none⟩ = some (.slice A t.ac.length c) ∧ w'.cell? ⟨g, 3, none⟩ = some (.slice B t.mv.length d)) ∧ (w'.cell? ⟨gu, 0, none⟩ = some (.int .i64 u.st) ∧ w'.cell? ⟨gu, 1, none⟩ = some (.int .i64 u.rg) ∧ w'.cell? ⟨gu, 2, none⟩ = some (.slice A3 u.ac.length c3) ∧ w'.cell? ⟨gu, 3, none⟩ = some (.slice A4 u.mv.length c4)))
            (with_reducible exact ⟨⟨by assumption, by assumption, by assumption, by assumption⟩, ⟨by assumption, by assumption, by assumption, by assumption⟩⟩)
            (first
            | (go_at_call 10; (with_reducible refine (HCA.out _ kc).mono ?_); rintro e wq ⟨rfl, hbq⟩; have kc := kc.trans (hbq.mono kc.size); obtain ⟨⟨_, _, _, _⟩, ⟨_, _, _, _⟩⟩ := HSC.out _ kc)
            | (go_at_call 10; (with_reducible refine (HCB.out _ kc).mono ?_); rintro e wq ⟨rfl, hbq⟩; have kc := kc.trans (hbq.mono kc.size); obtain ⟨⟨_, _, _, _⟩, ⟨_, _, _, _⟩⟩ := HSC.out _ kc)
            | fail)
          all_goals
            have KC := Lib.hid kc
            clear kc f0 f1 f2 f3 f4 f5 f6 f7
            go_wp2
            refine ⟨⟨k + 1, by omega, by go_num, by rw [HNX.out], KC.out⟩, ?_⟩
            simp only [intOf]
            omega
        · have e : k = 5 := by omega
          subst e
          have hd := HDL.out wr hb
          obtain ⟨⟨f0, f1, f2, f3⟩, ⟨f4, f5, f6, f7⟩⟩ := HSC.out _ hb
          go_wp2_with (first | (go_at_call 11; (with_reducible refine hd.mono ?_); rintro e wz ⟨rfl, hbz⟩) | fail)
          go_ret
          exact ⟨rfl, HBB.out.trans ((hb.trans (hbz.mono hb.size)).mono HBB.out.size)⟩
  · have hbig : 4096 < n0 := by omega
    clear hn hA0
    go_enter Try.func3, Try.ntmps3
    go_wp2_with (go_at_call 4; refine (big_yes _ _ _ _ hbig (by omega)).mono ?_; rintro e w' ⟨rfl, rfl⟩)
    go_ret
    exact ⟨rfl, Below.refl _ _⟩

set_option maxRecDepth 100000 in
theorem lifted (os : Os) (started : os.Started) (H : Type) (enc : TypeId × Value → H) :
    ReturnsInHanded {} Try.checked os 3 .any (Rows.fnComplementSpec.pre6 enc Try.prog Try.f3 Rows.fnComplementRow.domain false) (Rows.fnComplementSpec.post enc Try.prog Try.f3 false true false false) := by
  refine returnsInHanded_of_change (C := Try.checked) own started (by kernel_rfl) Try.func3
    (ChangeSpec.witness6 (enc := enc) (C := Try.checked) false ⟨#[], #[.slice none 0 0], []⟩ 8 (by kernel_rfl) (by kernel_rfl) (by kernel_rfl) (by kernel_rfl)) ?_
  intro W base args ds gs before hval0 hW hcnd _
  have hval : ∀ (j : Nat) t v, Try.f3.params[j]? = some t → args[j]? = some v → Value.okWide Try.prog W .any base t v := hval0
  have hW' := hW
  obtain ⟨p, q, hA0, hV, rfl, hfz, hnd⟩ := hW
  have hA : DataW.TrodAll enc Try.prog W 0 (fun _ => true) true Try.f3.params.toList args.toList ds p := hA0
  rw [Try.params3] at hA hval
  obtain ⟨v0, vs0, d0, ds0, p0, q0, hargs, rfl, rfl, h0, r0⟩ := trodAll_cons hA
  obtain ⟨rfl, rfl, rfl⟩ := trodAll_nil r0
  obtain rfl : args = #[v0] := by cases args; simp_all
  obtain ⟨rfl, rfl⟩ := trodVars_none hV
  have k0 := h0
  have lt0 : ∀ x ∈ p0, x.block < W.heap.size := by obtain ⟨m, hm⟩ := k0; exact DataW.trod_lt m _ _ _ hm
  obtain ⟨A0, n0, c0, rfl⟩ := okWide_slice Try.underlying22 (hval 0 22 v0 rfl rfl)
  obtain ⟨w0, m0⟩ := open_bytesL h0
  clear hA0 hval0
  refine (walk W A0 c0 n0 w0 (open_bytesZ h0) m0).mono fun e W' ⟨he, bel⟩ => ?_
  subst he
  exact ⟨_, rfl, _, _, _, [], _, [], hW', trodAll_mk1 (shut_bool Try.underlying4 _), (trodAll_cons_mk (Below.trod laidOut (by kernel_rfl) (of_decide_eq_true (by kernel_rfl)) k0 bel lt0) trodAll_mk0), rfl, bel.frame _, fun h => by cases h⟩

theorem over : Rows.fnComplementRow.holds Try.pinned (OpenSpec.ofChange Rows.fnComplementSpec) :=
  OpenClaim.holds_of_wide 3 Try.f3 rfl rfl rfl rfl rfl rfl rfl ⟨rfl, rfl, rfl, rfl, rfl⟩ rfl rfl rfl rfl rfl (by kernel_rfl) Try.func3 (by kernel_rfl)
    (of_decide_eq_true (by kernel_rfl)) (by unfold Func.isWrapper; first | (rw [if_pos (by decide +kernel)]; kernel_rfl) | (rw [if_neg (by decide +kernel)]; exact ⟨rfl, rfl⟩))
    (fun os started H enc _ => lifted os started H enc)

theorem proved : Rows.FnComplementSaid := over
#print axioms proved
end Go.Proofs.Ythacnbeckhdhiaa.fnComplement
