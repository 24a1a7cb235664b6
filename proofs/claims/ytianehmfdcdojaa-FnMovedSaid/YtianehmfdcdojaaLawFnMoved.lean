/-
  The law FnMoved returns true for every code of bytes: exactly the atoms that are given another one are moved, and where two drawn permutations differ one of them moves. No condition.
-/
import Derived.Test.YtianehmfdcdojaaDrawPerm
import Derived.Test.YtianehmfdcdojaaDifference
import Derived.Test.YtianehmfdcdojaaMovedBy
import Derived.Test.YtianehmfdcdojaaLawHas
import Derived.Test.YtianehmfdcdojaaLawInts
import Derived.Test.YtianehmfdcdojaaImage
import Derived.Test.YtianehmfdcdojaaOpenB
namespace Go.Proofs.Ytianehmfdcdojaa.fnMoved
open Go.ChangeShapes Go.WideShapes Go.ChangeAt Go.RowKit
set_option linter.unusedVariables false

theorem big_no (A : Option Addr) (n c : Nat) (w : World) (h : n ≤ 4096) : Calls Try.prog 4 #[.slice A n c] w fun e w' => e = .returned (.bool false) ∧ w = w' := by
  have k0 : decide ((4096 : Int) < n) = false := by simp; omega
  go_enter Try.func4, Try.ntmps4
  go_wp2
  go_ret
  exact ⟨rfl, rfl⟩

theorem big_yes (A : Option Addr) (n c : Nat) (w : World) (h : 4096 < n) (h2 : n ≤ 9223372036854775807) : Calls Try.prog 4 #[.slice A n c] w fun e w' => e = .returned (.bool true) ∧ w = w' := by
  have k0 : decide ((4096 : Int) < n) = true := by simp; omega
  go_enter Try.func4, Try.ntmps4
  go_wp2
  go_ret
  exact ⟨rfl, rfl⟩

theorem perm_nil : permB [] = true := permB_of isP_nil (by simp)
theorem atomB_of {k : Int} (h0 : 0 ≤ k) (h1 : k < 60) : atomB k = true := by simp [atomB]; omega
theorem has_moved {p : List (Int × Int)} (h : IsP p) (k : Int) : hasB (froms p) k = (imgL p k != k) := by
  rw [Bool.eq_iff_iff]
  unfold hasB
  rw [List.contains_iff_mem, moved_iff h.mv]
  simp
theorem mem_differ {p q : List (Int × Int)} (k : Int) : k ∈ differL p q ↔ imgL p k ≠ imgL q k := by
  unfold differL
  rw [List.mem_filter, mem_atomsL]
  constructor
  · rintro ⟨_, h⟩; simpa [difB] using h
  · intro h
    refine ⟨?_, by simpa [difB] using h⟩
    rcases Decidable.em (k ∈ froms p) with h1 | h1
    · exact .inl h1
    · rcases Decidable.em (k ∈ froms q) with h2 | h2
      · exact .inr h2
      · rw [imgL_out h1, imgL_out h2] at h; exact absurd rfl h
theorem has_differ {p q : List (Int × Int)} (k : Int) : hasB (differL p q) k = (imgL p k != imgL q k) := by
  rw [Bool.eq_iff_iff]
  unfold hasB
  rw [List.contains_iff_mem, mem_differ]
  simp
theorem asc_differ (p q : List (Int × Int)) : AscP (differL p q) := (asc_atomsL p q).filter _
theorem differ_nil {p : List (Int × Int)} (h : IsP p) : differL p [] = froms p :=
  asc_same _ _ (asc_differ _ _) h.asc fun a => by rw [mem_differ, moved_iff h.mv]; rfl
theorem differ_self (p : List (Int × Int)) : differL p p = [] := by
  rw [List.eq_nil_iff_forall_not_mem]
  intro a h
  exact (mem_differ a).1 h rfl

set_option maxRecDepth 100000 in
set_option maxHeartbeats 8000000 in
theorem walk (w : World) (A0 : Option Addr) (c0 n0 : Nat) (hA0 : BytesIn w A0 n0) (hm0 : n0 ≤ maxLen) :
    Calls Try.prog 3 #[.slice A0 n0 c0] w fun e w' => e = .returned (.bool true) ∧ Below w.heap.size w w' := by
  unfold maxLen at hm0
  by_cases hn : n0 ≤ 4096
  · go_enter Try.func3, Try.ntmps3
    go_wp2_with (first | (go_at_call 4; refine (big_no _ _ _ _ hn).mono ?_; rintro e w' ⟨rfl, rfl⟩) | fail)
    have hs0 : Below w.heap.size w w := Below.refl _ _
    have ct1 := drawPermutations_any A0 n0 c0 _ hA0 (by omega)
    go_wp2_with fail
    refine ct1.mono ?_
    rintro e w1 ⟨p, q, r, Ap, Aq, Ar, cp, cq, cr, rfl, ⟨hP, hlp⟩, ⟨hQ, hlq⟩, ⟨hR, hlr⟩, fp, fq, fr, hb1⟩
    clear ct1
    have hs1 := hs0.trans (hb1.mono hs0.size)
    have fcode_1 := hA0.below hb1
    clear hs0 hb1 hA0
    clear fcode_1
    clear fr hR hlr
    have Hpp := Lib.hid (permB_of hP (by omega))
    have Hpq := Lib.hid (permB_of hQ (by omega))
    have HP := Lib.hid hP
    have HQ := Lib.hid hQ
    have L1 := Lib.hid (movedL_yes Hpp.out)
    have L2 := Lib.hid (difL_yes Hpp.out Hpq.out)
    have L3 := Lib.hid ((difL_yes Hpp.out perm_nil).trans (differ_nil HP.out))
    have L4 := Lib.hid ((difL_yes Hpp.out Hpp.out).trans (differ_self p))
    have I1 := Lib.hid fun k h0 h1 => imageF_yes (a := k) Hpp.out (atomB_of h0 h1)
    have I2 := Lib.hid fun k h0 h1 => imageF_yes (a := k) Hpq.out (atomB_of h0 h1)
    have M1 := Lib.hid fun k => has_moved HP.out k
    have M2 := Lib.hid fun k => has_differ (p := p) (q := q) k
    have hfl := froms_len p
    have hdl := difL_len p q
    rw [L2.out] at hdl
    have hfl2 : (froms p).length ≤ 1048576 := by omega
    have hdl2 : (differL p q).length ≤ 1048576 := by omega
    have hlp2 : p.length ≤ 1048576 := by omega
    have hlq2 : q.length ≤ 1048576 := by omega
    clear hP hQ hfl hdl hlp hlq
    have ct2 := movedBy_impl Ap cp p _ fp (by omega)
    rw [L1.out] at ct2
    go_wp2_with fail
    refine ct2.mono ?_
    rintro e w2 ⟨vm, rfl, hom, hb2⟩
    clear ct2
    have hs2 := hs1.trans (hb2.mono hs1.size)
    have fp_2 := fp.below hb2
    have fq_2 := fq.below hb2
    clear hs1 hb2 fp fq
    obtain ⟨Am, cm, rfl, hpm⟩ := own_intsAt hom
    clear hom
    have ct3 := difference_impl Ap Aq cp cq p q _ fp_2 fq_2 hlp2 hlq2
    rw [L2.out] at ct3
    go_wp2_with fail
    refine ct3.mono ?_
    rintro e w3 ⟨vd, rfl, hod, hb3⟩
    clear ct3
    have hs3 := hs2.trans (hb3.mono hs2.size)
    have fp_3 := fp_2.below hb3
    have fq_3 := fq_2.below hb3
    have fm_3 := hpm.below hb3
    clear hs2 hb3 fp_2 fq_2 hpm
    obtain ⟨Ad, cd, rfl, hpd⟩ := own_intsAt hod
    clear hod
    go_wp2
    go_loopw [8] (fun i wr => ∃ k : Nat, k ≤ 60 ∧ i = .int .i64 k ∧ PairsAt wr Ap p ∧ PairsAt wr Aq q ∧ IntsAt wr Am (froms p) ∧ IntsAt wr Ad (differL p q) ∧ Below w.heap.size w wr) (fun i _ => 60 - (intOf i).toNat)
    case atStart => exact ⟨0, Nat.zero_le _, rfl, fp_3, fq_3, fm_3, hpd, hs3⟩
    case round =>
      clear fp_3 fq_3 fm_3 hpd hs3
      obtain ⟨k, hk, rfl, fp0, fq0, fm0, fd0, hs00⟩ := hrel
      by_cases hlt : k < 60
      · have M1k := M1.out (k : Int)
        have M2k := M2.out (k : Int)
        have I1k := Lib.hid (I1.out (k : Int) (by omega) (by omega))
        have I2k := Lib.hid (I2.out (k : Int) (by omega) (by omega))
        generalize imgL p (k : Int) = x at M1k M2k I1k
        generalize imgL q (k : Int) = y at M2k I2k
        by_cases e1 : x = (k : Int)
        · have t1 : (x != (k : Int)) = false := by simp [e1]
          rw [t1] at M1k
          have N1 := Lib.hid M1k
          by_cases e2 : x = y
          · have t2 : (x != y) = false := by simp [e2]
            rw [t2] at M2k
            have N2 := Lib.hid M2k
            clear M1k M2k e1 e2
            have ct4 := lawHas_any Am cm (froms p) (k : Int) _ fm0 (by omega)
            rw [N1.out] at ct4
            go_wp2_with fail
            refine ct4.mono ?_
            rintro e w' ⟨rfl, rfl⟩
            clear ct4
            have ct5 := imageOf_impl Ap cp p (k : Int) _ fp0 (by omega)
            rw [I1k.out] at ct5
            go_wp2_with fail
            refine ct5.mono ?_
            rintro e w5 ⟨rfl, hb5⟩
            clear ct5
            have hs5 := hs00.trans (hb5.mono hs00.size)
            have fp_5 := fp0.below hb5
            have fq_5 := fq0.below hb5
            have fm_5 := fm0.below hb5
            have fd_5 := fd0.below hb5
            clear hs00 hb5 fp0 fq0 fm0 fd0
            have ct6 := lawHas_any Ad cd (differL p q) (k : Int) _ fd_5 (by omega)
            rw [N2.out] at ct6
            go_wp2_with fail
            refine ct6.mono ?_
            rintro e w' ⟨rfl, rfl⟩
            clear ct6
            have ct7 := imageOf_impl Ap cp p (k : Int) _ fp_5 (by omega)
            rw [I1k.out] at ct7
            go_wp2_with fail
            refine ct7.mono ?_
            rintro e w7 ⟨rfl, hb7⟩
            clear ct7
            have hs7 := hs5.trans (hb7.mono hs5.size)
            have fp_7 := fp_5.below hb7
            have fq_7 := fq_5.below hb7
            have fm_7 := fm_5.below hb7
            have fd_7 := fd_5.below hb7
            clear hs5 hb7 fp_5 fq_5 fm_5 fd_5
            have ct8 := imageOf_impl Aq cq q (k : Int) _ fq_7 (by omega)
            rw [I2k.out] at ct8
            go_wp2_with fail
            refine ct8.mono ?_
            rintro e w8 ⟨rfl, hb8⟩
            clear ct8
            have hs8 := hs7.trans (hb8.mono hs7.size)
            have fp_8 := fp_7.below hb8
            have fq_8 := fq_7.below hb8
            have fm_8 := fm_7.below hb8
            have fd_8 := fd_7.below hb8
            clear hs7 hb8 fp_7 fq_7 fm_7 fd_7
            go_wp2_with fail
            refine ⟨⟨k + 1, by omega, by go_num, fp_8, fq_8, fm_8, fd_8, hs8⟩, ?_⟩
            simp only [intOf]
            omega
          · have t2 : (x != y) = true := by simp [e2]
            rw [t2] at M2k
            have N2 := Lib.hid M2k
            clear M1k M2k e1 e2
            have ct4 := lawHas_any Am cm (froms p) (k : Int) _ fm0 (by omega)
            rw [N1.out] at ct4
            go_wp2_with fail
            refine ct4.mono ?_
            rintro e w' ⟨rfl, rfl⟩
            clear ct4
            have ct5 := imageOf_impl Ap cp p (k : Int) _ fp0 (by omega)
            rw [I1k.out] at ct5
            go_wp2_with fail
            refine ct5.mono ?_
            rintro e w5 ⟨rfl, hb5⟩
            clear ct5
            have hs5 := hs00.trans (hb5.mono hs00.size)
            have fp_5 := fp0.below hb5
            have fq_5 := fq0.below hb5
            have fm_5 := fm0.below hb5
            have fd_5 := fd0.below hb5
            clear hs00 hb5 fp0 fq0 fm0 fd0
            have ct6 := lawHas_any Ad cd (differL p q) (k : Int) _ fd_5 (by omega)
            rw [N2.out] at ct6
            go_wp2_with fail
            refine ct6.mono ?_
            rintro e w' ⟨rfl, rfl⟩
            clear ct6
            have ct7 := imageOf_impl Ap cp p (k : Int) _ fp_5 (by omega)
            rw [I1k.out] at ct7
            go_wp2_with fail
            refine ct7.mono ?_
            rintro e w7 ⟨rfl, hb7⟩
            clear ct7
            have hs7 := hs5.trans (hb7.mono hs5.size)
            have fp_7 := fp_5.below hb7
            have fq_7 := fq_5.below hb7
            have fm_7 := fm_5.below hb7
            have fd_7 := fd_5.below hb7
            clear hs5 hb7 fp_5 fq_5 fm_5 fd_5
            have ct8 := imageOf_impl Aq cq q (k : Int) _ fq_7 (by omega)
            rw [I2k.out] at ct8
            go_wp2_with fail
            refine ct8.mono ?_
            rintro e w8 ⟨rfl, hb8⟩
            clear ct8
            have hs8 := hs7.trans (hb8.mono hs7.size)
            have fp_8 := fp_7.below hb8
            have fq_8 := fq_7.below hb8
            have fm_8 := fm_7.below hb8
            have fd_8 := fd_7.below hb8
            clear hs7 hb8 fp_7 fq_7 fm_7 fd_7
            go_wp2_with fail
            refine ⟨⟨k + 1, by omega, by go_num, fp_8, fq_8, fm_8, fd_8, hs8⟩, ?_⟩
            simp only [intOf]
            omega
        · have t1 : (x != (k : Int)) = true := by simp [e1]
          rw [t1] at M1k
          have N1 := Lib.hid M1k
          by_cases e2 : x = y
          · have t2 : (x != y) = false := by simp [e2]
            rw [t2] at M2k
            have N2 := Lib.hid M2k
            clear M1k M2k e1 e2
            have ct4 := lawHas_any Am cm (froms p) (k : Int) _ fm0 (by omega)
            rw [N1.out] at ct4
            go_wp2_with fail
            refine ct4.mono ?_
            rintro e w' ⟨rfl, rfl⟩
            clear ct4
            have ct5 := imageOf_impl Ap cp p (k : Int) _ fp0 (by omega)
            rw [I1k.out] at ct5
            go_wp2_with fail
            refine ct5.mono ?_
            rintro e w5 ⟨rfl, hb5⟩
            clear ct5
            have hs5 := hs00.trans (hb5.mono hs00.size)
            have fp_5 := fp0.below hb5
            have fq_5 := fq0.below hb5
            have fm_5 := fm0.below hb5
            have fd_5 := fd0.below hb5
            clear hs00 hb5 fp0 fq0 fm0 fd0
            have ct6 := lawHas_any Ad cd (differL p q) (k : Int) _ fd_5 (by omega)
            rw [N2.out] at ct6
            go_wp2_with fail
            refine ct6.mono ?_
            rintro e w' ⟨rfl, rfl⟩
            clear ct6
            have ct7 := imageOf_impl Ap cp p (k : Int) _ fp_5 (by omega)
            rw [I1k.out] at ct7
            go_wp2_with fail
            refine ct7.mono ?_
            rintro e w7 ⟨rfl, hb7⟩
            clear ct7
            have hs7 := hs5.trans (hb7.mono hs5.size)
            have fp_7 := fp_5.below hb7
            have fq_7 := fq_5.below hb7
            have fm_7 := fm_5.below hb7
            have fd_7 := fd_5.below hb7
            clear hs5 hb7 fp_5 fq_5 fm_5 fd_5
            have ct8 := imageOf_impl Aq cq q (k : Int) _ fq_7 (by omega)
            rw [I2k.out] at ct8
            go_wp2_with fail
            refine ct8.mono ?_
            rintro e w8 ⟨rfl, hb8⟩
            clear ct8
            have hs8 := hs7.trans (hb8.mono hs7.size)
            have fp_8 := fp_7.below hb8
            have fq_8 := fq_7.below hb8
            have fm_8 := fm_7.below hb8
            have fd_8 := fd_7.below hb8
            clear hs7 hb8 fp_7 fq_7 fm_7 fd_7
            go_wp2_with fail
            refine ⟨⟨k + 1, by omega, by go_num, fp_8, fq_8, fm_8, fd_8, hs8⟩, ?_⟩
            simp only [intOf]
            omega
          · have t2 : (x != y) = true := by simp [e2]
            rw [t2] at M2k
            have N2 := Lib.hid M2k
            clear M1k M2k e1 e2
            have ct4 := lawHas_any Am cm (froms p) (k : Int) _ fm0 (by omega)
            rw [N1.out] at ct4
            go_wp2_with fail
            refine ct4.mono ?_
            rintro e w' ⟨rfl, rfl⟩
            clear ct4
            have ct5 := imageOf_impl Ap cp p (k : Int) _ fp0 (by omega)
            rw [I1k.out] at ct5
            go_wp2_with fail
            refine ct5.mono ?_
            rintro e w5 ⟨rfl, hb5⟩
            clear ct5
            have hs5 := hs00.trans (hb5.mono hs00.size)
            have fp_5 := fp0.below hb5
            have fq_5 := fq0.below hb5
            have fm_5 := fm0.below hb5
            have fd_5 := fd0.below hb5
            clear hs00 hb5 fp0 fq0 fm0 fd0
            have ct6 := lawHas_any Ad cd (differL p q) (k : Int) _ fd_5 (by omega)
            rw [N2.out] at ct6
            go_wp2_with fail
            refine ct6.mono ?_
            rintro e w' ⟨rfl, rfl⟩
            clear ct6
            have ct7 := imageOf_impl Ap cp p (k : Int) _ fp_5 (by omega)
            rw [I1k.out] at ct7
            go_wp2_with fail
            refine ct7.mono ?_
            rintro e w7 ⟨rfl, hb7⟩
            clear ct7
            have hs7 := hs5.trans (hb7.mono hs5.size)
            have fp_7 := fp_5.below hb7
            have fq_7 := fq_5.below hb7
            have fm_7 := fm_5.below hb7
            have fd_7 := fd_5.below hb7
            clear hs5 hb7 fp_5 fq_5 fm_5 fd_5
            have ct8 := imageOf_impl Aq cq q (k : Int) _ fq_7 (by omega)
            rw [I2k.out] at ct8
            go_wp2_with fail
            refine ct8.mono ?_
            rintro e w8 ⟨rfl, hb8⟩
            clear ct8
            have hs8 := hs7.trans (hb8.mono hs7.size)
            have fp_8 := fp_7.below hb8
            have fq_8 := fq_7.below hb8
            have fm_8 := fm_7.below hb8
            have fd_8 := fd_7.below hb8
            clear hs7 hb8 fp_7 fq_7 fm_7 fd_7
            go_wp2_with fail
            refine ⟨⟨k + 1, by omega, by go_num, fp_8, fq_8, fm_8, fd_8, hs8⟩, ?_⟩
            simp only [intOf]
            omega
      · have hge : 60 ≤ k := by omega
        clear hlt
        have hnn : PairsAt wr none [] := fun h => absurd h (by simp)
        clear fq0 fd0
        have ct4 := difference_impl Ap none cp 0 p [] _ fp0 hnn hlp2 (by simp)
        rw [L3.out] at ct4
        go_wp2_with fail
        refine ct4.mono ?_
        rintro e w4 ⟨ve, rfl, hoe, hb4⟩
        clear ct4
        have hs4 := hs00.trans (hb4.mono hs00.size)
        have fp_4 := fp0.below hb4
        have fm_4 := fm0.below hb4
        have fn_4 := hnn.below hb4
        clear hs00 hb4 fp0 fm0 hnn
        obtain ⟨Ae, ce, rfl, hpe⟩ := own_intsAt hoe
        clear hoe
        have ct5 := lawInts_any Ae Am ce cm (froms p) (froms p) _ hpe fm_4 (by omega)
        rw [decide_eq_true (rfl : froms p = froms p)] at ct5
        go_wp2_with fail
        refine ct5.mono ?_
        rintro e w5 ⟨rfl, hb5⟩
        clear ct5
        have hs5 := hs4.trans (hb5.mono hs4.size)
        have fp_5 := fp_4.below hb5
        have fm_5 := fm_4.below hb5
        have fn_5 := fn_4.below hb5
        have fe_5 := hpe.below hb5
        clear hs4 hb5 fp_4 fm_4 fn_4 hpe
        have ct6 := difference_impl Ap Ap cp cp p p _ fp_5 fp_5 hlp2 hlp2
        rw [L4.out] at ct6
        go_wp2_with fail
        refine ct6.mono ?_
        rintro e w6 ⟨vg, rfl, hog, hb6⟩
        clear ct6
        have hs6 := hs5.trans (hb6.mono hs5.size)
        have fp_6 := fp_5.below hb6
        have fm_6 := fm_5.below hb6
        have fn_6 := fn_5.below hb6
        have fe_6 := fe_5.below hb6
        clear hs5 hb6 fp_5 fm_5 fn_5 fe_5
        obtain ⟨Ag, cg, rfl, hpg⟩ := own_intsAt hog
        clear hog
        clear fp_6 fm_6 fn_6 fe_6 hpg
        go_wp2_with fail
        go_ret
        exact ⟨rfl, hs6⟩
  · have hbig : 4096 < n0 := by omega
    clear hn hA0
    go_enter Try.func3, Try.ntmps3
    go_wp2_with (go_at_call 4; refine (big_yes _ _ _ _ hbig (by omega)).mono ?_; rintro e w' ⟨rfl, rfl⟩)
    go_ret
    exact ⟨rfl, Below.refl _ _⟩

set_option maxRecDepth 100000 in
theorem lifted (os : Os) (started : os.Started) (H : Type) (enc : TypeId × Value → H) :
    ReturnsInHanded {} Try.checked os 3 .any (Rows.fnMovedSpec.pre6 enc Try.prog Try.f3 Rows.fnMovedRow.domain false) (Rows.fnMovedSpec.post enc Try.prog Try.f3 false true false false) := by
  refine returnsInHanded_of_change (C := Try.checked) own started (by kernel_rfl) Try.func3
    (ChangeSpec.witness6 (enc := enc) (C := Try.checked) false ⟨#[], #[.slice none 0 0], []⟩ 8 (by kernel_rfl) (by kernel_rfl) (by kernel_rfl) (by kernel_rfl)) ?_
  intro W base args ds gs before hval0 hW hcnd _
  have hval : ∀ (j : Nat) t v, Try.f3.params[j]? = some t → args[j]? = some v → Value.okWide Try.prog W .any base t v := hval0
  have hW' := hW
  obtain ⟨p, q, hA0, hV, rfl, hfz, hnd⟩ := hW
  have hA : DataW.TrodAll enc Try.prog W 0 (fun _ => true) true Try.f3.params.toList args.toList ds p := hA0
  rw [Try.params3] at hA hval
  obtain ⟨v0, vs0, d0, ds0, p0, q0, hargs, rfl, rfl, h0, r0⟩ := trodAll_cons hA
  obtain ⟨rfl, rfl, rfl⟩ := trodAll_nil r0
  obtain rfl : args = #[v0] := by cases args; simp_all
  obtain ⟨rfl, rfl⟩ := trodVars_none hV
  have k0 := h0
  have lt0 : ∀ x ∈ p0, x.block < W.heap.size := by obtain ⟨m, hm⟩ := k0; exact DataW.trod_lt m _ _ _ hm
  obtain ⟨A0, n0, c0, rfl⟩ := okWide_slice Try.underlying22 (hval 0 22 v0 rfl rfl)
  obtain ⟨w0, m0⟩ := open_bytesL h0
  clear hA0 hval0
  refine (walk W A0 c0 n0 w0 m0).mono fun e W' ⟨he, bel⟩ => ?_
  subst he
  exact ⟨_, rfl, _, _, _, [], _, [], hW', trodAll_mk1 (shut_bool Try.underlying4 _), (trodAll_cons_mk (Below.trod laidOut (by kernel_rfl) (of_decide_eq_true (by kernel_rfl)) k0 bel lt0) trodAll_mk0), rfl, bel.frame _, fun h => by cases h⟩

theorem over : Rows.fnMovedRow.holds Try.pinned (OpenSpec.ofChange Rows.fnMovedSpec) :=
  OpenClaim.holds_of_wide 3 Try.f3 rfl rfl rfl rfl rfl rfl rfl ⟨rfl, rfl, rfl, rfl, rfl⟩ rfl rfl rfl rfl rfl (by kernel_rfl) Try.func3 (by kernel_rfl)
    (of_decide_eq_true (by kernel_rfl)) (by unfold Func.isWrapper; first | (rw [if_pos (by decide +kernel)]; kernel_rfl) | (rw [if_neg (by decide +kernel)]; exact ⟨rfl, rfl⟩))
    (fun os started H enc _ => lifted os started H enc)

theorem proved : Rows.FnMovedSaid := over
#print axioms proved
end Go.Proofs.Ytianehmfdcdojaa.fnMoved
