/-
  The walk of the law FnRun, given the contract of the draw of machines. Two machines that the model draws: the contract of DrawMachines. Two machines that the model draws: the walk of DrawMachines.
-/
import Derived.Test.YtcginiklekdbgaaKRun9
import Derived.Test.YtcginiklekdbgaaKRun10
import Derived.Test.YtcginiklekdbgaaKRun14
import Derived.Test.YtcginiklekdbgaaKRun6
import Derived.Test.YtcginiklekdbgaaKRun3
import Derived.Test.YtcginiklekdbgaaKRun17
section
namespace Go.Proofs.Ytcginiklekdbgaa
open Go.RowKit Go.Sort
set_option linter.unusedVariables false

namespace DrawM
/-- Two drawn machines: the first one is valid. -/
def Two (w : World) (e : Ending) (w' : World) : Prop :=
  ∃ (t : Mach) (A B A2 B2 : Option Addr) (c d c2 d2 n2 m2 : Nat) (s2 r2 : Int), e = .returned (.tuple #[.agg #[.int .i64 t.st, .int .i64 t.rg, .slice A t.ac.length c, .slice B t.mv.length d], .agg #[.int .i64 s2, .int .i64 r2, .slice A2 n2 c2, .slice B2 m2 d2]]) ∧ machB t = true ∧ t.st ≤ 3 ∧ t.rg ≤ 2 ∧ MachIx w' (.agg #[.int .i64 t.st, .int .i64 t.rg, .slice A t.ac.length c, .slice B t.mv.length d]) t ∧ Below w.heap.size w w'
/-- The contract of DrawMachines: to be proved. -/
def MachinesP : Prop := ∀ (A : Option Addr) (n c : Nat) (w : World), BytesIn w A n → n ≤ 1048576 → Calls Try.prog 6 #[.slice A n c] w (Two w)
end DrawM

namespace fnRun
theorem big_no (A : Option Addr) (n c : Nat) (w : World) (h : n ≤ 4096) : Calls Try.prog 5 #[.slice A n c] w fun e w' => e = .returned (.bool false) ∧ w = w' := by
  have k0 : decide ((4096 : Int) < n) = false := by simp; omega
  go_enter Try.func5, Try.ntmps5
  go_wp2
  go_ret
  exact ⟨rfl, rfl⟩

theorem big_yes (A : Option Addr) (n c : Nat) (w : World) (h : 4096 < n) (h2 : n ≤ 9223372036854775807) : Calls Try.prog 5 #[.slice A n c] w fun e w' => e = .returned (.bool true) ∧ w = w' := by
  have k0 : decide ((4096 : Int) < n) = true := by simp; omega
  go_enter Try.func5, Try.ntmps5
  go_wp2
  go_ret
  exact ⟨rfl, rfl⟩

open Go.Sort in
set_option maxRecDepth 100000 in
set_option maxHeartbeats 8000000 in
theorem walkOf (hdm : DrawM.MachinesP) (w : World) (A0 : Option Addr) (c0 n0 : Nat) (hA0 : BytesIn w A0 n0) (hz0 : A0 = none → c0 = 0) (hm0 : n0 ≤ maxLen) :
    Calls Try.prog 3 #[.slice A0 n0 c0] w fun e w' => e = .returned (.bool true) ∧ Below w.heap.size w w' := by
  unfold maxLen at hm0
  by_cases hn : n0 ≤ 4096
  · have HA0 := Lib.hid hA0
    have HZ0 := Lib.hid hz0
    have hdr := hdm A0 n0 c0 w hA0 (by omega)
    clear hA0 hz0 hdm
    go_enter Try.func3, Try.ntmps3
    go_wp2_with (first | (go_at_call 5; refine (big_no _ _ _ _ hn).mono ?_; rintro e w' ⟨rfl, rfl⟩) | fail)
    refine hdr.mono ?_
    rintro e w1 ⟨t, A, B, A2, B2, c, d, c2, d2, n2, m2, s2, r2, rfl, hmb, hst, hrg, hm, hb1⟩
    have hb2 : Below w1.heap.size w1 ((w1.alloc (.cells #[.int .i64 t.st, .int .i64 t.rg, .slice A t.ac.length c, .slice B t.mv.length d] 27)).alloc (.cells #[.int .i64 s2, .int .i64 r2, .slice A2 n2 c2, .slice B2 m2 d2] 27)) := ((Below.refl _ _).alloc (Nat.le_refl _) _).alloc (by simp) _
    have k0 : ((w1.alloc (.cells #[.int .i64 t.st, .int .i64 t.rg, .slice A t.ac.length c, .slice B t.mv.length d] 27)).alloc (.cells #[.int .i64 s2, .int .i64 r2, .slice A2 n2 c2, .slice B2 m2 d2] 27)).heap[w1.heap.size]? = some (.cells #[.int .i64 t.st, .int .i64 t.rg, .slice A t.ac.length c, .slice B t.mv.length d] 27 (0, 0)) := (Below.heap_alloc _ _ _ (by simp)).trans (heap_alloc_new w1 _)
    have K := Lib.hid k0
    have HBB := Lib.hid (hb1.trans (hb2.mono hb1.size))
    have HM := Lib.hid (hm.below hb2)
    have hdw := drawWord_any A0 n0 c0 ((w1.alloc (.cells #[.int .i64 t.st, .int .i64 t.rg, .slice A t.ac.length c, .slice B t.mv.length d] 27)).alloc (.cells #[.int .i64 s2, .int .i64 r2, .slice A2 n2 c2, .slice B2 m2 d2] 27)) (DrawN.bytes_moreW HA0.out HBB.out) HZ0.out (by omega)
    clear hdr hb1 hb2 k0 hm
    go_wp2_with fail
    refine hdw.mono ?_
    rintro e w2 ⟨l, gl, cl, rfl, hl7, hlt, hlA, hb⟩
    replace K := Lib.hid ((hb.block _ (DrawM.blt K.out)).trans K.out)
    replace HM := Lib.hid (HM.out.below hb)
    replace HBB := Lib.hid (HBB.out.trans (hb.mono HBB.out.size))
    have RL := Lib.hid hlA
    have HLT := Lib.hid hlt
    clear hdw hb hlA hlt
    have hdp := drawPermutations_any A0 n0 c0 w2 (DrawN.bytes_moreW HA0.out HBB.out) (by omega)
    go_wp2_with fail
    refine hdp.mono ?_
    rintro e w3 ⟨p, q, r, Ap, Aq, Ar, cp, cq, cr, rfl, ⟨hP, hlp⟩, _, _, fp, _, _, hb⟩
    replace K := Lib.hid ((hb.block _ (DrawM.blt K.out)).trans K.out)
    replace HM := Lib.hid (HM.out.below hb)
    replace HBB := Lib.hid (HBB.out.trans (hb.mono HBB.out.size))
    replace RL := Lib.hid (RL.out.below hb)
    have HP := Lib.hid hP
    have RP := Lib.hid fp
    clear hdp hb hP fp
    have Hpp := Lib.hid (permB_of HP.out (by omega))
    have hat : ∀ a ∈ l, atomB a = true := fun a ha => by have := HLT.out a ha; unfold atomB; simp; omega
    have hat2 : ∀ a ∈ imsL p l, atomB a = true := fun a ha => by
      unfold imsL at ha
      obtain ⟨x, hx, rfl⟩ := List.mem_map.1 ha
      have h1 := HLT.out x hx
      have h2 := HP.out.atom (a := x) (by omega)
      unfold atomB; simpa using h2
    have wb1 : wordB l = true := by unfold wordB atomsB; rw [List.all_eq_true.2 hat]; simp; omega
    have wb2 : wordB (imsL p l) = true := by unfold wordB atomsB; rw [List.all_eq_true.2 hat2, imsL_len]; simp; omega
    have ok1 : runOk t l = true := by unfold runOk; rw [hmb, wb1]; rfl
    have ok2 : runOk t (imsL p l) = true := by unfold runOk; rw [hmb, wb2]; rfl
    have hgd := good_of hmb
    have hso := runM_ok hgd l
    have hqq := MacR.runM_ims HP.out t l
    have HRI := Lib.hid (MacR.regs_in t l)
    have hfm : FitM t := ⟨by have := hgd.al; have := hgd.s9; omega, by
      have h1 := hgd.ml
      have h2 : t.st * casZ t.rg ≤ 9 * 8 := Int.mul_le_mul hgd.s9 hgd.casZ_le.2 (by have := hgd.casZ_le; omega) (by omega)
      omega⟩
    have hrm := runMachine_impl t hfm (.agg #[.int .i64 t.st, .int .i64 t.rg, .slice A t.ac.length c, .slice B t.mv.length d]) (some ⟨gl, 0, none⟩) cl l w3 HM.out RL.out (by omega)
    have hq1 : runQ t l = (runM t l).1 := by unfold runQ; rw [ok1]; rfl
    have hv1 : runV t l = (runM t l).2 := by unfold runV; rw [ok1]; rfl
    have hq2 : runQ t (imsL p l) = (runM t l).1 := by unfold runQ; rw [ok2, hqq]; rfl
    have hv2 : runV t (imsL p l) = (runM t l).2.map (imgL p) := by unfold runV; rw [ok2, hqq]; rfl
    have hrl : (runM t l).2.length = t.rg.toNat := hso.2.2
    have hacc : accB t l = btAt t.ac (runM t l).1.toNat := by unfold accB lastB; rw [ok1]; rfl
    have hqb : 0 ≤ (runM t l).1 ∧ (runM t l).1 < t.st := ⟨hso.1, hso.2.1⟩
    have HRM := Lib.hid (fun (W : World) (k : Below w3.heap.size w3 W) (A9 : Option Addr) (c9 : Nat) (hA9 : IntsAt W A9 (imsL p l)) => (by have h1 := runMachine_impl t hfm (.agg #[.int .i64 t.st, .int .i64 t.rg, .slice A t.ac.length c, .slice B t.mv.length d]) A9 c9 (imsL p l) W (HM.out.below k) hA9 (by rw [imsL_len]; omega); rw [hq2, hv2, ok2] at h1; exact h1 : Calls Try.prog 9 #[(.agg #[.int .i64 t.st, .int .i64 t.rg, .slice A t.ac.length c, .slice B t.mv.length d]), .slice A9 (imsL p l).length c9] W (NumRowB (runM t l).1 ((runM t l).2.map (imgL p)) true W)))
    have HAC := Lib.hid (fun (W : World) (k : Below w3.heap.size w3 W) => (by have h1 := acceptsWord_impl t hfm (.agg #[.int .i64 t.st, .int .i64 t.rg, .slice A t.ac.length c, .slice B t.mv.length d]) (some ⟨gl, 0, none⟩) cl l W (HM.out.below k) (RL.out.below k) (by omega); rw [hacc] at h1; exact h1 : Calls Try.prog 13 #[(.agg #[.int .i64 t.st, .int .i64 t.rg, .slice A t.ac.length c, .slice B t.mv.length d]), .slice (some ⟨gl, 0, none⟩) l.length cl] W (fun e w' => e = .returned (.bool (btAt t.ac (runM t l).1.toNat)) ∧ Below W.heap.size W w')))
    have HAT := Lib.hid (fun (W : World) (k : Below w3.heap.size w3 W) => lawAct_any Ap (some ⟨gl, 0, none⟩) cp cl p l W (RP.out.below k) (RL.out.below k) (by omega) (by omega) Hpp.out hat)
    have HAL := Lib.hid (hgd.al)
    rw [hq1, hv1, ok1] at hrm
    generalize (runM t l).1 = qs at *
    obtain ⟨qn, rfl⟩ : ∃ n : Nat, qs = (n : Int) := ⟨qs.toNat, by omega⟩
    rw [Int.toNat_natCast] at HAC
    have HBA : Hid (BoolsAt w3 A t.ac) := Lib.hid (by obtain ⟨_, _, _, _, e, h2, _⟩ := HM.out; simp only [Value.agg.injEq, Array.mk.injEq, List.cons.injEq, Value.slice.injEq, and_true, true_and] at e; obtain ⟨⟨rfl, rfl⟩, rfl, rfl⟩ := e; exact h2)
    have hqa : qn < t.ac.length := by have := hgd.al; omega
    generalize (runM t l).2 = rs at *
    have HRL := Lib.hid hrl
    have HRG := Lib.hid hgd.r0
    clear hq1 hv1 hq2 hv2 hacc hqq hso ok1 ok2 wb1 wb2 hat2 hgd hmb hrl
    have HAT2 := Lib.hid hat
    clear hat
    obtain ⟨b0, b1, b2, b3⟩ := DrawM.box4 K.out
    go_wp2_with fail
    refine hrm.mono ?_
    rintro e w4 ⟨v4, rfl, ho4, hb4⟩
    obtain ⟨A5, c5, rfl, hA5⟩ := own_intsAt ho4
    have RR := Lib.hid hA5
    clear hrm ho4 hA5 b0 b1 b2 b3
    have HSC : Hid (∀ W : World, Below w3.heap.size w3 W → W.cell? ⟨w1.heap.size, 0, none⟩ = some (.int .i64 t.st) ∧ W.cell? ⟨w1.heap.size, 1, none⟩ = some (.int .i64 t.rg) ∧ W.cell? ⟨w1.heap.size, 2, none⟩ = some (.slice A t.ac.length c) ∧ W.cell? ⟨w1.heap.size, 3, none⟩ = some (.slice B t.mv.length d)) := Lib.hid (fun W k => DrawM.box4 ((k.block _ (DrawM.blt K.out)).trans K.out))
    have hdr : Below w4.heap.size w4 w4.drew := ⟨rfl, rfl, rfl, Nat.le_refl _, fun _ _ => rfl⟩
    have hb4d := hb4.trans (hdr.mono hb4.size)
    obtain ⟨f0, f1, f2, f3⟩ := HSC.out w4.drew hb4d
    have hat := HAT.out w4.drew hb4d
    have HB4 := Lib.hid hb4
    clear hb4
    go_wp2
    go_region_held3 (fun w' => w'.cell? ⟨w1.heap.size, 0, none⟩ = some (.int .i64 t.st) ∧ w'.cell? ⟨w1.heap.size, 1, none⟩ = some (.int .i64 t.rg) ∧ w'.cell? ⟨w1.heap.size, 2, none⟩ = some (.slice A t.ac.length c) ∧ w'.cell? ⟨w1.heap.size, 3, none⟩ = some (.slice B t.mv.length d))
      (with_reducible exact ⟨by assumption, by assumption, by assumption, by assumption⟩)
      (first
      | (go_at_call 10; (with_reducible refine hat.mono ?_); rintro e w5 ⟨v9, rfl, ho9, hb5⟩; obtain ⟨A9, c9, rfl, hA9⟩ := own_intsAt ho9; have k5 := hb4d.trans (hb5.mono hb4d.size); obtain ⟨g0, g1, g2, g3⟩ := HSC.out w5 k5; have hr5 := HRM.out w5 k5 A9 c9 hA9)
      | (go_at_call 9; (with_reducible refine hr5.mono ?_); rintro e w6 ⟨v6, rfl, ho6, hb6⟩; obtain ⟨A6, c6, rfl, hA6⟩ := own_intsAt ho6; have k6 := k5.trans (hb6.mono k5.size); obtain ⟨j0, j1, j2, j3⟩ := HSC.out w6 k6)
      | fail)
    have hb46 : Below w4.heap.size w4 w6 := hdr.trans ((hb5.trans (hb6.mono hb5.size)).mono hdr.size)
    have RS := Lib.hid hA6
    have RR6 := Lib.hid (RR.out.below hb46)
    have K6 := Lib.hid k6
    have hd1 : ((rs.length : Int) != t.rg) = false := by have h1 := HRL.out; have h2 := HRG.out; simp; omega
    have hd2 : ((qn : Int) != (qn : Int)) = false := by simp
    have hml : (rs.map (imgL p)).length = rs.length := List.length_map _
    have hrs3 : rs.length ≤ 3 := by have h1 := HRL.out; omega
    clear hat hdr hb4d hb46 hb5 hb6 ho9 hA9 ho6 hA6 k5 k6 hr5 f0 f1 f2 f3 g0 g1 g2 g3
    obtain ⟨b0, b1, b2, b3⟩ := HSC.out w6 K6.out
    go_wp2
    clear b0 b1 b2 b3 hd1 hd2
    go_loopw [15] (fun i wr => ∃ k : Nat, k ≤ rs.length ∧ i = .int .i64 k ∧ Below w6.heap.size w6 wr) (fun i _ => rs.length - (intOf i).toNat)
    case atStart => exact ⟨0, Nat.zero_le _, rfl, Below.refl _ _⟩
    case round =>
      obtain ⟨k, hk, rfl, hb⟩ := hrel
      have hbw := K6.out.trans (hb.mono K6.out.size)
      by_cases hlk : k < rs.length
      · obtain ⟨bA, oA, hAe, hbA, hcA⟩ := RR6.out.below hb (by omega)
        obtain ⟨bS, oS, hSe, hbS, hcS⟩ := RS.out.below hb (by rw [hml]; omega)
        subst hAe
        subst hSe
        have y1 := hcA k hlk
        have y2 := hcS k (by rw [hml]; exact hlk)
        rw [itAt_get _ _ (by rw [hml]; exact hlk), List.getElem_map, ← itAt_get rs k hlk] at y2
        have hri := HRI.out (itAt rs k) (by rw [itAt_get _ _ hlk]; exact List.getElem_mem hlk)
        have hki : (k : Int) < (rs.length : Int) := by omega
        have hk0 : (0 : Int) ≤ (k : Int) := by omega
        have hkm : (k : Int) < ((rs.map (imgL p)).length : Int) := by omega
        generalize itAt rs k = r at y1 y2 hri
        rcases hri with rfl | hrl
        · have him : imgL p (-1) = -1 := imgL_out fun h => by have := HP.out.dom _ h; omega
          rw [him] at y2
          have q1 := fun d os => cell_regrown y1 d os
          have q2 := fun d os => cell_regrown y2 d os
          clear him hcA hcS y1 y2
          go_wp2
          refine wp_region_quiet_below (by kernel_rfl) (by kernel_rfl) ?_
          repeat (any_goals (first | go_big_quiet_step (fail) | quiet_step (fail)))
          refine wpQuiet_nil ?_
          intro _ hw'
          obtain ⟨⟨dq, osq⟩, hw''⟩ := hw'
          subst hw''
          have hqz := hb.trans ((below_regrown wr dq osq).mono hb.size)
          generalize grow (redrawn wr dq) osq = we at hqz ⊢
          clear q1 q2 hb hbw
          go_wp2
          refine ⟨⟨k + 1, by omega, by go_num, hqz⟩, ?_⟩
          simp only [intOf]
          omega
        · have hr4 := HLT.out r hrl
          have hat1 := HAT2.out r hrl
          have e1 : decide (r < 0) = false := by simp; omega
          have e2 : decide (0 ≤ r) = true := by simp; omega
          have e3 : ¬ r < 0 := by omega
          have e4 : 0 ≤ r := by omega
          have hio := fun d os => imageOf_impl Ap cp p r (grow (redrawn wr d) os) ((RP.out.below hbw).below (below_regrown wr d os)) (by omega)
          simp only [imageF_yes Hpp.out hat1] at hio
          have hhas := fun d os => lawHas_any (some ⟨gl, 0, none⟩) cl l r (grow (redrawn wr d) os) ((RL.out.below hbw).below (below_regrown wr d os)) (by omega)
          have hhb : hasB l r = true := by unfold hasB; rw [List.contains_iff_mem]; exact hrl
          simp only [hhb] at hhas
          have q1 := fun d os => cell_regrown y1 d os
          have q2 := fun d os => cell_regrown y2 d os
          generalize imgL p r = y at q2 hio
          have hyy : (y != y) = false := by simp
          clear hcA hcS y1 y2 hr4 hat1 hrl hhb
          go_wp2
          refine wp_region_quiet_below (by kernel_rfl) (by kernel_rfl) ?_
          repeat (any_goals (first | go_big_quiet_step ((first | (go_at_call 11; (with_reducible exact Calls.regrown_of (hio _ _))) | (go_at_call 12; exact Calls.regrown_of ((hhas _ _).mono fun _ _ h => ⟨h.1, h.2 ▸ Below.refl _ _⟩)))) | quiet_step ((first | (go_at_call 11; (with_reducible exact Calls.regrown_of (hio _ _))) | (go_at_call 12; exact Calls.regrown_of ((hhas _ _).mono fun _ _ h => ⟨h.1, h.2 ▸ Below.refl _ _⟩))))))
          refine wpQuiet_nil ?_
          intro _ hw'
          obtain ⟨⟨dq, osq⟩, hw''⟩ := hw'
          subst hw''
          have hqz := hb.trans ((below_regrown wr dq osq).mono hb.size)
          generalize grow (redrawn wr dq) osq = we at hqz ⊢
          clear q1 q2 hio hhas hyy e1 e2 e3 e4 hb hbw
          go_wp2
          refine ⟨⟨k + 1, by omega, by go_num, hqz⟩, ?_⟩
          simp only [intOf]
          omega
      · have e : k = rs.length := by omega
        subst e
        obtain ⟨bB, oB, hBe, hbB, hcB⟩ := HBA.out.below hbw (by omega)
        subst hBe
        have y1 := hcB qn hqa
        obtain ⟨b0, b1, b2, b3⟩ := HSC.out wr hbw
        have q0 := fun d os => cell_regrown b0 d os
        have q1 := fun d os => cell_regrown b1 d os
        have q2 := fun d os => cell_regrown b2 d os
        have q3 := fun d os => cell_regrown b3 d os
        have q4 := fun d os => cell_regrown y1 d os
        have hac := fun d os => HAC.out (grow (redrawn wr d) os) (hbw.trans ((below_regrown wr d os).mono hbw.size))
        have hqi : (qn : Int) < (t.ac.length : Int) := by omega
        have hq0 : (0 : Int) ≤ (qn : Int) := by omega
        generalize btAt t.ac qn = bv at q4 hac
        have hbb : (bv == bv) = true := by simp
        clear b0 b1 b2 b3 y1 hcB
        go_wp2
        refine wp_region_quiet_below (by kernel_rfl) (by kernel_rfl) ?_
        repeat (any_goals (first | go_big_quiet_step ((go_at_call 13; (with_reducible exact Calls.regrown_of (hac _ _)))) | quiet_step ((go_at_call 13; (with_reducible exact Calls.regrown_of (hac _ _))))))
        refine wpQuiet_nil ?_
        intro _ hw'
        obtain ⟨⟨dq, osq⟩, hw''⟩ := hw'
        subst hw''
        have hqz := hb.trans ((below_regrown wr dq osq).mono hb.size)
        generalize grow (redrawn wr dq) osq = we at hqz ⊢
        have hbz := HBB.out.trans ((K6.out.trans (hqz.mono K6.out.size)).mono HBB.out.size)
        clear q0 q1 q2 q3 q4 hac hb hbw
        go_wp2
        go_ret
        exact ⟨rfl, hbz⟩
  · have hbig : 4096 < n0 := by omega
    clear hn hA0
    go_enter Try.func3, Try.ntmps3
    go_wp2_with (go_at_call 5; refine (big_yes _ _ _ _ hbig (by omega)).mono ?_; rintro e w' ⟨rfl, rfl⟩)
    go_ret
    exact ⟨rfl, Below.refl _ _⟩
end fnRun
end Go.Proofs.Ytcginiklekdbgaa
end

section
namespace Go.Proofs.Ytcginiklekdbgaa
open Go.RowKit Go.Sort
set_option linter.unusedVariables false

namespace DrawM
/-- The first machine lies in the box g, the two answers' boxes hold x and y. -/
structure Duo (w : World) (C g base : Nat) (t : Mach) (gA cA gB cB : Nat) (x0 x1 x2 x3 y0 y1 y2 y3 : Value) (wr : World) : Prop where
  bx : wr.heap[g]? = some (.cells #[(.int .i64 t.st), (.int .i64 t.rg), (.slice (some ⟨gA, 0, none⟩) t.ac.length cA), (.slice (some ⟨gB, 0, none⟩) t.mv.length cB)] 27 (0, 0))
  ra : wr.ownsRow base 4 1 (.slice (some ⟨gA, 0, none⟩) t.ac.length cA) t.ac.length (bcells t.ac)
  rm : wr.ownsRow base 66 2 (.slice (some ⟨gB, 0, none⟩) t.mv.length cB) t.mv.length (cellsOf t.mv)
  r0 : wr.heap[w.heap.size]? = some (.cells #[x0, x1, x2, x3] 27 (0, 0))
  r1 : wr.heap[w.heap.size + 1]? = some (.cells #[y0, y1, y2, y3] 27 (0, 0))
  cu : Cur wr w.heap.size C
  be : Below w.heap.size w wr
  gg : w.heap.size + 2 ≤ g
  cc : w.heap.size + 2 ≤ C
  cg : C ≠ g
  cb : C < base
theorem cur_set {W : World} {B C g o : Nat} {v : Value} (h : Cur W B C) (hB : B ≤ g) (hne : g ≠ C) : Cur (W.setCell ⟨g, o, none⟩ v) B C := by
  have hl := h.lt
  have hs := grown_set W g o v
  obtain ⟨A, n, c, i, x, hblk, hi, hn, hB2, hby⟩ := h
  exact ⟨A, n, c, i, x, (hs.block C hl (fun e => by injection e with e; exact hne e.symm)).trans hblk, hi, hn, hB2, hby.keep fun k hk => hs.block k (by omega) (fun e => by injection e with e; omega)⟩
theorem Duo.drew {w wr : World} {C g base gA cA gB cB : Nat} {t : Mach} {x0 x1 x2 x3 y0 y1 y2 y3 : Value} (h : Duo w C g base t gA cA gB cB x0 x1 x2 x3 y0 y1 y2 y3 wr) {w' : World} (hd : Drew w.heap.size C wr w') : Duo w C g base t gA cA gB cB x0 x1 x2 x3 y0 y1 y2 y3 w' := by
  have hcc := h.cc
  have hgg := h.gg
  have hcg := h.cg
  have hcb := h.cb
  exact ⟨(hd.2.block g (blt h.bx) (fun e => by injection e with e; omega)).trans h.bx, h.ra.kept hd.2 (.inr fun e => by have := (h.ra.lt C e).1; omega), h.rm.kept hd.2 (.inr fun e => by have := (h.rm.lt C e).1; omega),
    (hd.2.block _ (blt h.r0) (fun e => by injection e with e; omega)).trans h.r0, (hd.2.block _ (blt h.r1) (fun e => by injection e with e; omega)).trans h.r1, hd.1, h.be.grown hd.2 h.be.size (fun q e => by injection e with e; omega), hgg, hcc, hcg, hcb⟩
theorem Duo.below {w wr : World} {C g base gA cA gB cB : Nat} {t : Mach} {x0 x1 x2 x3 y0 y1 y2 y3 : Value} (h : Duo w C g base t gA cA gB cB x0 x1 x2 x3 y0 y1 y2 y3 wr) {w' : World} (hb : Below wr.heap.size wr w') : Duo w C g base t gA cA gB cB x0 x1 x2 x3 y0 y1 y2 y3 w' := by
  have hl := h.cu.lt
  have hc := h.cu
  refine ⟨(hb.block g (blt h.bx)).trans h.bx, own_below h.ra hb, own_below h.rm hb, (hb.block _ (blt h.r0)).trans h.r0, (hb.block _ (blt h.r1)).trans h.r1, ?_, h.be.trans (hb.mono h.be.size), h.gg, h.cc, h.cg, h.cb⟩
  obtain ⟨A, n, c, i, x, hblk, hi, hn, hB2, hby⟩ := hc
  exact ⟨A, n, c, i, x, (hb.block C hl).trans hblk, hi, hn, hB2, hby.keep fun k hk => hb.block k (by have := h.be.size; omega)⟩
theorem Duo.put00 {w wr : World} {C g base gA cA gB cB : Nat} {t : Mach} {x0 x1 x2 x3 y0 y1 y2 y3 : Value} (h : Duo w C g base t gA cA gB cB x0 x1 x2 x3 y0 y1 y2 y3 wr) (v : Value) : Duo w C g base t gA cA gB cB v x1 x2 x3 y0 y1 y2 y3 (wr.setCell ⟨w.heap.size, 0, none⟩ v) := by
  have hcc := h.cc
  have hgg := h.gg
  have hcg := h.cg
  have hcb := h.cb
  have hs := grown_set wr w.heap.size 0 v
  exact ⟨(hs.block g (blt h.bx) (fun e => by injection e with e; omega)).trans h.bx, h.ra.kept hs (.inr fun e => by have := (h.ra.lt _ e).1; omega), h.rm.kept hs (.inr fun e => by have := (h.rm.lt _ e).1; omega), heap_setCell_same wr w.heap.size 0 _ _ v h.r0, (hs.block _ (blt h.r1) (fun e => by injection e with e; omega)).trans h.r1, cur_set h.cu (by omega) (by omega), h.be.setCell (p := ⟨w.heap.size, 0, none⟩) (by show w.heap.size ≤ w.heap.size; omega) _, hgg, hcc, hcg, hcb⟩
theorem Duo.put01 {w wr : World} {C g base gA cA gB cB : Nat} {t : Mach} {x0 x1 x2 x3 y0 y1 y2 y3 : Value} (h : Duo w C g base t gA cA gB cB x0 x1 x2 x3 y0 y1 y2 y3 wr) (v : Value) : Duo w C g base t gA cA gB cB x0 v x2 x3 y0 y1 y2 y3 (wr.setCell ⟨w.heap.size, 1, none⟩ v) := by
  have hcc := h.cc
  have hgg := h.gg
  have hcg := h.cg
  have hcb := h.cb
  have hs := grown_set wr w.heap.size 1 v
  exact ⟨(hs.block g (blt h.bx) (fun e => by injection e with e; omega)).trans h.bx, h.ra.kept hs (.inr fun e => by have := (h.ra.lt _ e).1; omega), h.rm.kept hs (.inr fun e => by have := (h.rm.lt _ e).1; omega), heap_setCell_same wr w.heap.size 1 _ _ v h.r0, (hs.block _ (blt h.r1) (fun e => by injection e with e; omega)).trans h.r1, cur_set h.cu (by omega) (by omega), h.be.setCell (p := ⟨w.heap.size, 1, none⟩) (by show w.heap.size ≤ w.heap.size; omega) _, hgg, hcc, hcg, hcb⟩
theorem Duo.put02 {w wr : World} {C g base gA cA gB cB : Nat} {t : Mach} {x0 x1 x2 x3 y0 y1 y2 y3 : Value} (h : Duo w C g base t gA cA gB cB x0 x1 x2 x3 y0 y1 y2 y3 wr) (v : Value) : Duo w C g base t gA cA gB cB x0 x1 v x3 y0 y1 y2 y3 (wr.setCell ⟨w.heap.size, 2, none⟩ v) := by
  have hcc := h.cc
  have hgg := h.gg
  have hcg := h.cg
  have hcb := h.cb
  have hs := grown_set wr w.heap.size 2 v
  exact ⟨(hs.block g (blt h.bx) (fun e => by injection e with e; omega)).trans h.bx, h.ra.kept hs (.inr fun e => by have := (h.ra.lt _ e).1; omega), h.rm.kept hs (.inr fun e => by have := (h.rm.lt _ e).1; omega), heap_setCell_same wr w.heap.size 2 _ _ v h.r0, (hs.block _ (blt h.r1) (fun e => by injection e with e; omega)).trans h.r1, cur_set h.cu (by omega) (by omega), h.be.setCell (p := ⟨w.heap.size, 2, none⟩) (by show w.heap.size ≤ w.heap.size; omega) _, hgg, hcc, hcg, hcb⟩
theorem Duo.put03 {w wr : World} {C g base gA cA gB cB : Nat} {t : Mach} {x0 x1 x2 x3 y0 y1 y2 y3 : Value} (h : Duo w C g base t gA cA gB cB x0 x1 x2 x3 y0 y1 y2 y3 wr) (v : Value) : Duo w C g base t gA cA gB cB x0 x1 x2 v y0 y1 y2 y3 (wr.setCell ⟨w.heap.size, 3, none⟩ v) := by
  have hcc := h.cc
  have hgg := h.gg
  have hcg := h.cg
  have hcb := h.cb
  have hs := grown_set wr w.heap.size 3 v
  exact ⟨(hs.block g (blt h.bx) (fun e => by injection e with e; omega)).trans h.bx, h.ra.kept hs (.inr fun e => by have := (h.ra.lt _ e).1; omega), h.rm.kept hs (.inr fun e => by have := (h.rm.lt _ e).1; omega), heap_setCell_same wr w.heap.size 3 _ _ v h.r0, (hs.block _ (blt h.r1) (fun e => by injection e with e; omega)).trans h.r1, cur_set h.cu (by omega) (by omega), h.be.setCell (p := ⟨w.heap.size, 3, none⟩) (by show w.heap.size ≤ w.heap.size; omega) _, hgg, hcc, hcg, hcb⟩
theorem Duo.set0 {w wr : World} {C g base gA cA gB cB : Nat} {t : Mach} {x0 x1 x2 x3 y0 y1 y2 y3 : Value} (h : Duo w C g base t gA cA gB cB x0 x1 x2 x3 y0 y1 y2 y3 wr) (a b c d : Value) : Duo w C g base t gA cA gB cB a b c d y0 y1 y2 y3 ((((wr.setCell ⟨w.heap.size, 0, none⟩ a).setCell ⟨w.heap.size, 1, none⟩ b).setCell ⟨w.heap.size, 2, none⟩ c).setCell ⟨w.heap.size, 3, none⟩ d) :=
  (((h.put00 a).put01 b).put02 c).put03 d
theorem Duo.put10 {w wr : World} {C g base gA cA gB cB : Nat} {t : Mach} {x0 x1 x2 x3 y0 y1 y2 y3 : Value} (h : Duo w C g base t gA cA gB cB x0 x1 x2 x3 y0 y1 y2 y3 wr) (v : Value) : Duo w C g base t gA cA gB cB x0 x1 x2 x3 v y1 y2 y3 (wr.setCell ⟨w.heap.size + 1, 0, none⟩ v) := by
  have hcc := h.cc
  have hgg := h.gg
  have hcg := h.cg
  have hcb := h.cb
  have hs := grown_set wr (w.heap.size + 1) 0 v
  exact ⟨(hs.block g (blt h.bx) (fun e => by injection e with e; omega)).trans h.bx, h.ra.kept hs (.inr fun e => by have := (h.ra.lt _ e).1; omega), h.rm.kept hs (.inr fun e => by have := (h.rm.lt _ e).1; omega), (hs.block _ (blt h.r0) (fun e => by injection e with e; omega)).trans h.r0, heap_setCell_same wr (w.heap.size + 1) 0 _ _ v h.r1, cur_set h.cu (by omega) (by omega), h.be.setCell (p := ⟨w.heap.size + 1, 0, none⟩) (by show w.heap.size ≤ w.heap.size + 1; omega) _, hgg, hcc, hcg, hcb⟩
theorem Duo.put11 {w wr : World} {C g base gA cA gB cB : Nat} {t : Mach} {x0 x1 x2 x3 y0 y1 y2 y3 : Value} (h : Duo w C g base t gA cA gB cB x0 x1 x2 x3 y0 y1 y2 y3 wr) (v : Value) : Duo w C g base t gA cA gB cB x0 x1 x2 x3 y0 v y2 y3 (wr.setCell ⟨w.heap.size + 1, 1, none⟩ v) := by
  have hcc := h.cc
  have hgg := h.gg
  have hcg := h.cg
  have hcb := h.cb
  have hs := grown_set wr (w.heap.size + 1) 1 v
  exact ⟨(hs.block g (blt h.bx) (fun e => by injection e with e; omega)).trans h.bx, h.ra.kept hs (.inr fun e => by have := (h.ra.lt _ e).1; omega), h.rm.kept hs (.inr fun e => by have := (h.rm.lt _ e).1; omega), (hs.block _ (blt h.r0) (fun e => by injection e with e; omega)).trans h.r0, heap_setCell_same wr (w.heap.size + 1) 1 _ _ v h.r1, cur_set h.cu (by omega) (by omega), h.be.setCell (p := ⟨w.heap.size + 1, 1, none⟩) (by show w.heap.size ≤ w.heap.size + 1; omega) _, hgg, hcc, hcg, hcb⟩
theorem Duo.put12 {w wr : World} {C g base gA cA gB cB : Nat} {t : Mach} {x0 x1 x2 x3 y0 y1 y2 y3 : Value} (h : Duo w C g base t gA cA gB cB x0 x1 x2 x3 y0 y1 y2 y3 wr) (v : Value) : Duo w C g base t gA cA gB cB x0 x1 x2 x3 y0 y1 v y3 (wr.setCell ⟨w.heap.size + 1, 2, none⟩ v) := by
  have hcc := h.cc
  have hgg := h.gg
  have hcg := h.cg
  have hcb := h.cb
  have hs := grown_set wr (w.heap.size + 1) 2 v
  exact ⟨(hs.block g (blt h.bx) (fun e => by injection e with e; omega)).trans h.bx, h.ra.kept hs (.inr fun e => by have := (h.ra.lt _ e).1; omega), h.rm.kept hs (.inr fun e => by have := (h.rm.lt _ e).1; omega), (hs.block _ (blt h.r0) (fun e => by injection e with e; omega)).trans h.r0, heap_setCell_same wr (w.heap.size + 1) 2 _ _ v h.r1, cur_set h.cu (by omega) (by omega), h.be.setCell (p := ⟨w.heap.size + 1, 2, none⟩) (by show w.heap.size ≤ w.heap.size + 1; omega) _, hgg, hcc, hcg, hcb⟩
theorem Duo.put13 {w wr : World} {C g base gA cA gB cB : Nat} {t : Mach} {x0 x1 x2 x3 y0 y1 y2 y3 : Value} (h : Duo w C g base t gA cA gB cB x0 x1 x2 x3 y0 y1 y2 y3 wr) (v : Value) : Duo w C g base t gA cA gB cB x0 x1 x2 x3 y0 y1 y2 v (wr.setCell ⟨w.heap.size + 1, 3, none⟩ v) := by
  have hcc := h.cc
  have hgg := h.gg
  have hcg := h.cg
  have hcb := h.cb
  have hs := grown_set wr (w.heap.size + 1) 3 v
  exact ⟨(hs.block g (blt h.bx) (fun e => by injection e with e; omega)).trans h.bx, h.ra.kept hs (.inr fun e => by have := (h.ra.lt _ e).1; omega), h.rm.kept hs (.inr fun e => by have := (h.rm.lt _ e).1; omega), (hs.block _ (blt h.r0) (fun e => by injection e with e; omega)).trans h.r0, heap_setCell_same wr (w.heap.size + 1) 3 _ _ v h.r1, cur_set h.cu (by omega) (by omega), h.be.setCell (p := ⟨w.heap.size + 1, 3, none⟩) (by show w.heap.size ≤ w.heap.size + 1; omega) _, hgg, hcc, hcg, hcb⟩
theorem Duo.set1 {w wr : World} {C g base gA cA gB cB : Nat} {t : Mach} {x0 x1 x2 x3 y0 y1 y2 y3 : Value} (h : Duo w C g base t gA cA gB cB x0 x1 x2 x3 y0 y1 y2 y3 wr) (a b c d : Value) : Duo w C g base t gA cA gB cB x0 x1 x2 x3 a b c d ((((wr.setCell ⟨w.heap.size + 1, 0, none⟩ a).setCell ⟨w.heap.size + 1, 1, none⟩ b).setCell ⟨w.heap.size + 1, 2, none⟩ c).setCell ⟨w.heap.size + 1, 3, none⟩ d) :=
  (((h.put10 a).put11 b).put12 c).put13 d
theorem own_cap {w : World} {base size n cap : Nat} {e : TypeId} {A : Option Addr} {xs : List Value} (h : w.ownsRow base e size (.slice A n cap) n xs) : n ≤ cap := by
  rcases h.2 with ⟨h1, rfl⟩ | ⟨g', cap', cur, h1, _, _, h2, _⟩
  · exact Nat.zero_le _
  · injection h1 with _ _ h3
    omega
theorem Duo.out {w wr : World} {C g base gA cA gB cB : Nat} {t : Mach} {x0 x1 x2 x3 y0 y1 y2 y3 : Value} (h : Duo w C g base t gA cA gB cB x0 x1 x2 x3 y0 y1 y2 y3 wr) (hmb : machB t = true) : MachIx wr (.agg #[(.int .i64 t.st), (.int .i64 t.rg), (.slice (some ⟨gA, 0, none⟩) t.ac.length cA), (.slice (some ⟨gB, 0, none⟩) t.mv.length cB)]) t ∧ Below w.heap.size w wr := by
  have h9 := Twin.mach_len hmb
  have hn0 := own_cap h.ra
  have hn1 := own_cap h.rm
  obtain ⟨A8, c8, e8, h8⟩ := own_boolsAt h.ra
  obtain ⟨A7, c7, e7, h7⟩ := own_pairsAt h.rm
  simp only [Value.slice.injEq, true_and] at e8 e7
  obtain ⟨rfl, rfl⟩ := e8
  obtain ⟨rfl, rfl⟩ := e7
  exact ⟨⟨_, _, _, _, rfl, h8, h7, (fun e => by cases e), (fun e => by cases e), by omega, by omega⟩, h.be⟩
theorem set4_keep {w : World} {h g q : Nat} {v a b c d : Value} (hv : w.cell? ⟨h, q, none⟩ = some v) (hne : h ≠ g) : ((((w.setCell ⟨g, 0, none⟩ a).setCell ⟨g, 1, none⟩ b).setCell ⟨g, 2, none⟩ c).setCell ⟨g, 3, none⟩ d).cell? ⟨h, q, none⟩ = some v := by
  have hlt : h < w.heap.size := by
    rcases Nat.lt_or_ge h w.heap.size with h3 | h3
    · exact h3
    · simp [World.cell?, Array.getElem?_eq_none h3] at hv
  have e : ∀ (W : World) (o : Nat) (x : Value), W.heap[h]? = w.heap[h]? → (W.setCell ⟨g, o, none⟩ x).heap[h]? = w.heap[h]? := fun W o x hW => (heap_setCell_other W ⟨g, o, none⟩ h _ hne).trans hW
  exact (World.cell?_of_block (w := w) (a := ⟨h, q, none⟩) (e _ 3 d (e _ 2 c (e _ 1 b (e _ 0 a rfl))))).trans hv
end DrawM
end Go.Proofs.Ytcginiklekdbgaa
end

section
namespace Go.Proofs.Ytcginiklekdbgaa
open Go.RowKit Go.Sort
set_option linter.unusedVariables false
namespace DrawM
theorem start2 (w : World) : ((w.alloc (.cells #[.int .i64 0, .int .i64 0, .slice none 0 0, .slice none 0 0] 27)).alloc (.cells #[.int .i64 0, .int .i64 0, .slice none 0 0, .slice none 0 0] 27)).heap[w.heap.size]? = some (.cells #[.int .i64 0, .int .i64 0, .slice none 0 0, .slice none 0 0] 27 (0, 0)) ∧ ((w.alloc (.cells #[.int .i64 0, .int .i64 0, .slice none 0 0, .slice none 0 0] 27)).alloc (.cells #[.int .i64 0, .int .i64 0, .slice none 0 0, .slice none 0 0] 27)).heap[w.heap.size + 1]? = some (.cells #[.int .i64 0, .int .i64 0, .slice none 0 0, .slice none 0 0] 27 (0, 0)) ∧ ((w.alloc (.cells #[.int .i64 0, .int .i64 0, .slice none 0 0, .slice none 0 0] 27)).alloc (.cells #[.int .i64 0, .int .i64 0, .slice none 0 0, .slice none 0 0] 27)).heap.size = w.heap.size + 2 ∧ Below w.heap.size w ((w.alloc (.cells #[.int .i64 0, .int .i64 0, .slice none 0 0, .slice none 0 0] 27)).alloc (.cells #[.int .i64 0, .int .i64 0, .slice none 0 0, .slice none 0 0] 27)) := by
  have h1 := heap_alloc_new w (.cells #[.int .i64 0, .int .i64 0, .slice none 0 0, .slice none 0 0] 27)
  have h2 := heap_alloc_new (w.alloc (.cells #[.int .i64 0, .int .i64 0, .slice none 0 0, .slice none 0 0] 27)) (.cells #[.int .i64 0, .int .i64 0, .slice none 0 0, .slice none 0 0] 27)
  rw [World.size_alloc] at h2
  refine ⟨(Below.heap_alloc _ _ _ (by rw [World.size_alloc]; omega)).trans h1, h2, by rw [World.size_alloc, World.size_alloc], ((Below.refl _ _).alloc (Nat.le_refl _) _).alloc (by rw [World.size_alloc]; omega) _⟩
theorem fz4 {w : World} {g : Nat} {a b c d : Value} {T : TypeId} (h : w.heap[g]? = some (.cells #[a, b, c, d] T (0, 0))) : w.frozen? ⟨g, 0, none⟩ = false ∧ w.frozen? ⟨g, 1, none⟩ = false ∧ w.frozen? ⟨g, 2, none⟩ = false ∧ w.frozen? ⟨g, 3, none⟩ = false :=
  ⟨frozen_of_row _ _ 0 _ _ h, frozen_of_row _ _ 1 _ _ h, frozen_of_row _ _ 2 _ _ h, frozen_of_row _ _ 3 _ _ h⟩
theorem Duo.drw {w wr : World} {C g base gA cA gB cB : Nat} {t : Mach} {x0 x1 x2 x3 y0 y1 y2 y3 : Value} (h : Duo w C g base t gA cA gB cB x0 x1 x2 x3 y0 y1 y2 y3 wr) : Duo w C g base t gA cA gB cB x0 x1 x2 x3 y0 y1 y2 y3 wr.drew :=
  h.below ⟨rfl, rfl, rfl, Nat.le_refl _, fun _ _ => rfl⟩
theorem drw_cell (W : World) (p : Addr) : W.drew.cell? p = W.cell? p := rfl
theorem set4_keepd {w : World} {h g q : Nat} {v a b c d : Value} (hv : w.drew.cell? ⟨h, q, none⟩ = some v) (hne : h ≠ g) : ((((w.setCell ⟨g, 0, none⟩ a).setCell ⟨g, 1, none⟩ b).setCell ⟨g, 2, none⟩ c).setCell ⟨g, 3, none⟩ d).drew.cell? ⟨h, q, none⟩ = some v := by
  rw [drw_cell] at hv ⊢
  exact set4_keep hv hne
end DrawM
set_option maxRecDepth 100000 in
set_option maxHeartbeats 16000000 in
theorem drawMachines_any : DrawM.MachinesP := by
  intro A n c w hA hn
  obtain ⟨r0, r1, hz0, hb0⟩ := DrawM.start2 w
  have hnew := l1New_up A n c w.heap.size ((w.alloc (.cells #[.int .i64 0, .int .i64 0, .slice none 0 0, .slice none 0 0] 27)).alloc (.cells #[.int .i64 0, .int .i64 0, .slice none 0 0, .slice none 0 0] 27)) (BytesAt.keep hA hb0.block) (by omega) hn
  have HR0 := Lib.hid r0
  have HR1 := Lib.hid r1
  have HZ0 := Lib.hid hz0
  have HB0 := Lib.hid hb0
  clear hA r0 r1 hz0 hb0
  go_enter Try.func6, Try.ntmps6
  go_wp2_with fail
  refine hnew.mono ?_
  rintro e w1 ⟨C, rfl, hc1, hb1, hCl⟩
  have hz := HZ0.out
  have hC1 := hc1.lt
  have hs1 := hb1.size
  have k0 := (hb1.block w.heap.size (by omega)).trans HR0.out
  have k1 := (hb1.block (w.heap.size + 1) (by omega)).trans HR1.out
  have hbe := HB0.out.trans (hb1.mono HB0.out.size)
  have hdr := l7Draw_any w.heap.size C 3 2 (by decide) (by decide) w1 hc1
  rw [show ((3 : Nat) : Int) = 3 from rfl, show ((2 : Nat) : Int) = 2 from rfl] at hdr
  rw [hz] at hCl hs1
  clear hnew HR0 HR1 HZ0 HB0 hb1 hz
  go_wp2_with fail
  refine hdr.mono ?_
  rintro e w2 ⟨t, vA, vB, rfl, hmb, hst, hrg, ra, rm, hd2⟩
  have h9 := Twin.mach_len hmb
  obtain ⟨gA, cA, rfl, _, _⟩ := ra.form h9.1
  obtain ⟨gB, cB, rfl, _, _⟩ := rm.form h9.2.2.1
  have hs2 := hd2.2.size
  have hD : DrawM.Duo w C w2.heap.size (w1.heap.size + 1) t gA cA gB cB (.int .i64 0) (.int .i64 0) (.slice none 0 0) (.slice none 0 0) (.int .i64 0) (.int .i64 0) (.slice none 0 0) (.slice none 0 0) (w2.alloc (.cells #[(.int .i64 t.st), (.int .i64 t.rg), (.slice (some ⟨gA, 0, none⟩) t.ac.length cA), (.slice (some ⟨gB, 0, none⟩) t.mv.length cB)] 27)) := by
    have hbx : Below w2.heap.size w2 (w2.alloc (.cells #[(.int .i64 t.st), (.int .i64 t.rg), (.slice (some ⟨gA, 0, none⟩) t.ac.length cA), (.slice (some ⟨gB, 0, none⟩) t.mv.length cB)] 27)) := (Below.refl _ _).alloc (Nat.le_refl _) _
    refine ⟨heap_alloc_new w2 _, own_below ra hbx, own_below rm hbx, (hbx.block _ (by omega)).trans ((hd2.2.block _ (by omega) (fun e => by injection e with e; omega)).trans k0), (hbx.block _ (by omega)).trans ((hd2.2.block _ (by omega) (fun e => by injection e with e; omega)).trans k1), ?_, (hbe.grown hd2.2 hbe.size (fun q e => by injection e with e; omega)).trans (hbx.mono (by omega)), by omega, by omega, by omega, by omega⟩
    exact hd2.1.alloc _
  have hon := l1Once_any w.heap.size C 2 _ hD.cu (by omega) (by omega)
  have HD := Lib.hid hD
  clear hdr ra rm hd2 k0 k1 hbe hD
  go_wp2_with fail
  refine hon.mono ?_
  rintro e w3 ⟨b, rfl, hd3⟩
  have hD3 := HD.out.drew hd3
  clear hon hd3 HD
  obtain ⟨g, hg⟩ : ∃ g : Nat, g = w2.heap.size := ⟨_, rfl⟩
  rw [← hg] at hD3 ⊢
  have hgg := hD3.gg
  have HD3 := Lib.hid hD3
  have HMB := Lib.hid hmb
  have hn0 : ¬ g = w.heap.size := by omega
  have hn1 : ¬ g = w.heap.size + 1 := by omega
  have hn2 : ¬ w.heap.size = g := by omega
  have hn3 : ¬ w.heap.size + 1 = g := by omega
  have hw : Below w3.heap.size w3 w3.drew := ⟨rfl, rfl, rfl, Nat.le_refl _, fun _ _ => rfl⟩
  clear hg hs1 hs2 hC1 hCl hc1 hD3 hmb
  cases b with
  | true =>
    have hDd := HD3.out.below hw
    have hDs := hDd.set0 (.int .i64 t.st) (.int .i64 t.rg) (.slice (some ⟨gA, 0, none⟩) t.ac.length cA) (.slice (some ⟨gB, 0, none⟩) t.mv.length cB)
    have HDd := Lib.hid hDd
    have HDs := Lib.hid hDs
    have hfa := l7Draw_any w.heap.size C 3 2 (by decide) (by decide) _ hDd.cu
    have hfb := l7Draw_any w.heap.size C 3 2 (by decide) (by decide) _ hDs.cu
    rw [show ((3 : Nat) : Int) = 3 from rfl, show ((2 : Nat) : Int) = 2 from rfl] at hfa hfb
    obtain ⟨u0, u1, u2, u3⟩ := DrawM.box4 hDd.bx
    obtain ⟨s0, s1, s2, s3⟩ := DrawM.box4 hDd.r0
    obtain ⟨e0, e1, e2, e3⟩ := DrawM.fz4 hDd.r0
    obtain ⟨v0, v1, v2, v3⟩ := DrawM.box4 hDs.bx
    clear hDd hDs
    go_wp2
    go_region_held3 (fun w' => w'.cell? ⟨g, 0, none⟩ = some (.int .i64 t.st) ∧ w'.cell? ⟨g, 1, none⟩ = some (.int .i64 t.rg) ∧ w'.cell? ⟨g, 2, none⟩ = some (.slice (some ⟨gA, 0, none⟩) t.ac.length cA) ∧ w'.cell? ⟨g, 3, none⟩ = some (.slice (some ⟨gB, 0, none⟩) t.mv.length cB))
      (first | (with_reducible exact ⟨by assumption, by assumption, by assumption, by assumption⟩) | (with_reducible exact ⟨DrawM.set4_keep (by assumption) (by assumption), DrawM.set4_keep (by assumption) (by assumption), DrawM.set4_keep (by assumption) (by assumption), DrawM.set4_keep (by assumption) (by assumption)⟩) | go_keep)
      (first
      | (go_at_call 18; first | ((with_reducible refine hfa.mono ?_); rintro e w4 ⟨t2, vA2, vB2, rfl, _, _, _, ra2, rm2, hd4⟩; obtain ⟨A2, c2, rfl⟩ := DrawM.form ra2; obtain ⟨B2, d2, rfl⟩ := DrawM.form rm2; have H4 := Lib.hid (HDd.out.drew hd4); obtain ⟨a0, a1, a2, a3⟩ := DrawM.box4 H4.out.bx; obtain ⟨s0, s1, s2, s3⟩ := DrawM.box4 H4.out.r0; obtain ⟨q0, q1, q2, q3⟩ := DrawM.box4 H4.out.r1; obtain ⟨e0, e1, e2, e3⟩ := DrawM.fz4 H4.out.r0; obtain ⟨f0, f1, f2, f3⟩ := DrawM.fz4 H4.out.r1) | ((with_reducible refine hfb.mono ?_); rintro e w4 ⟨t2, vA2, vB2, rfl, _, _, _, ra2, rm2, hd4⟩; obtain ⟨A2, c2, rfl⟩ := DrawM.form ra2; obtain ⟨B2, d2, rfl⟩ := DrawM.form rm2; have H4 := Lib.hid (HDs.out.drew hd4); obtain ⟨a0, a1, a2, a3⟩ := DrawM.box4 H4.out.bx; obtain ⟨s0, s1, s2, s3⟩ := DrawM.box4 H4.out.r0; obtain ⟨q0, q1, q2, q3⟩ := DrawM.box4 H4.out.r1; obtain ⟨e0, e1, e2, e3⟩ := DrawM.fz4 H4.out.r0; obtain ⟨f0, f1, f2, f3⟩ := DrawM.fz4 H4.out.r1))
      | fail)
    all_goals
      have H5 := ((H4.out.set0 (.int .i64 t.st) (.int .i64 t.rg) (.slice (some ⟨gA, 0, none⟩) t.ac.length cA) (.slice (some ⟨gB, 0, none⟩) t.mv.length cB)).set1 (.int .i64 t2.st) (.int .i64 t2.rg) (.slice A2 t2.ac.length c2) (.slice B2 t2.mv.length d2))
      obtain ⟨z0, z1, z2, z3⟩ := DrawM.box4 H5.r0
      obtain ⟨y0, y1, y2, y3⟩ := DrawM.box4 H5.r1
      have H6 := Lib.hid (H5.out HMB.out)
      clear H5
      go_wp2
      exact bodyPost_ret (v := .tuple #[.agg #[(.int .i64 t.st), (.int .i64 t.rg), (.slice (some ⟨gA, 0, none⟩) t.ac.length cA), (.slice (some ⟨gB, 0, none⟩) t.mv.length cB)], .agg #[(.int .i64 t2.st), (.int .i64 t2.rg), (.slice A2 t2.ac.length c2), (.slice B2 t2.mv.length d2)]]) (by simp [results, Try.results6, go_sem, z0, z1, z2, z3, y0, y1, y2, y3]) rfl ⟨t, _, _, _, _, _, _, _, _, _, _, _, _, rfl, HMB.out, hst, hrg, H6.out.1, H6.out.2⟩
  | false =>
    have htw := l7Twin_any w.heap.size C (w1.heap.size + 1) t (some ⟨gA, 0, none⟩) (some ⟨gB, 0, none⟩) cA cB w3 HMB.out HD3.out.cu HD3.out.cb HD3.out.ra HD3.out.rm
    obtain ⟨u0, u1, u2, u3⟩ := DrawM.box4 HD3.out.bx
    go_wp2_with fail
    refine htw.mono ?_
    rintro e w4 ⟨s2, r2, A2, B2, n2, c2, m2, d2, rfl, hd4⟩
    have hbx : Below w4.heap.size w4 (w4.alloc (.cells #[(.int .i64 s2), (.int .i64 r2), (.slice A2 n2 c2), (.slice B2 m2 d2)] 27)) := (Below.refl _ _).alloc (Nat.le_refl _) _
    have H4 := HD3.out.drew hd4
    have H5 := H4.below hbx
    have k5 := heap_alloc_new w4 (.cells #[(.int .i64 s2), (.int .i64 r2), (.slice A2 n2 c2), (.slice B2 m2 d2)] 27)
    have hl0 := DrawM.blt H4.r0
    have hl1 := DrawM.blt H4.r1
    have hlg := DrawM.blt H4.bx
    clear htw hd4 hbx u0 u1 u2 u3 H4
    have H6 := Lib.hid H5
    have K6 := Lib.hid k5
    have hm0 : ¬ w4.heap.size = w.heap.size := by omega
    have hm1 : ¬ w4.heap.size = w.heap.size + 1 := by omega
    clear H5 k5
    go_wp2
    generalize w4.alloc (.cells #[(.int .i64 s2), (.int .i64 r2), (.slice A2 n2 c2), (.slice B2 m2 d2)] 27) = w5 at H6 K6 ⊢
    generalize w4.heap.size = h at K6 hm0 hm1 ⊢
    have hw5 : Below w5.heap.size w5 w5.drew := ⟨rfl, rfl, rfl, Nat.le_refl _, fun _ _ => rfl⟩
    have H5 := H6.out.below hw5
    have k5 := (hw5.block h (DrawM.blt K6.out)).trans K6.out
    have H4 := Lib.hid H5
    obtain ⟨b0, b1, b2, b3⟩ := DrawM.box4 H5.bx
    obtain ⟨p0, p1, p2, p3⟩ := DrawM.box4 k5
    obtain ⟨s0, s1, s2c, s3⟩ := DrawM.box4 H5.r0
    obtain ⟨q0, q1, q2, q3⟩ := DrawM.box4 H5.r1
    obtain ⟨e0, e1, e2, e3⟩ := DrawM.fz4 H5.r0
    obtain ⟨f0, f1, f2, f3⟩ := DrawM.fz4 H5.r1
    obtain ⟨_, _, _, _⟩ := DrawM.box4 H6.out.r0
    obtain ⟨_, _, _, _⟩ := DrawM.box4 H6.out.r1
    obtain ⟨_, _, _, _⟩ := DrawM.fz4 H6.out.r0
    obtain ⟨_, _, _, _⟩ := DrawM.fz4 H6.out.r1
    clear H5 k5 hw5 K6
    go_region_held3 (fun w' => (w'.cell? ⟨g, 0, none⟩ = some (.int .i64 t.st) ∧ w'.cell? ⟨g, 1, none⟩ = some (.int .i64 t.rg) ∧ w'.cell? ⟨g, 2, none⟩ = some (.slice (some ⟨gA, 0, none⟩) t.ac.length cA) ∧ w'.cell? ⟨g, 3, none⟩ = some (.slice (some ⟨gB, 0, none⟩) t.mv.length cB)) ∧ (w'.cell? ⟨h, 0, none⟩ = some (.int .i64 s2) ∧ w'.cell? ⟨h, 1, none⟩ = some (.int .i64 r2) ∧ w'.cell? ⟨h, 2, none⟩ = some (.slice A2 n2 c2) ∧ w'.cell? ⟨h, 3, none⟩ = some (.slice B2 m2 d2)))
      (first | (with_reducible exact ⟨⟨by assumption, by assumption, by assumption, by assumption⟩, ⟨by assumption, by assumption, by assumption, by assumption⟩⟩) | (with_reducible exact ⟨⟨DrawM.set4_keepd (by assumption) (by assumption), DrawM.set4_keepd (by assumption) (by assumption), DrawM.set4_keepd (by assumption) (by assumption), DrawM.set4_keepd (by assumption) (by assumption)⟩, ⟨DrawM.set4_keepd (by assumption) (by assumption), DrawM.set4_keepd (by assumption) (by assumption), DrawM.set4_keepd (by assumption) (by assumption), DrawM.set4_keepd (by assumption) (by assumption)⟩⟩) | (go_split_ands; with_reducible exact ⟨⟨DrawM.set4_keepd (by assumption) (by assumption), DrawM.set4_keepd (by assumption) (by assumption), DrawM.set4_keepd (by assumption) (by assumption), DrawM.set4_keepd (by assumption) (by assumption)⟩, ⟨DrawM.set4_keepd (by assumption) (by assumption), DrawM.set4_keepd (by assumption) (by assumption), DrawM.set4_keepd (by assumption) (by assumption), DrawM.set4_keepd (by assumption) (by assumption)⟩⟩) | go_keep)
      (fail)
    all_goals
      have H5 := ((H6.out.set0 (.int .i64 t.st) (.int .i64 t.rg) (.slice (some ⟨gA, 0, none⟩) t.ac.length cA) (.slice (some ⟨gB, 0, none⟩) t.mv.length cB)).set1 (.int .i64 s2) (.int .i64 r2) (.slice A2 n2 c2) (.slice B2 m2 d2)).drw
      obtain ⟨z0, z1, z2, z3⟩ := DrawM.box4 H5.r0
      obtain ⟨y0, y1, y2, y3⟩ := DrawM.box4 H5.r1
      have H6 := Lib.hid (H5.out HMB.out)
      clear H5
      go_wp2
      exact bodyPost_ret (v := .tuple #[.agg #[(.int .i64 t.st), (.int .i64 t.rg), (.slice (some ⟨gA, 0, none⟩) t.ac.length cA), (.slice (some ⟨gB, 0, none⟩) t.mv.length cB)], .agg #[(.int .i64 s2), (.int .i64 r2), (.slice A2 n2 c2), (.slice B2 m2 d2)]]) (by simp [results, Try.results6, go_sem, z0, z1, z2, z3, y0, y1, y2, y3]) rfl ⟨t, _, _, _, _, _, _, _, _, _, _, _, _, rfl, HMB.out, hst, hrg, H6.out.1, H6.out.2⟩

end Go.Proofs.Ytcginiklekdbgaa
end

