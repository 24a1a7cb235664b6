/-
  The law FnPatterns returns true for every code of bytes: a pattern tells which places of a drawn tuple hold the same atom, and which hold a constant; the program gives none exactly where the model does. No condition.
-/
import Derived.Test.YtnamlgacjhnpnaaKPatterns3
import Derived.Test.YtnamlgacjhnpnaaKPatterns17
import Derived.Test.YtnamlgacjhnpnaaKPatterns6
import Derived.Test.YtnamlgacjhnpnaaKPatterns12
import Derived.Test.YtnamlgacjhnpnaaKPatterns4
import Derived.Test.YtnamlgacjhnpnaaKPatterns18
namespace Go.Proofs.Ytnamlgacjhnpnaa.fnPatterns
open Go.ChangeShapes Go.WideShapes Go.ChangeAt Go.RowKit
set_option linter.unusedVariables false

theorem big_no (A : Option Addr) (n c : Nat) (w : World) (h : n ≤ 4096) : Calls Try.prog 9 #[.slice A n c] w fun e w' => e = .returned (.bool false) ∧ w = w' := by
  have k0 : decide ((4096 : Int) < n) = false := by simp; omega
  go_enter Try.func9, Try.ntmps9
  go_wp2
  go_ret
  exact ⟨rfl, rfl⟩

theorem big_yes (A : Option Addr) (n c : Nat) (w : World) (h : 4096 < n) (h2 : n ≤ 9223372036854775807) : Calls Try.prog 9 #[.slice A n c] w fun e w' => e = .returned (.bool true) ∧ w = w' := by
  have k0 : decide ((4096 : Int) < n) = true := by simp; omega
  go_enter Try.func9, Try.ntmps9
  go_wp2
  go_ret
  exact ⟨rfl, rfl⟩

open Go.Sort in
set_option maxRecDepth 100000 in
set_option maxHeartbeats 4000000 in
theorem walk (w : World) (A0 : Option Addr) (c0 n0 : Nat) (hA0 : BytesIn w A0 n0) (hm0 : n0 ≤ maxLen) :
    Calls Try.prog 3 #[.slice A0 n0 c0] w fun e w' => e = .returned (.bool true) ∧ Below w.heap.size w w' := by
  unfold maxLen at hm0
  by_cases hn : n0 ≤ 4096
  · have hdr := drawPatternOf_any A0 n0 c0 w hA0 (by omega)
    go_enter Try.func3, Try.ntmps3
    go_wp2_with (first | (go_at_call 9; refine (big_no _ _ _ _ hn).mono ?_; rintro e w' ⟨rfl, rfl⟩) | fail)
    refine hdr.mono ?_
    rintro e w1 ⟨l, t, A, B, c, d, rfl, hl, ht, hA, hz, hB, hb1⟩
    have him := patternOf_impl A B c d l t w1 hA hB (by omega) (by omega)
    clear hdr
    cases hp : patB l t with
    | false =>
      have hR := patR_no hp
      rw [hp, hR] at him
      have hsp := fun (W : World) (h : Below w1.heap.size w1 W) => patternOf_spec A B c d l t W (hA.below h) hz (hB.below h) (by omega) (by omega)
      rw [hp, hR] at hsp
      clear hR hp hA hB
      go_wp2_with fail
      refine him.mono ?_
      rintro e w2 ⟨v, rfl, ho, hb2⟩
      obtain ⟨A5, c5, rfl, _⟩ := own_intsAt ho
      have hsq := hsp w2 hb2
      clear him hsp ho
      go_wp2_with fail
      refine hsq.mono ?_
      rintro e w3 ⟨u, rfl, _, hb3⟩
      have hb4 := hb1.trans ((hb2.trans (hb3.mono hb2.size)).mono hb1.size)
      clear hsq hb1 hb2 hb3
      go_wp2
      go_ret
      exact ⟨rfl, hb4⟩
    | true =>
      rw [hp, patR_yes hp] at him
      have HPA := Lib.hid (fun i (hi : i < t.length) => pat_at l t hi)
      have HPE := Lib.hid (fun i j (hi : i < t.length) (hj : j < t.length) => pat_eq l t hi hj)
      have hpl := patL_len l t
      clear hp
      generalize patL l t = P at *
      go_wp2_with fail
      refine him.mono ?_
      rintro e w2 ⟨v, rfl, ho, hb2⟩
      obtain ⟨A5, c5, rfl, hP⟩ := own_intsAt ho
      have HT := Lib.hid (hB.below hb2)
      have HL := Lib.hid (hA.below hb2)
      have HP := Lib.hid hP
      have hb12 := hb1.trans (hb2.mono hb1.size)
      have HPL := Lib.hid hpl
      have hdd : ((P.length : Int) == (t.length : Int)) = true := by simp [hpl]
      clear him ho hP hb1 hb2 hA hB hz hpl
      go_wp2
      go_loopw [9, 10] (fun i _ wr => ∃ q : Nat, q ≤ t.length ∧ i = .int .i64 q ∧ Below w2.heap.size w2 wr) (fun i _ _ => t.length - (intOf i).toNat)
      case atStart => exact ⟨0, Nat.zero_le _, rfl, Below.refl _ _⟩
      case round =>
        obtain ⟨q, hq, rfl, hb⟩ := hrel
        by_cases hlq : q < t.length
        · obtain ⟨wo, rfl⟩ : ∃ x : World, x = wr := ⟨_, rfl⟩
          obtain ⟨bt, ot, hBt, hbt, hct⟩ := HT.out (by omega)
          obtain ⟨bp, op, hBp, hbp, hcp⟩ := HP.out (by have := HPL.out; omega)
          subst hBt
          subst hBp
          have HCT := Lib.hid hct
          have HCP := Lib.hid hcp
          clear hct hcp hdd
          go_wp2
          go_loopw [10] (fun k wr => ∃ j : Nat, j ≤ t.length ∧ k = .int .i64 j ∧ Below w2.heap.size w2 wr) (fun k _ => t.length - (intOf k).toNat)
          case atStart => exact ⟨0, Nat.zero_le _, rfl, hb⟩
          case round =>
            clear hb
            obtain ⟨j, hj, rfl, hb⟩ := hrel
            by_cases hlj : j < t.length
            · have c1 := HCT.out q hlq
              have c2 := HCT.out j hlj
              have hqp : q < P.length := by have := HPL.out; omega
              have hjp : j < P.length := by have := HPL.out; omega
              have c3 := HCP.out q hqp
              have c4 := HCP.out j hjp
              rw [← hb.cell (p := ⟨bt, _, none⟩) hbt] at c1 c2
              rw [← hb.cell (p := ⟨bp, _, none⟩) hbp] at c3 c4
              have q1 := fun d os => cell_regrown c1 d os
              have q2 := fun d os => cell_regrown c2 d os
              have q3 := fun d os => cell_regrown c3 d os
              have q4 := fun d os => cell_regrown c4 d os
              have hee := HPE.out q j hlq hlj
              clear c1 c2 c3 c4
              generalize itAt t q = x at *
              generalize itAt t j = y at *
              generalize itAt P q = u at *
              generalize itAt P j = v at *
              by_cases hxy : x = y
              · have h1 : (x == y) = true := by simp [hxy]
                have h2 : (u == v) = true := by simp [hee.2 hxy]
                clear hxy hee
                go_wp2
                refine wp_region_quiet_below (by kernel_rfl) (by kernel_rfl) ?_
                repeat (any_goals (first | go_big_quiet_step (fail) | quiet_step (fail)))
                refine wpQuiet_nil ?_
                intro _ hw'
                obtain ⟨⟨dq, osq⟩, hw''⟩ := hw'
                subst hw''
                have hb3 := hb.trans ((below_regrown wr dq osq).mono hb.size)
                generalize grow (redrawn wr dq) osq = w9 at hb3 ⊢
                clear hb q1 q2 q3 q4 h1 h2
                go_wp2
                refine ⟨⟨j + 1, by omega, by go_num, hb3⟩, ?_⟩
                simp only [intOf]
                omega
              · have h1 : (x == y) = false := by simp [hxy]
                have h2 : (u == v) = false := by
                  simp only [beq_eq_false_iff_ne, ne_eq]
                  exact fun h => hxy (hee.1 h)
                clear hxy hee
                go_wp2
                refine wp_region_quiet_below (by kernel_rfl) (by kernel_rfl) ?_
                repeat (any_goals (first | go_big_quiet_step (fail) | quiet_step (fail)))
                refine wpQuiet_nil ?_
                intro _ hw'
                obtain ⟨⟨dq, osq⟩, hw''⟩ := hw'
                subst hw''
                have hb3 := hb.trans ((below_regrown wr dq osq).mono hb.size)
                generalize grow (redrawn wr dq) osq = w9 at hb3 ⊢
                clear hb q1 q2 q3 q4 h1 h2
                go_wp2
                refine ⟨⟨j + 1, by omega, by go_num, hb3⟩, ?_⟩
                simp only [intOf]
                omega
            · have e : j = t.length := by omega
              subst e
              clear hlj hj
              have c1 := HCT.out q hlq
              have hqp : q < P.length := by have := HPL.out; omega
              have c3 := HCP.out q hqp
              rw [← hb.cell (p := ⟨bt, _, none⟩) hbt] at c1
              rw [← hb.cell (p := ⟨bp, _, none⟩) hbp] at c3
              obtain ⟨m, hm, hmi, hmv⟩ := HPA.out q hlq
              rw [hm] at c3
              have q1 := fun d os => cell_regrown c1 d os
              have q3 := fun d os => cell_regrown c3 d os
              have hhas := fun d os => lawHas_any A c l (itAt t q) (grow (redrawn wr d) os) ((HL.out.below hb).below (below_regrown wr d os)) (by omega)
              by_cases hin : itAt t q ∈ l
              · have hml := hmi.2 hin
                have hval := hmv hml
                have hhb : hasB l (itAt t q) = true := by unfold hasB; rw [List.contains_iff_mem]; exact hin
                rw [hhb] at hhas
                obtain ⟨bl, ol, hAl, hbl, hcl⟩ := HL.out (by omega)
                have c5 := hcl m hml
                rw [← hb.cell (p := ⟨bl, _, none⟩) hbl] at c5
                rw [hval] at c5
                have q5 := fun d os => cell_regrown c5 d os
                subst hAl
                clear c1 c3 c5 hcl hm hmi hmv hin hval hhb
                generalize itAt t q = x at *
                have hd1 : decide ((m : Int) < (l.length : Int)) = true := by simp; omega
                have hx1 : (x != x) = false := by simp
                go_wp2
                refine wp_region_quiet_below (by kernel_rfl) (by kernel_rfl) ?_
                repeat (any_goals (first | go_big_quiet_step ((go_at_call 13; exact Calls.regrown_of ((hhas _ _).mono fun _ _ h => ⟨h.1, h.2 ▸ Below.refl _ _⟩))) | quiet_step ((go_at_call 13; exact Calls.regrown_of ((hhas _ _).mono fun _ _ h => ⟨h.1, h.2 ▸ Below.refl _ _⟩)))))
                refine wpQuiet_nil ?_
                intro _ hw'
                obtain ⟨⟨dq, osq⟩, hw''⟩ := hw'
                subst hw''
                have hb3 := hb.trans ((below_regrown wr dq osq).mono hb.size)
                generalize grow (redrawn wr dq) osq = w9 at hb3 ⊢
                clear hb q1 q3 q5 hhas hd1 hx1
                go_wp2
                refine ⟨⟨q + 1, by omega, by go_num, hb3⟩, ?_⟩
                simp only [intOf]
                omega
              · have hml : ¬ m < l.length := fun h => hin (hmi.1 h)
                have hhb : hasB l (itAt t q) = false := by unfold hasB; rw [← Bool.not_eq_true, List.contains_iff_mem]; exact hin
                rw [hhb] at hhas
                clear c1 c3 hm hmi hmv hin hhb
                generalize itAt t q = x at *
                have hd1 : decide ((m : Int) < (l.length : Int)) = false := by simp; omega
                go_wp2
                refine wp_region_quiet_below (by kernel_rfl) (by kernel_rfl) ?_
                repeat (any_goals (first | go_big_quiet_step ((go_at_call 13; exact Calls.regrown_of ((hhas _ _).mono fun _ _ h => ⟨h.1, h.2 ▸ Below.refl _ _⟩))) | quiet_step ((go_at_call 13; exact Calls.regrown_of ((hhas _ _).mono fun _ _ h => ⟨h.1, h.2 ▸ Below.refl _ _⟩)))))
                refine wpQuiet_nil ?_
                intro _ hw'
                obtain ⟨⟨dq, osq⟩, hw''⟩ := hw'
                subst hw''
                have hb3 := hb.trans ((below_regrown wr dq osq).mono hb.size)
                generalize grow (redrawn wr dq) osq = w9 at hb3 ⊢
                clear hb q1 q3 hhas hd1
                go_wp2
                refine ⟨⟨q + 1, by omega, by go_num, hb3⟩, ?_⟩
                simp only [intOf]
                omega
        · have hbz := hb12.trans (hb.mono hb12.size)
          go_wp2
          go_ret
          exact ⟨rfl, hbz⟩
  · have hbig : 4096 < n0 := by omega
    clear hn hA0
    go_enter Try.func3, Try.ntmps3
    go_wp2_with (go_at_call 9; refine (big_yes _ _ _ _ hbig (by omega)).mono ?_; rintro e w' ⟨rfl, rfl⟩)
    go_ret
    exact ⟨rfl, Below.refl _ _⟩

set_option maxRecDepth 100000 in
theorem lifted (os : Os) (started : os.Started) (H : Type) (enc : TypeId × Value → H) :
    ReturnsInHanded {} Try.checked os 3 .any (Rows.fnPatternsSpec.pre6 enc Try.prog Try.f3 Rows.fnPatternsRow.domain false) (Rows.fnPatternsSpec.post enc Try.prog Try.f3 false true false false) := by
  refine returnsInHanded_of_change (C := Try.checked) own started (by kernel_rfl) Try.func3
    (ChangeSpec.witness6 (enc := enc) (C := Try.checked) false ⟨#[], #[.slice none 0 0], []⟩ 8 (by kernel_rfl) (by kernel_rfl) (by kernel_rfl) (by kernel_rfl)) ?_
  intro W base args ds gs before hval0 hW hcnd _
  have hval : ∀ (j : Nat) t v, Try.f3.params[j]? = some t → args[j]? = some v → Value.okWide Try.prog W .any base t v := hval0
  have hW' := hW
  obtain ⟨p, q, hA0, hV, rfl, hfz, hnd⟩ := hW
  have hA : DataW.TrodAll enc Try.prog W 0 (fun _ => true) true Try.f3.params.toList args.toList ds p := hA0
  rw [Try.params3] at hA hval
  obtain ⟨v0, vs0, d0, ds0, p0, q0, hargs, rfl, rfl, h0, r0⟩ := trodAll_cons hA
  obtain ⟨rfl, rfl, rfl⟩ := trodAll_nil r0
  obtain rfl : args = #[v0] := by cases args; simp_all
  obtain ⟨rfl, rfl⟩ := trodVars_none hV
  have k0 := h0
  have lt0 : ∀ x ∈ p0, x.block < W.heap.size := by obtain ⟨m, hm⟩ := k0; exact DataW.trod_lt m _ _ _ hm
  obtain ⟨A0, n0, c0, rfl⟩ := okWide_slice Try.underlying22 (hval 0 22 v0 rfl rfl)
  obtain ⟨w0, m0⟩ := open_bytesL h0
  clear hA0 hval0
  refine (walk W A0 c0 n0 w0 m0).mono fun e W' ⟨he, bel⟩ => ?_
  subst he
  exact ⟨_, rfl, _, _, _, [], _, [], hW', trodAll_mk1 (shut_bool Try.underlying4 _), (trodAll_cons_mk (Below.trod laidOut (by kernel_rfl) (of_decide_eq_true (by kernel_rfl)) k0 bel lt0) trodAll_mk0), rfl, bel.frame _, fun h => by cases h⟩

theorem over : Rows.fnPatternsRow.holds Try.pinned (OpenSpec.ofChange Rows.fnPatternsSpec) :=
  OpenClaim.holds_of_wide 3 Try.f3 rfl rfl rfl rfl rfl rfl rfl ⟨rfl, rfl, rfl, rfl, rfl⟩ rfl rfl rfl rfl rfl (by kernel_rfl) Try.func3 (by kernel_rfl)
    (of_decide_eq_true (by kernel_rfl)) (by unfold Func.isWrapper; first | (rw [if_pos (by decide +kernel)]; kernel_rfl) | (rw [if_neg (by decide +kernel)]; exact ⟨rfl, rfl⟩))
    (fun os started H enc _ => lifted os started H enc)

theorem proved : Rows.FnPatternsSaid := over
#print axioms proved
end Go.Proofs.Ytnamlgacjhnpnaa.fnPatterns
