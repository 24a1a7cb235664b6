/-
  Orbit sets in the model: whether they are valid, as contracts.
-/
import Derived.Test.YtkhjdidcpoefdaaKCountTuples14
namespace Go.Proofs.Ytkhjdidcpoefdaa
open Go.RowKit Go.Sort
set_option linter.unusedVariables false

set_option maxRecDepth 100000 in
set_option maxHeartbeats 2000000 in
theorem l1Same_any (A B : Option Addr) (c d : Nat) (a b : List Int) (w : World) (hA : IntsAt w A a) (hB : IntsAt w B b) (hla : a.length ≤ 1099511627776) (hlb : b.length ≤ 1099511627776) :
    Calls Try.prog 122 #[.slice A a.length c, .slice B b.length d] w (BoolP (decide (a = b)) w) := by
  by_cases hl : a.length = b.length
  · have hl0 : ((a.length : Int) != (b.length : Int)) = false := by simp [hl]
    have HL := Lib.hid hl
    clear hl
    go_enter Try.func122, Try.ntmps122
    go_wp2
    go_loopw [5] (fun i wr => ∃ j : Nat, j ≤ a.length ∧ i = .int .i64 j ∧ Hid (∀ q, q < j → itAt a q = itAt b q) ∧ Below w.heap.size w wr) (fun i _ => a.length - (intOf i).toNat)
    case atStart => exact ⟨0, Nat.zero_le _, rfl, fun q hq => absurd hq (by omega), Below.refl _ _⟩
    case round =>
      obtain ⟨j, hj, rfl, hq, hb⟩ := hrel
      by_cases hlt : j < a.length
      · obtain ⟨b1, o1, rfl, hb1, hc1⟩ := hA (by omega)
        obtain ⟨b2, o2, rfl, hb2, hc2⟩ := hB (by have := HL.out; omega)
        have hltb : j < b.length := by have := HL.out; omega
        have c1 := hc1 j hlt
        have c2 := hc2 j hltb
        rw [← hb.cell (p := ⟨b1, _, none⟩) hb1] at c1
        rw [← hb.cell (p := ⟨b2, _, none⟩) hb2] at c2
        have q1 := fun d os => cell_regrown c1 d os
        have q2 := fun d os => cell_regrown c2 d os
        have hno := Lib.hid (fun (h : ¬ itAt a j = itAt b j) => idiffer_at (xs := a) (ys := b) j h)
        have hok := Lib.hid (fun (h : itAt a j = itAt b j) (q : Nat) (hq2 : q < j + 1) => (by
          by_cases e : q = j
          · subst e; exact h
          · exact hq.out q (by omega) : itAt a q = itAt b q))
        generalize itAt a j = x at q1 hno hok
        generalize itAt b j = y at q2 hno hok
        clear hc1 hc2 hA hB hq c1 c2
        by_cases hxy : x = y
        · have hn := Lib.hid (hok.out hxy)
          have he : (x != y) = false := by simp [hxy]
          clear hno hok hxy
          go_wp2
          refine wp_region_quiet_below (by kernel_rfl) (by kernel_rfl) ?_
          repeat (any_goals (first | go_big_quiet_step (fail) | quiet_step (fail)))
          refine wpQuiet_nil ?_
          intro _ hw'
          obtain ⟨⟨dq, osq⟩, hw''⟩ := hw'
          subst hw''
          have hb3 := hb.trans ((below_regrown wr dq osq).mono hb.size)
          generalize grow (redrawn wr dq) osq = w2 at hb3 ⊢
          clear hb q1 q2
          go_wp2
          refine ⟨⟨j + 1, by omega, by go_num, hn, hb3⟩, ?_⟩
          simp only [intOf]
          omega
        · have hn := Lib.hid (hno.out hxy)
          have he : (x != y) = true := by simp [hxy]
          clear hno hok hxy
          go_wp2
          refine wp_region_quiet_below (by kernel_rfl) (by kernel_rfl) ?_
          repeat (any_goals (first | go_big_quiet_step (fail) | quiet_step (fail)))
          refine wpQuiet_nil ?_
          intro _ hw'
          obtain ⟨⟨dq, osq⟩, hw''⟩ := hw'
          subst hw''
          have hb3 := hb.trans ((below_regrown wr dq osq).mono hb.size)
          generalize grow (redrawn wr dq) osq = w2 at hb3 ⊢
          clear hb q1 q2
          go_wp2
          go_ret
          exact ⟨bool_end hn.out.symm, hb3⟩
      · have hn : Hid (decide (a = b) = true) := Lib.hid (by
          rw [decide_eq_true_eq]
          refine List.ext_getElem HL.out fun i h1 h2 => ?_
          have h3 := hq.out i (by omega)
          rwa [itAt_get _ _ h1, itAt_get _ _ h2] at h3)
        clear hq hA hB
        go_wp2
        go_ret
        exact ⟨bool_end hn.out.symm, hb⟩
  · have hl0 : ((a.length : Int) != (b.length : Int)) = true := by simp; omega
    have hn : Hid (decide (a = b) = false) := Lib.hid (decide_eq_false (fun e => hl (by rw [e])))
    clear hA hB hl
    go_enter Try.func122, Try.ntmps122
    go_wp2
    go_ret
    exact ⟨bool_end hn.out.symm, Below.refl _ _⟩

set_option maxRecDepth 100000 in
set_option maxHeartbeats 2000000 in
theorem l1Less_any (A B : Option Addr) (c d : Nat) (a b : List Int) (w : World) (hA : IntsAt w A a) (hB : IntsAt w B b) (hla : a.length ≤ 1099511627776) (hlb : b.length ≤ 1099511627776) :
    Calls Try.prog 106 #[.slice A a.length c, .slice B b.length d] w (BoolP (lexLt a b) w) := by
  go_enter Try.func106, Try.ntmps106
  go_wp2
  go_loopw [5] (fun i wr => ∃ j : Nat, j ≤ a.length ∧ j ≤ b.length ∧ i = .int .i64 j ∧ Hid (lexLt a b = lexLt (a.drop j) (b.drop j)) ∧ Below w.heap.size w wr) (fun i _ => a.length - (intOf i).toNat)
  case atStart => exact ⟨0, Nat.zero_le _, Nat.zero_le _, rfl, Lib.hid rfl, Below.refl _ _⟩
  case round =>
    obtain ⟨j, hja, hjb, rfl, hq, hb⟩ := hrel
    by_cases hlt : j < a.length
    · by_cases hltb : j < b.length
      · obtain ⟨b1, o1, rfl, hb1, hc1⟩ := hA (by omega)
        obtain ⟨b2, o2, rfl, hb2, hc2⟩ := hB (by omega)
        have c1 := hc1 j hlt
        have c2 := hc2 j hltb
        rw [← hb.cell (p := ⟨b1, _, none⟩) hb1] at c1
        rw [← hb.cell (p := ⟨b2, _, none⟩) hb2] at c2
        have q1 := fun d os => cell_regrown c1 d os
        have q2 := fun d os => cell_regrown c2 d os
        have hst := Lib.hid (lex_step hlt hltb)
        have hhe := Lib.hid (lex_here hlt hltb)
        generalize itAt a j = x at q1 hst hhe
        generalize itAt b j = y at q2 hst hhe
        clear hc1 hc2 hA hB c1 c2
        by_cases hxy : x = y
        · have hn : Hid (lexLt a b = lexLt (a.drop (j + 1)) (b.drop (j + 1))) := Lib.hid (by rw [hq.out, hst.out hxy])
          have he : (x != y) = false := by simp [hxy]
          clear hst hhe hxy hq
          go_wp2
          refine wp_region_quiet_below (by kernel_rfl) (by kernel_rfl) ?_
          repeat (any_goals (first | go_big_quiet_step (fail) | quiet_step (fail)))
          refine wpQuiet_nil ?_
          intro _ hw'
          obtain ⟨⟨dq, osq⟩, hw''⟩ := hw'
          subst hw''
          have hb3 := hb.trans ((below_regrown wr dq osq).mono hb.size)
          generalize grow (redrawn wr dq) osq = w2 at hb3 ⊢
          clear hb q1 q2
          go_wp2
          refine ⟨⟨j + 1, by omega, by omega, by go_num, hn, hb3⟩, ?_⟩
          simp only [intOf]
          omega
        · have hn : Hid (lexLt a b = decide (x < y)) := Lib.hid (by rw [hq.out, hhe.out hxy])
          have he : (x != y) = true := by simp [hxy]
          clear hst hhe hxy hq
          go_wp2
          refine wp_region_quiet_below (by kernel_rfl) (by kernel_rfl) ?_
          repeat (any_goals (first | go_big_quiet_step (fail) | quiet_step (fail)))
          refine wpQuiet_nil ?_
          intro _ hw'
          obtain ⟨⟨dq, osq⟩, hw''⟩ := hw'
          subst hw''
          have q3 := fun d os => q1 (dq + d) os
          have hb3 := hb.trans ((below_regrown wr dq osq).mono hb.size)
          have r1 : (grow (redrawn wr dq) osq).cell? ⟨b1, o1 + j, none⟩ = some (.int .i64 x) := q1 dq osq
          have r2 : (grow (redrawn wr dq) osq).cell? ⟨b2, o2 + j, none⟩ = some (.int .i64 y) := q2 dq osq
          generalize grow (redrawn wr dq) osq = w2 at hb3 r1 r2 ⊢
          clear hb q1 q2 q3
          have q1 := fun d os => cell_regrown r1 d os
          have q2 := fun d os => cell_regrown r2 d os
          clear r1 r2
          go_wp2
          refine wp_region_quiet_below (by kernel_rfl) (by kernel_rfl) ?_
          repeat (any_goals (first | go_big_quiet_step (fail) | quiet_step (fail)))
          refine wpQuiet_nil ?_
          intro _ hw'
          obtain ⟨⟨dq, osq⟩, hw''⟩ := hw'
          subst hw''
          have hb4 := hb3.trans ((below_regrown w2 dq osq).mono hb3.size)
          generalize grow (redrawn w2 dq) osq = w3 at hb4 ⊢
          clear hb3 q1 q2
          go_wp2
          go_ret
          exact ⟨bool_end hn.out.symm, hb4⟩
      · have hn : Hid (lexLt a b = decide (a.length < b.length)) := Lib.hid (by rw [hq.out, lex_end (by omega) (by omega) (by omega)])
        have hge : ¬ (j : Int) < (b.length : Int) := by omega
        have hlj : (j : Int) < (a.length : Int) := by omega
        clear hA hB hq
        go_wp2
        go_ret
        exact ⟨bool_end (by rw [hn.out]), hb⟩
    · have hn : Hid (lexLt a b = decide (a.length < b.length)) := Lib.hid (by rw [hq.out, lex_end (by omega) (by omega) (by omega)])
      have hge : ¬ (j : Int) < (a.length : Int) := by omega
      clear hA hB hq
      go_wp2
      go_ret
      exact ⟨bool_end (by rw [hn.out]), hb⟩

set_option maxRecDepth 100000 in
set_option maxHeartbeats 2000000 in
theorem l6There_any (A B : Option Addr) (c d : Nat) (ls : List (List Int)) (p : List Int) (w : World) (hA : RowsIn w (.slice A ls.length c) ls) (hB : IntsAt w B p) (hf : FitR ls) (hp : p.length ≤ 1099511627776) :
    Calls Try.prog 104 #[.slice A ls.length c, .slice B p.length d] w (BoolP (thereB ls p) w) := by
  obtain ⟨hll, hrl⟩ := hf
  go_enter Try.func104, Try.ntmps104
  go_wp2
  go_loopw [6, 9] (fun _ i wr => ∃ j : Nat, j ≤ ls.length ∧ i = .int .i64 j ∧ Hid (∀ q, q < j → ¬ rwAt ls q = p) ∧ Below w.heap.size w wr) (fun _ i _ => ls.length - (intOf i).toNat)
  case atStart => exact ⟨0, Nat.zero_le _, rfl, fun q hq => absurd hq (by omega), Below.refl _ _⟩
  case round =>
    obtain ⟨j, hj, rfl, hq, hb⟩ := hrel
    by_cases hlt : j < ls.length
    · obtain ⟨b1, o1, rfl, hb1, hc1⟩ := (hA.below hb).get (by omega)
      obtain ⟨A1, c1, d1, hA1⟩ := hc1 j hlt
      have hsm := l1Same_any A1 B c1 d (rwAt ls j) p wr hA1 (hB.below hb) (by have := hrl j hlt; omega) hp
      have hno := Lib.hid (fun (h : ¬ rwAt ls j = p) (q : Nat) (hq2 : q < j + 1) => (by
        by_cases e : q = j
        · subst e; exact h
        · exact hq.out q (by omega) : ¬ rwAt ls q = p))
      have hyes := Lib.hid (fun (h : rwAt ls j = p) => there_yes hlt h)
      by_cases he : rwAt ls j = p
      · have hn := Lib.hid (hyes.out he)
        rw [decide_eq_true he] at hsm
        clear hno hyes he hc1 hA1 hA hB hq
        generalize (rwAt ls j).length = rl at *
        go_wp2_with (go_at_call 122; refine hsm.mono ?_; rintro e w2 ⟨rfl, hb2⟩; have hb3 := hb.trans (hb2.mono hb.size))
        clear hsm d1 hb hb2
        go_ret
        exact ⟨bool_end hn.out.symm, hb3⟩
      · have hn := Lib.hid (hno.out he)
        rw [decide_eq_false he] at hsm
        clear hno hyes he hc1 hA1 hA hB hq
        generalize (rwAt ls j).length = rl at *
        go_wp2_with (go_at_call 122; refine hsm.mono ?_; rintro e w2 ⟨rfl, hb2⟩; have hb3 := hb.trans (hb2.mono hb.size))
        clear hsm d1 hb hb2
        refine ⟨⟨j + 1, by omega, by go_num, hn, hb3⟩, ?_⟩
        simp only [intOf]
        omega
    · have hn := Lib.hid (there_no (ls := ls) (p := p) fun i hi => hq.out i (by omega))
      clear hq hA hB
      go_wp2
      go_ret
      exact ⟨bool_end hn.out.symm, hb⟩

set_option maxRecDepth 100000 in
set_option maxHeartbeats 8000000 in
theorem isOrbitSet_spec (z : Int) (l : List Int) (m : List (List Int)) (hf : FitO l m) (x : Value) (w : World) (hx : OrbIx w x z l m) :
    Calls Try.prog 79 #[x] w (BoolP (orbB z l m) w) := by
  obtain ⟨hll, hml, hrl⟩ := hf
  obtain ⟨A, c, B, d, rfl, hl, _, hm⟩ := hx
  have hb0 : Below w.heap.size w (w.alloc (.cells #[.int .i64 z, .slice A l.length c, .slice B m.length d] 54)) := (Below.refl _ _).alloc (Nat.le_refl _) _
  have k0 := heap_alloc_new w (.cells #[.int .i64 z, .slice A l.length c, .slice B m.length d] 54)
  obtain ⟨m0, m1, m2⟩ := OrbK.row3 k0
  have hwi := fun W => l1In_any z 0 4 W
  have hwe : decide ((0 : Int) ≤ z ∧ z ≤ 4) = widB z := rfl
  cases hw : widB z with
  | false =>
    have hn := Lib.hid (orbB_no1 (l := l) (m := m) hw)
    rw [hwe, hw] at hwi
    clear hl hm k0 hwe
    go_enter Try.func79, Try.ntmps79
    go_wp2_with (go_at_call 53; refine (hwi _).mono ?_; rintro e w2 ⟨rfl, rfl⟩)
    go_ret
    exact ⟨bool_end hn.out.symm, hb0⟩
  | true =>
    rw [hwe, hw] at hwi
    have hco := fun W (h : Below w.heap.size w W) => l6Constants_any A c l W (hl.1.below h) (by omega)
    have HB0 := Lib.hid hb0
    have HK0 := Lib.hid k0
    cases hc : constB l with
    | false =>
      have hn := Lib.hid (orbB_no2 (z := z) (m := m) hc)
      rw [hc] at hco
      clear hl hm k0 hwe
      go_enter Try.func79, Try.ntmps79
      go_wp2_with (first
        | (go_at_call 53; refine (hwi _).mono ?_; rintro e w2 ⟨rfl, rfl⟩)
        | (go_at_call 103; refine (hco _ HB0.out).mono ?_; rintro e w2 ⟨rfl, hb2⟩; have hb3 := HB0.out.trans (hb2.mono HB0.out.size)))
      clear hwi hco m0 m1 m2 hb2 hb0
      go_ret
      exact ⟨bool_end hn.out.symm, hb3⟩
    | true =>
      have hzz := widB_iff.1 hw
      have hk3 := const_len hc
      have hyes := Lib.hid (fun h => orbB_yes (m := m) hw hc h)
      rw [hc] at hco
      clear hw hc hwe
      obtain ⟨zn, hzn⟩ : ∃ zn : Nat, z = zn := ⟨z.toNat, by omega⟩
      have hal := fun W => l6All_any l.length hk3 zn (by omega) z hzn W
      have hth := Lib.hid (fun p => there_all (w := zn) (k := (l.length : Int)) (by omega) p)
      have hfa := Lib.hid (fitR_of (ls := allP zn l.length) (by have := allP_fit (k := (l.length : Int)) (by omega) (by omega) (show zn ≤ 4 by omega); omega))
      have hzh := Lib.hid hzn
      clear hzn
      generalize hPP : allP zn l.length = P at hal hth hfa
      clear hPP
      go_enter Try.func79, Try.ntmps79
      go_wp2_with (first
        | (go_at_call 53; refine (hwi _).mono ?_; rintro e w2 ⟨rfl, rfl⟩)
        | (go_at_call 103; refine (hco _ HB0.out).mono ?_; rintro e w2 ⟨rfl, hb2⟩; have hb3 := HB0.out.trans (hb2.mono HB0.out.size); have k2 := (hb2.block _ (OrbK.box_lt HK0.out)).trans HK0.out; clear m0 m1 m2; obtain ⟨m0, m1, m2⟩ := OrbK.row3 k2))
      have hm2 := hm.below hb3
      have HB3 := Lib.hid hb3
      have HK2 := Lib.hid k2
      clear hwi hco hb2 hm hl k0 HK0 HB0 k2 hb0 hb3 m0 m1 m2
      go_loopw [3, 4, 5, 19] (fun _ _ _ i wr => ∃ j : Nat, j ≤ m.length ∧ i = .int .i64 j ∧ Hid (∀ i, i < j → rowOkB z l.length m i = true) ∧ Below w2.heap.size w2 wr) (fun _ _ _ i _ => m.length - (intOf i).toNat)
      case atStart => exact ⟨0, Nat.zero_le _, rfl, fun i hi => absurd hi (by omega), Below.refl _ _⟩
      case round =>
        obtain ⟨j, hj, rfl, hq, hb⟩ := hrel
        have hbw := HB3.out.trans (hb.mono HB3.out.size)
        by_cases hlt : j < m.length
        · have k3 := (hb.block _ (OrbK.box_lt HK2.out)).trans HK2.out
          obtain ⟨m0, m1, m2⟩ := OrbK.row3 k3
          have HK3 := Lib.hid k3
          have hmr := hm2.below hb
          obtain ⟨b1, o1, rfl, hb1, hc1⟩ := hmr (by omega)
          obtain ⟨A1, c1, d1, hA1, _⟩ := hc1 j hlt
          have hrl1 := hrl j hlt
          by_cases hlz : ((rwAt m j).length : Int) = z
          · have hne : (((rwAt m j).length : Int) != z) = false := by simp [hlz]
            have hal1 := hal wr
            have hte : thereB P (rwAt m j) = isPatB l.length (rwAt m j) := by
              have h1 := hth.out (rwAt m j)
              rw [h1, decide_eq_true (by have := hzh.out; omega)]
              rfl
            cases hpp : isPatB l.length (rwAt m j) with
            | false =>
              have hn := Lib.hid (orbB_no3 (rowsOk_no hlt (row_no2 (z := z) hpp)))
              rw [hpp] at hte
              have hthc := fun (W : World) (A9 : Option Addr) (c9 : Nat) (h9 : RowsIn W (.slice A9 P.length c9) P) (h : Below wr.heap.size wr W) => l6There_any A9 A1 c9 c1 P (rwAt m j) W h9 (hA1.below h) hfa.out (by omega)
              rw [hte] at hthc
              clear hq hyes hc1 hmr hpp hlz hal hm2 k3 hte hA1
              generalize (rwAt m j).length = rl at *
              go_wp2_with (first
                | (go_at_call 105; refine hal1.mono ?_; rintro e w3 ⟨v3, T3, rfl, hT3, hT3b, hb4⟩; obtain ⟨A9, c9, rfl⟩ := RowsIn.form (ls := P) hT3.at_)
                | (go_at_call 104; refine (hthc _ _ _ hT3.at_ hb4).mono ?_; rintro e w4 ⟨rfl, hb5⟩; have hb6 := hbw.trans ((hb4.trans (hb5.mono hb4.size)).mono hbw.size)))
              clear hal1 hthc hT3 hT3b hb4 hb5 hb hbw m0 m1 m2 d1
              go_ret
              exact ⟨bool_end hn.out.symm, hb6⟩
            | true =>
              rw [hpp] at hte
              have hthc := fun (W : World) (A9 : Option Addr) (c9 : Nat) (h9 : RowsIn W (.slice A9 P.length c9) P) (h : Below wr.heap.size wr W) => l6There_any A9 A1 c9 c1 P (rwAt m j) W h9 (hA1.below h) hfa.out (by omega)
              rw [hte] at hthc
              rcases Nat.eq_zero_or_pos j with h0 | h0
              · subst h0
                have hn : Hid (∀ i, i < 0 + 1 → rowOkB z l.length m i = true) := Lib.hid (next_all (p := rowOkB z l.length m) hq.out (row_yes hlz hpp (.inl rfl)))
                rw [Nat.add_zero] at d1
                clear hq hyes hc1 hmr hpp hlz hal k3 hte hA1
                generalize (rwAt m 0).length = rl at *
                go_wp2_with (first
                  | (go_at_call 105; refine hal1.mono ?_; rintro e w3 ⟨v3, T3, rfl, hT3, hT3b, hb4⟩; obtain ⟨A9, c9, rfl⟩ := RowsIn.form (ls := P) hT3.at_)
                  | (go_at_call 104; refine (hthc _ _ _ hT3.at_ hb4).mono ?_; rintro e w4 ⟨rfl, hb5⟩; have hb6 := hb.trans ((hb4.trans (hb5.mono hb4.size)).mono hb.size)))
                clear hal1 hthc hT3 hT3b hb4 hb5 hb hbw m0 m1 m2 d1
                refine ⟨⟨0 + 1, by omega, by go_num, hn, hb6⟩, ?_⟩
                simp only [intOf]
                omega
              · obtain ⟨q, rfl⟩ : ∃ q, j = q + 1 := ⟨j - 1, by omega⟩
                obtain ⟨A2, c2, d2, hA2, _⟩ := hc1 q (by omega)
                have hrl2 := hrl q (by omega)
                have hcm := fun (W : World) (h : Below wr.heap.size wr W) => l1Less_any A2 A1 c2 c1 (rwAt m q) (rwAt m (q + 1)) W (hA2.below h) (hA1.below h) (by omega) (by omega)
                have hno := Lib.hid (fun h => orbB_no3 (l := l) (rowsOk_no hlt (row_no3 (z := z) (k := l.length) h0 h)))
                have hok := Lib.hid (fun h => next_all (p := rowOkB z l.length m) hq.out (row_yes (i := q + 1) hlz hpp (.inr h)))
                rw [Nat.add_sub_cancel] at hno hok
                have D2 := Lib.hid d2
                clear hq hyes hc1 hmr hpp hlz hal k3 hte hA1 hA2 d2
                generalize hlx : lexLt (rwAt m q) (rwAt m (q + 1)) = lx at *
                clear hlx
                generalize (rwAt m (q + 1)).length = rl at *
                generalize (rwAt m q).length = rl2 at *
                cases lx with
                | true =>
                  go_wp2_with (first
                    | (go_at_call 105; refine hal1.mono ?_; rintro e w3 ⟨v3, T3, rfl, hT3, hT3b, hb4⟩; obtain ⟨A9, c9, rfl⟩ := RowsIn.form (ls := P) hT3.at_)
                    | (go_at_call 104; refine (hthc _ _ _ hT3.at_ hb4).mono ?_; rintro e w4 ⟨rfl, hb5⟩; have hb6 := hb4.trans (hb5.mono hb4.size); have k4 := (hb6.block _ (OrbK.box_lt HK3.out)).trans HK3.out; clear m0 m1 m2; obtain ⟨m0, m1, m2⟩ := OrbK.row3 k4; have d2 := (hb6.cell (p := ⟨b1, _, none⟩) hb1).trans D2.out)
                    | (go_at_call 106; refine (hcm _ hb6).mono ?_; rintro e w5 ⟨rfl, hb7⟩; have hb8 := hb6.trans (hb7.mono hb6.size)))
                  have hn := Lib.hid (hok.out (by first | rfl | trivial))
                  have hb9 := hb.trans (hb8.mono hb.size)
                  clear hno hok hal1 hthc hT3 hT3b hb4 hb5 hb6 hb7 hb8 hb hbw m0 m1 m2 d1 d2 k4 hcm
                  refine ⟨⟨q + 1 + 1, by omega, by go_num, hn, hb9⟩, ?_⟩
                  simp only [intOf]
                  omega
                | false =>
                  go_wp2_with (first
                    | (go_at_call 105; refine hal1.mono ?_; rintro e w3 ⟨v3, T3, rfl, hT3, hT3b, hb4⟩; obtain ⟨A9, c9, rfl⟩ := RowsIn.form (ls := P) hT3.at_)
                    | (go_at_call 104; refine (hthc _ _ _ hT3.at_ hb4).mono ?_; rintro e w4 ⟨rfl, hb5⟩; have hb6 := hb4.trans (hb5.mono hb4.size); have k4 := (hb6.block _ (OrbK.box_lt HK3.out)).trans HK3.out; clear m0 m1 m2; obtain ⟨m0, m1, m2⟩ := OrbK.row3 k4; have d2 := (hb6.cell (p := ⟨b1, _, none⟩) hb1).trans D2.out)
                    | (go_at_call 106; refine (hcm _ hb6).mono ?_; rintro e w5 ⟨rfl, hb7⟩; have hb8 := hb6.trans (hb7.mono hb6.size)))
                  have hn := Lib.hid (hno.out (by first | rfl | trivial))
                  have hb9 := hbw.trans (hb8.mono hbw.size)
                  clear hno hok hal1 hthc hT3 hT3b hb4 hb5 hb6 hb7 hb8 hb hbw m0 m1 m2 d1 d2 k4 hcm
                  go_ret
                  exact ⟨bool_end hn.out.symm, hb9⟩
          · have hn := Lib.hid (orbB_no3 (l := l) (rowsOk_no hlt (row_no1 (k := l.length) hlz)))
            have hne : (((rwAt m j).length : Int) != z) = true := by simp [hlz]
            clear hq hyes hc1 hmr hlz hal hm2 k3 hA1
            generalize (rwAt m j).length = rl at *
            go_wp2
            go_ret
            exact ⟨bool_end hn.out.symm, hbw⟩
        · have hn := Lib.hid (hyes.out (rowsOk_yes fun i hi => hq.out i (by omega)))
          clear hq hm2 hyes hal
          go_wp2
          go_ret
          exact ⟨bool_end hn.out.symm, hbw⟩
end Go.Proofs.Ytkhjdidcpoefdaa
