/-
  Orbit sets in the program: whether they are valid, as contracts. HasTuple in the program, as a contract. Formulas in the program: whether they are valid, their constants aside, as contracts.
-/
import Derived.Test.YtnamlgacjhnpnaaGreatKReduced11
import Derived.Test.YtnamlgacjhnpnaaGreatKReduced5
import Derived.Test.YtnamlgacjhnpnaaGreatKReduced12
import Derived.Test.YtnamlgacjhnpnaaGreatKReduced9
section
namespace Go.Proofs.YtnamlgacjhnpnaaGreat
open Go.RowKit Go.Sort
set_option linter.unusedVariables false

theorem isWidth_any (z : Int) (w : World) :
    Calls Tryz.prog 39 #[.int .i64 z] w fun e w' => e = .returned (.bool (widB z)) ∧ w = w' := by
  by_cases h1 : 0 ≤ z
  · by_cases h2 : z ≤ 4
    · go_enter Tryz.func39, Tryz.ntmps39
      go_wp2
      go_ret
      exact ⟨bool_end (by simp [widB, h1, h2]), rfl⟩
    · have h3 : 4 < z := by omega
      clear h2
      go_enter Tryz.func39, Tryz.ntmps39
      go_wp2
      go_ret
      exact ⟨bool_end (by simp [widB]; omega), rfl⟩
  · have h3 : z < 0 := by omega
    clear h1
    go_enter Tryz.func39, Tryz.ntmps39
    go_wp2
    go_ret
    exact ⟨bool_end (by simp [widB]; omega), rfl⟩

set_option maxRecDepth 100000 in
set_option maxHeartbeats 1000000 in
theorem newNumber_any (A : Option Addr) (c : Nat) (p : List Int) (k : Int) (w : World) (hA : IntsAt w A p) (hl : p.length ≤ 1099511627776) (h0 : 0 ≤ k) (h1 : k ≤ 1000000) (hb : ∀ i, i < p.length → 0 ≤ itAt p i ∧ itAt p i < 1000000) :
    Calls Tryz.prog 83 #[.slice A p.length c, .int .i64 k] w fun e w' => e = .returned (.int .i64 (newN k p)) ∧ w = w' := by
  go_enter Tryz.func83, Tryz.ntmps83
  go_wp2
  go_loop [5, 7, 11] (fun m _ i => ∃ j : Nat, j ≤ p.length ∧ i = .int .i64 j ∧ m = .int .i64 (newN k (p.take j))) (fun _ _ i => p.length - (intOf i).toNat)
  case atStart => exact ⟨0, Nat.zero_le _, rfl, rfl⟩
  case round =>
    obtain ⟨j, hj, rfl, rfl⟩ := hrel
    by_cases hlt : j < p.length
    · obtain ⟨b1, o1, rfl, hb1, hc1⟩ := hA (by omega)
      have c1 := hc1 j hlt
      have hnx := Lib.hid (newN_next (k := k) hlt)
      obtain ⟨hy0, hy⟩ := hb j hlt
      have hg := newN_ge k (p.take j)
      have hB := newN_bound (k := k) (B := 1000000) (p := p.take j) h1 (fun i hi => by
        rw [List.length_take] at hi
        have h5 := (hb i (by omega)).2
        rwa [show itAt (p.take j) i = itAt p i by simp [itAt, show i < j by omega]])
      generalize itAt p j = y at c1 hnx hy hy0
      generalize newN k (p.take j) = m at hnx hg hB
      clear hc1 hA hb
      by_cases hle : m < y + 1
      · have hm : Hid (newN k (p.take (j + 1)) = y + 1) := Lib.hid (by rw [hnx.out]; omega)
        clear hnx
        go_wp2
        go_round
        case rel => exact ⟨j + 1, by omega, by go_num, by rw [hm.out]; try (simp [hle]; done)⟩
        case measure => simp [intOf]; omega
      · have hm : Hid (newN k (p.take (j + 1)) = m) := Lib.hid (by rw [hnx.out]; omega)
        clear hnx
        go_wp2
        go_round
        case rel => exact ⟨j + 1, by omega, by go_num, by rw [hm.out]; try (simp [hle]; done)⟩
        case measure => simp [intOf]; omega
    · have e : j = p.length := by omega
      subst e
      clear hA hb
      go_wp2
      go_ret
      first | exact ⟨rfl, rfl⟩ | exact ⟨by rw [List.take_length], rfl⟩

set_option maxRecDepth 100000 in
set_option maxHeartbeats 2000000 in
theorem isPattern_any (A : Option Addr) (c : Nat) (p : List Int) (k : Nat) (w : World) (hA : IntsAt w A p) (hc : p.length ≤ c) (hl : p.length ≤ 1000) (hk : k ≤ 1000) :
    Calls Tryz.prog 41 #[.slice A p.length c, .int .i64 k] w fun e w' => e = .returned (.bool (isPatB k p)) ∧ w = w' := by
  go_enter Tryz.func41, Tryz.ntmps41
  go_wp2
  go_loop [5, 6, 9] (fun _ _ i => ∃ j : Nat, j ≤ p.length ∧ i = .int .i64 j ∧ Hid (∀ i, i < j → 0 ≤ itAt p i ∧ itAt p i ≤ newN k (p.take i))) (fun _ _ i => p.length - (intOf i).toNat)
  case atStart => exact ⟨0, Nat.zero_le _, rfl, fun i hi => absurd hi (by omega)⟩
  case round =>
    obtain ⟨j, hj, rfl, hq⟩ := hrel
    by_cases hlt : j < p.length
    · obtain ⟨b1, o1, rfl, hb1, hc1⟩ := hA (by omega)
      have c1 := hc1 j hlt
      have hnn := newNumber_any (some ⟨b1, o1, none⟩) c (p.take j) k w (hA.take j) (by rw [List.length_take]; omega) (by omega) (by omega) (fun i hi => by
        rw [List.length_take] at hi
        have h1 := hq.out i (by omega)
        have h2 := newN_le (k := (k : Int)) (p := p) (i := i) (by omega) (fun q hq' => (hq.out q (by omega)).2)
        rw [show itAt (p.take j) i = itAt p i by simp [itAt, show i < j by omega]]
        omega)
      rw [show (p.take j).length = j by rw [List.length_take]; omega] at hnn
      have hbd := newN_le (k := (k : Int)) (p := p) (i := j) (by omega) (fun q hq' => (hq.out q hq').2)
      have hres : Hid (¬ (0 ≤ itAt p j ∧ itAt p j ≤ newN k (p.take j)) → isPatB k p = false) := Lib.hid fun h => isPat_no hlt h
      have hnx : Hid (0 ≤ itAt p j ∧ itAt p j ≤ newN k (p.take j) → ∀ i, i < j + 1 → 0 ≤ itAt p i ∧ itAt p i ≤ newN k (p.take i)) := Lib.hid fun h i hi => by
        by_cases e : i = j
        · subst e; exact h
        · exact hq.out i (by omega)
      generalize itAt p j = y at c1 hres hnx
      generalize newN k (p.take j) = m at hnn hres hnx hbd
      clear hc1 hA hq
      by_cases h0 : y < 0
      · have hn := Lib.hid (hres.out (by omega))
        clear hres hnx hnn
        go_wp2
        go_ret
        exact ⟨bool_end hn.out.symm, rfl⟩
      · by_cases h1 : m < y
        · have hn := Lib.hid (hres.out (by omega))
          clear hres hnx
          go_wp2_with (go_at_call 83; refine hnn.mono ?_; rintro e w2 ⟨rfl, rfl⟩)
          go_ret
          exact ⟨bool_end hn.out.symm, rfl⟩
        · have hn := Lib.hid (hnx.out (by omega))
          clear hres hnx
          go_wp2_with (go_at_call 83; refine hnn.mono ?_; rintro e w2 ⟨rfl, rfl⟩)
          clear hnn c1
          go_round
          case rel => exact ⟨j + 1, by omega, by go_num, hn⟩
          case measure => simp [intOf]; omega
    · have hn := Lib.hid (isPat_yes (k := (k : Int)) (p := p) fun i hi => hq.out i (by omega))
      clear hq hA
      go_wp2
      go_ret
      exact ⟨bool_end hn.out.symm, rfl⟩

theorem cmpI_cases (a b : Int) : (a = b ∧ cmpI a b = 0) ∨ (a < b ∧ cmpI a b = -1) ∨ (b < a ∧ cmpI a b = 1) := by
  unfold cmpI
  rcases Int.lt_trichotomy a b with h | h | h
  · exact .inr (.inl ⟨h, by rw [if_pos h]⟩)
  · exact .inl ⟨h, by rw [if_neg (by omega), if_neg (by omega)]⟩
  · exact .inr (.inr ⟨h, by rw [if_neg (by omega), if_pos h]⟩)

set_option maxRecDepth 100000 in
set_option maxHeartbeats 2000000 in
theorem compareI_any (A B : Option Addr) (c d : Nat) (a b : List Int) (w : World) (hA : IntsAt w A a) (hB : IntsAt w B b) (hla : a.length ≤ 1099511627776) (hlb : b.length ≤ 1099511627776) :
    Calls Tryz.prog 42 #[.slice A a.length c, .slice B b.length d] w fun e w' => (∃ i : Int, e = .returned (.int .i64 i) ∧ ((i < 0 ∧ lexLt a b = true) ∨ (0 ≤ i ∧ lexLt a b = false))) ∧ w = w' := by
  go_enter Tryz.func42, Tryz.ntmps42
  go_wp2
  go_loop [5, 6, 7, 8, 11] (fun _ _ _ _ i => ∃ j : Nat, j ≤ a.length ∧ j ≤ b.length ∧ i = .int .i64 j ∧ Hid (lexLt a b = lexLt (a.drop j) (b.drop j))) (fun _ _ _ _ i => a.length - (intOf i).toNat)
  case atStart => exact ⟨0, Nat.zero_le _, Nat.zero_le _, rfl, Lib.hid rfl⟩
  case round =>
    obtain ⟨j, hja, hjb, rfl, hq⟩ := hrel
    by_cases hlt : j < a.length
    · obtain ⟨b1, o1, rfl, hb1, hc1⟩ := hA (by omega)
      have c1 := hc1 j hlt
      by_cases hltb : j < b.length
      · obtain ⟨b2, o2, rfl, hb2, hc2⟩ := hB (by omega)
        have c2 := hc2 j hltb
        have hst := Lib.hid (lex_step hlt hltb)
        have hhe := Lib.hid (lex_here hlt hltb)
        have hcm := compare_any (itAt a j) (itAt b j) w
        generalize itAt a j = x at c1 hst hhe hcm
        generalize itAt b j = y at c2 hst hhe hcm
        clear hc1 hc2 hA hB
        rcases cmpI_cases x y with ⟨h1, h2⟩ | ⟨h1, h2⟩ | ⟨h1, h2⟩
        · rw [h2] at hcm
          have hn : Hid (lexLt a b = lexLt (a.drop (j + 1)) (b.drop (j + 1))) := Lib.hid (by rw [hq.out, hst.out h1])
          clear hst hhe hq h1 h2
          go_wp2_with (go_at_call 84; refine hcm.mono ?_; rintro e w2 ⟨rfl, rfl⟩)
          clear hcm c1 c2
          go_round
          case rel => exact ⟨j + 1, by omega, by omega, by go_num, hn⟩
          case measure => simp [intOf]; omega
        · rw [h2] at hcm
          have hn : Hid (lexLt a b = true) := Lib.hid (by rw [hq.out, hhe.out (by omega)]; exact decide_eq_true h1)
          clear hst hhe hq h1 h2
          go_wp2_with (go_at_call 84; refine hcm.mono ?_; rintro e w2 ⟨rfl, rfl⟩)
          clear hcm c1 c2
          go_ret
          exact ⟨⟨_, rfl, .inl ⟨by decide, hn.out⟩⟩, rfl⟩
        · rw [h2] at hcm
          have hn : Hid (lexLt a b = false) := Lib.hid (by rw [hq.out, hhe.out (by omega)]; exact decide_eq_false (by omega))
          clear hst hhe hq h1 h2
          go_wp2_with (go_at_call 84; refine hcm.mono ?_; rintro e w2 ⟨rfl, rfl⟩)
          clear hcm c1 c2
          go_ret
          exact ⟨⟨_, rfl, .inr ⟨by decide, hn.out⟩⟩, rfl⟩
      · have hn : Hid (lexLt a b = false) := Lib.hid (by rw [hq.out, lex_end (by omega) (by omega) (by omega)]; exact decide_eq_false (by omega))
        have hge : (b.length : Int) ≤ (j : Int) := by omega
        generalize itAt a j = x at c1
        clear hc1 hA hB hq
        go_wp2
        go_ret
        exact ⟨⟨_, rfl, .inr ⟨by decide, hn.out⟩⟩, rfl⟩
    · have hn : Hid (lexLt a b = decide (a.length < b.length)) := Lib.hid (by rw [hq.out, lex_end (by omega) (by omega) (by omega)])
      clear hA hB hq
      by_cases hlb2 : a.length < b.length
      · have hn2 : Hid (lexLt a b = true) := Lib.hid (by rw [hn.out]; exact decide_eq_true hlb2)
        have hlb3 : (a.length : Int) < (b.length : Int) := by omega
        clear hn
        go_wp2
        go_ret
        exact ⟨⟨_, rfl, .inl ⟨by decide, hn2.out⟩⟩, rfl⟩
      · have hn2 : Hid (lexLt a b = false) := Lib.hid (by rw [hn.out]; exact decide_eq_false hlb2)
        have hlb3 : ¬ (a.length : Int) < (b.length : Int) := by omega
        clear hn
        go_wp2
        go_ret
        exact ⟨⟨_, rfl, .inr ⟨by decide, hn2.out⟩⟩, rfl⟩

theorem orbB_no1 {z : Int} {l : List Int} {m : List (List Int)} (h : widB z = false) : orbB z l m = false := by simp [orbB, h]
theorem orbB_no2 {z : Int} {l : List Int} {m : List (List Int)} (h : constB l = false) : orbB z l m = false := by simp [orbB, h]
theorem orbB_no3 {z : Int} {l : List Int} {m : List (List Int)} (h : rowsOkB z l.length m = false) : orbB z l m = false := by simp [orbB, h]
theorem orbB_yes {z : Int} {l : List Int} {m : List (List Int)} (h : widB z = true) (h1 : constB l = true) (h2 : rowsOkB z l.length m = true) : orbB z l m = true := by simp [orbB, h, h1, h2]
theorem widB_iff {z : Int} : widB z = true ↔ 0 ≤ z ∧ z ≤ 4 := by simp [widB]
theorem row_no1 {z k : Int} {m : List (List Int)} {i : Nat} (h : ¬ ((rwAt m i).length : Int) = z) : rowOkB z k m i = false := by simp [rowOkB, h]
theorem row_no2 {z k : Int} {m : List (List Int)} {i : Nat} (h : isPatB k (rwAt m i) = false) : rowOkB z k m i = false := by simp [rowOkB, h]
theorem row_no3 {z k : Int} {m : List (List Int)} {i : Nat} (h0 : 0 < i) (h : lexLt (rwAt m (i - 1)) (rwAt m i) = false) : rowOkB z k m i = false := by simp [rowOkB, h]; omega
theorem row_yes {z k : Int} {m : List (List Int)} {i : Nat} (h : ((rwAt m i).length : Int) = z) (h1 : isPatB k (rwAt m i) = true) (h2 : i = 0 ∨ lexLt (rwAt m (i - 1)) (rwAt m i) = true) : rowOkB z k m i = true := by
  simp only [rowOkB, Bool.and_eq_true, Bool.or_eq_true, decide_eq_true_eq]
  exact ⟨⟨h, h1⟩, h2⟩

set_option maxRecDepth 100000 in
set_option maxHeartbeats 4000000 in
theorem isOrbitSet_impl (z : Int) (l : List Int) (m : List (List Int)) (hf : FitO l m) (x : Value) (w : World) (hx : OrbIx w x z l m) :
    Calls Tryz.prog 12 #[x] w (BoolP (orbB z l m) w) := by
  obtain ⟨hll, hml, hrl⟩ := hf
  obtain ⟨A, c, B, d, rfl, hl, _, hm⟩ := hx
  have hb0 : Below w.heap.size w (w.alloc (.cells #[.int .i64 z, .slice A l.length c, .slice B m.length d] 27)) := (Below.refl _ _).alloc (Nat.le_refl _) _
  have k0 := heap_alloc_new w (.cells #[.int .i64 z, .slice A l.length c, .slice B m.length d] 27)
  obtain ⟨m0, m1, m2⟩ := OrbK.row3 k0
  cases hw : widB z with
  | false =>
    have hwi := fun W => isWidth_any z W
    have hn := Lib.hid (orbB_no1 (l := l) (m := m) hw)
    rw [hw] at hwi
    clear hl hm k0
    go_enter Tryz.func12, Tryz.ntmps12
    go_wp2_with (go_at_call 39; refine (hwi _).mono ?_; rintro e w2 ⟨rfl, rfl⟩)
    go_ret
    exact ⟨bool_end hn.out.symm, hb0⟩
  | true =>
    have hwi := fun W => isWidth_any z W
    rw [hw] at hwi
    have hco := fun W (h : Below w.heap.size w W) => areConstants_any A c l W (hl.1.below h) (by omega)
    have HB0 := Lib.hid hb0
    have HK0 := Lib.hid k0
    cases hc : constB l with
    | false =>
      have hn := Lib.hid (orbB_no2 (z := z) (m := m) hc)
      rw [hc] at hco
      clear hl hm k0
      go_enter Tryz.func12, Tryz.ntmps12
      go_wp2_with (first
        | (go_at_call 39; refine (hwi _).mono ?_; rintro e w2 ⟨rfl, rfl⟩)
        | (go_at_call 40; refine (hco _ HB0.out).mono ?_; rintro e w2 ⟨rfl, hb2⟩; have hb3 := HB0.out.trans (hb2.mono HB0.out.size)))
      clear hwi hco m0 m1 m2 hb2 hb0
      go_ret
      exact ⟨bool_end hn.out.symm, hb3⟩
    | true =>
      have hzz := widB_iff.1 hw
      have hk3 := const_len hc
      have hyes := Lib.hid (fun h => orbB_yes (m := m) hw hc h)
      rw [hc] at hco
      clear hw hc hb0
      go_enter Tryz.func12, Tryz.ntmps12
      go_wp2_with (first
        | (go_at_call 39; refine (hwi _).mono ?_; rintro e w2 ⟨rfl, rfl⟩)
        | (go_at_call 40; refine (hco _ HB0.out).mono ?_; rintro e w2 ⟨rfl, hb2⟩; have hb3 := HB0.out.trans (hb2.mono HB0.out.size); have k2 := (hb2.block _ (OrbK.box_lt HK0.out)).trans HK0.out; clear m0 m1 m2; obtain ⟨m0, m1, m2⟩ := OrbK.row3 k2))
      have hm2 := hm.below hb3
      clear hwi hco hb2 hm hl k0 HK0 HB0 k2
      go_loop [3, 4, 18] (fun _ _ i => ∃ j : Nat, j ≤ m.length ∧ i = .int .i64 j ∧ Hid (∀ i, i < j → rowOkB z l.length m i = true)) (fun _ _ i => m.length - (intOf i).toNat)
      case atStart => exact ⟨0, Nat.zero_le _, rfl, fun i hi => absurd hi (by omega)⟩
      case round =>
        obtain ⟨j, hj, rfl, hq⟩ := hrel
        by_cases hlt : j < m.length
        · obtain ⟨b1, o1, rfl, hb1, hc1⟩ := hm2 (by omega)
          obtain ⟨A1, c1, d1, hA1, hcap⟩ := hc1 j hlt
          have hrl1 := hrl j hlt
          by_cases hlz : ((rwAt m j).length : Int) = z
          · have hip := isPattern_any A1 c1 (rwAt m j) l.length w2 hA1 hcap (by omega) (by omega)
            have hne : (((rwAt m j).length : Int) != z) = false := by simp [hlz]
            cases hpp : isPatB l.length (rwAt m j) with
            | false =>
              rw [hpp] at hip
              have hn := Lib.hid (orbB_no3 (rowsOk_no hlt (row_no2 (z := z) hpp)))
              clear hq hyes hc1 hA1 hm2 hpp hlz
              generalize (rwAt m j).length = rl at *
              go_wp2_with (go_at_call 41; refine hip.mono ?_; rintro e w3 ⟨rfl, rfl⟩)
              go_ret
              exact ⟨bool_end hn.out.symm, hb3⟩
            | true =>
              rw [hpp] at hip
              rcases Nat.eq_zero_or_pos j with h0 | h0
              · subst h0
                have hn : Hid (∀ i, i < 0 + 1 → rowOkB z l.length m i = true) := Lib.hid (next_all (p := rowOkB z l.length m) hq.out (row_yes hlz hpp (.inl rfl)))
                rw [Nat.add_zero] at d1
                clear hq hyes hc1 hA1 hm2 hpp hlz
                generalize (rwAt m 0).length = rl at *
                go_wp2_with (go_at_call 41; refine hip.mono ?_; rintro e w3 ⟨rfl, rfl⟩)
                clear hip d1
                go_round
                case rel => exact ⟨0 + 1, by omega, by go_num, hn⟩
                case measure => simp [intOf]; omega
              · obtain ⟨q, rfl⟩ : ∃ q, j = q + 1 := ⟨j - 1, by omega⟩
                obtain ⟨A2, c2, d2, hA2, hcap2⟩ := hc1 q (by omega)
                have hrl2 := hrl q (by omega)
                have hcm := compareI_any A2 A1 c2 c1 (rwAt m q) (rwAt m (q + 1)) w2 hA2 hA1 (by omega) (by omega)
                have hno := Lib.hid (fun h => orbB_no3 (l := l) (rowsOk_no hlt (row_no3 (z := z) (k := l.length) h0 h)))
                have hok := Lib.hid (fun h => next_all (p := rowOkB z l.length m) hq.out (row_yes (i := q + 1) hlz hpp (.inr h)))
                rw [Nat.add_sub_cancel] at hno hok
                clear hq hyes hc1 hA1 hA2 hm2 hpp hlz
                generalize lexLt (rwAt m q) (rwAt m (q + 1)) = lx at *
                generalize (rwAt m (q + 1)).length = rl at *
                generalize (rwAt m q).length = rl2 at *
                go_wp2_with (first
                  | (go_at_call 41; refine hip.mono ?_; rintro e w3 ⟨rfl, rfl⟩)
                  | (go_at_call 42; refine hcm.mono ?_; rintro e w3 ⟨⟨ci, rfl, hci⟩, rfl⟩; rcases hci with ⟨hci, hlx⟩ | ⟨hci, hlx⟩))
                · have hn := Lib.hid (hok.out hlx)
                  have hcn : ¬ 0 ≤ ci := by omega
                  clear hno hok hip hcm d1 d2
                  go_wp2
                  go_round
                  case rel => exact ⟨q + 1 + 1, by omega, by go_num, hn⟩
                  case measure => simp [intOf]; omega
                · have hn := Lib.hid (hno.out hlx)
                  clear hno hok hip hcm d1 d2
                  go_wp2
                  go_ret
                  exact ⟨bool_end hn.out.symm, hb3⟩
          · have hn := Lib.hid (orbB_no3 (l := l) (rowsOk_no hlt (row_no1 (k := l.length) hlz)))
            have hne : (((rwAt m j).length : Int) != z) = true := by simp [hlz]
            clear hq hyes hc1 hA1 hm2 hlz
            generalize (rwAt m j).length = rl at *
            go_wp2
            go_ret
            exact ⟨bool_end hn.out.symm, hb3⟩
        · have hn := Lib.hid (hyes.out (rowsOk_yes fun i hi => hq.out i (by omega)))
          clear hq hm2 hyes
          go_wp2
          go_ret
          exact ⟨bool_end hn.out.symm, hb3⟩
end Go.Proofs.YtnamlgacjhnpnaaGreat
end

section
namespace Go.Proofs.YtnamlgacjhnpnaaGreat
open Go.RowKit Go.Sort
set_option linter.unusedVariables false

def hasTB (z : Int) (l : List Int) (m : List (List Int)) (t : List Int) : Bool := orbB z l m && (tupB t && thereB m (patL l t))
theorem hasT_no1 {z : Int} {l : List Int} {m : List (List Int)} {t : List Int} (h : orbB z l m = false) : hasTB z l m t = false := by simp [hasTB, h]
theorem hasT_no2 {z : Int} {l : List Int} {m : List (List Int)} {t : List Int} (h : tupB t = false) : hasTB z l m t = false := by simp [hasTB, h]
theorem hasT_is {z : Int} {l : List Int} {m : List (List Int)} {t : List Int} (h : orbB z l m = true) (h1 : tupB t = true) : hasTB z l m t = thereB m (patL l t) := by simp [hasTB, h, h1]
theorem orb_const {z : Int} {l : List Int} {m : List (List Int)} (h : orbB z l m = true) : constB l = true := by
  unfold orbB at h
  simp only [Bool.and_eq_true] at h
  exact h.2.1

set_option maxRecDepth 100000 in
set_option maxHeartbeats 2000000 in
theorem equalI_any (A B : Option Addr) (c d : Nat) (a b : List Int) (w : World) (hA : IntsAt w A a) (hB : IntsAt w B b) (hla : a.length ≤ 1099511627776) (hlb : b.length ≤ 1099511627776) :
    Calls Tryz.prog 47 #[.slice A a.length c, .slice B b.length d] w (BoolP (decide (a = b)) w) := by
  by_cases hl : a.length = b.length
  · have hl0 : ((a.length : Int) != (b.length : Int)) = false := by simp [hl]
    have HL := Lib.hid hl
    clear hl
    go_enter Tryz.func47, Tryz.ntmps47
    go_wp2
    go_loopw [5, 13] (fun _ i wr => ∃ j : Nat, j ≤ a.length ∧ i = .int .i64 j ∧ Hid (∀ q, q < j → itAt a q = itAt b q) ∧ Below w.heap.size w wr) (fun _ i _ => a.length - (intOf i).toNat)
    case atStart => exact ⟨0, Nat.zero_le _, rfl, fun q hq => absurd hq (by omega), Below.refl _ _⟩
    case round =>
      obtain ⟨j, hj, rfl, hq, hb⟩ := hrel
      by_cases hlt : j < a.length
      · obtain ⟨b1, o1, rfl, hb1, hc1⟩ := hA (by omega)
        obtain ⟨b2, o2, rfl, hb2, hc2⟩ := hB (by have := HL.out; omega)
        have hltb : j < b.length := by have := HL.out; omega
        have c1 := hc1 j hlt
        have c2 := hc2 j hltb
        rw [← hb.cell (p := ⟨b1, _, none⟩) hb1] at c1
        rw [← hb.cell (p := ⟨b2, _, none⟩) hb2] at c2
        have q1 := fun d os => cell_regrown c1 d os
        have q2 := fun d os => cell_regrown c2 d os
        have hno := Lib.hid (fun (h : ¬ itAt a j = itAt b j) => idiffer_at (xs := a) (ys := b) j h)
        have hok := Lib.hid (fun (h : itAt a j = itAt b j) (q : Nat) (hq2 : q < j + 1) => (by
          by_cases e : q = j
          · subst e; exact h
          · exact hq.out q (by omega) : itAt a q = itAt b q))
        generalize itAt a j = x at q1 hno hok
        generalize itAt b j = y at q2 hno hok
        clear hc1 hc2 hA hB hq c1 c2
        by_cases hxy : x = y
        · have hn := Lib.hid (hok.out hxy)
          have he : (x != y) = false := by simp [hxy]
          clear hno hok hxy
          go_wp2
          refine wp_region_quiet_below (by kernel_rfl) (by kernel_rfl) ?_
          repeat (any_goals (first | go_big_quiet_step (fail) | quiet_step (fail)))
          refine wpQuiet_nil ?_
          intro _ hw'
          obtain ⟨⟨dq, osq⟩, hw''⟩ := hw'
          subst hw''
          have hb3 := hb.trans ((below_regrown wr dq osq).mono hb.size)
          generalize grow (redrawn wr dq) osq = w2 at hb3 ⊢
          clear hb q1 q2
          go_wp2
          refine ⟨⟨j + 1, by omega, by go_num, hn, hb3⟩, ?_⟩
          simp only [intOf]
          omega
        · have hn := Lib.hid (hno.out hxy)
          have he : (x != y) = true := by simp [hxy]
          clear hno hok hxy
          go_wp2
          refine wp_region_quiet_below (by kernel_rfl) (by kernel_rfl) ?_
          repeat (any_goals (first | go_big_quiet_step (fail) | quiet_step (fail)))
          refine wpQuiet_nil ?_
          intro _ hw'
          obtain ⟨⟨dq, osq⟩, hw''⟩ := hw'
          subst hw''
          have hb3 := hb.trans ((below_regrown wr dq osq).mono hb.size)
          generalize grow (redrawn wr dq) osq = w2 at hb3 ⊢
          clear hb q1 q2
          go_wp2
          go_ret
          exact ⟨bool_end hn.out.symm, hb3⟩
      · have hn : Hid (decide (a = b) = true) := Lib.hid (by
          rw [decide_eq_true_eq]
          refine List.ext_getElem HL.out fun i h1 h2 => ?_
          have h3 := hq.out i (by omega)
          rwa [itAt_get _ _ h1, itAt_get _ _ h2] at h3)
        clear hq hA hB
        go_wp2
        go_ret
        exact ⟨bool_end hn.out.symm, hb⟩
  · have hl0 : ((a.length : Int) != (b.length : Int)) = true := by simp; omega
    have hn : Hid (decide (a = b) = false) := Lib.hid (decide_eq_false (fun e => hl (by rw [e])))
    clear hA hB hl
    go_enter Tryz.func47, Tryz.ntmps47
    go_wp2
    go_ret
    exact ⟨bool_end hn.out.symm, Below.refl _ _⟩

theorem isTheRow_any (A B : Option Addr) (c d V : Nat) (p q : List Int) (w : World) (hA : IntsAt w A p) (hV : w.cell? ⟨V, 0, none⟩ = some (.slice B q.length d)) (hB : IntsAt w B q) (hp : p.length ≤ 1099511627776) (hq : q.length ≤ 1099511627776) :
    Calls Tryz.prog 46 #[.slice A p.length c, .pointer (some ⟨V, 0, none⟩)] w (BoolP (decide (p = q)) w) := by
  have hc := equalI_any A B c d p q w hA hB hp hq
  clear hA hB
  generalize decide (p = q) = r at hc ⊢
  generalize p.length = pl at hc ⊢
  generalize q.length = ql at hc hV ⊢
  go_enter Tryz.func46, Tryz.ntmps46
  go_wp2_with (go_at_call 47; refine hc.mono ?_; rintro e w2 ⟨rfl, hb⟩)
  clear hc
  go_ret
  exact ⟨rfl, hb⟩

set_option maxRecDepth 100000 in
set_option maxHeartbeats 2000000 in
theorem indexRow_any (A B : Option Addr) (c d V : Nat) (ls : List (List Int)) (q : List Int) (w : World) (hA : RowsIn w (.slice A ls.length c) ls) (hV : w.cell? ⟨V, 0, none⟩ = some (.slice B q.length d)) (hB : IntsAt w B q) (hf : FitR ls) (hq : q.length ≤ 1099511627776) :
    Calls Tryz.prog 87 #[.slice A ls.length c, .func (.func 46) #[] #[.pointer (some ⟨V, 0, none⟩)]] w
      fun e w' => (∃ i : Int, e = .returned (.int .i64 i) ∧ ((0 ≤ i ∧ thereB ls q = true) ∨ (i < 0 ∧ thereB ls q = false))) ∧ Below w.heap.size w w' := by
  obtain ⟨hll, hrl⟩ := hf
  have hVl : V < w.heap.size := block_lt_of_cell hV
  go_enter Tryz.func87, Tryz.ntmps87
  go_wp2
  go_loopw [5, 8] (fun _ i wr => ∃ k : Nat, k ≤ ls.length ∧ i = .int .i64 k ∧ Hid (∀ j, j < k → ¬ rwAt ls j = q) ∧ Below w.heap.size w wr) (fun _ i _ => ls.length - (intOf i).toNat)
  case atStart => exact ⟨0, Nat.zero_le _, rfl, Lib.hid (fun j hj => absurd hj (by omega)), Below.refl _ _⟩
  case round =>
    obtain ⟨k, hk, rfl, hn, hb⟩ := hrel
    by_cases hlt : k < ls.length
    · obtain ⟨b1, o1, rfl, hb1, hc1⟩ := (hA.below hb).get (by omega)
      obtain ⟨A1, c1, d1, hA1⟩ := hc1 k hlt
      have hV2 := (hb.cell (p := ⟨V, 0, none⟩) hVl).trans hV
      have hcall := isTheRow_any A1 B c1 d V (rwAt ls k) q wr hA1 hV2 (hB.below hb) (by have := hrl k hlt; omega) hq
      have hno := Lib.hid (fun (h : ¬ rwAt ls k = q) (j : Nat) (hj2 : j < k + 1) => (by
        by_cases e : j = k
        · subst e; exact h
        · exact hn.out j (by omega) : ¬ rwAt ls j = q))
      have hyes := Lib.hid (fun (h : rwAt ls k = q) => there_yes hlt h)
      by_cases hx : rwAt ls k = q
      · have hn2 := Lib.hid (hyes.out hx)
        rw [decide_eq_true hx] at hcall
        clear hc1 hA hn hno hyes hx hA1 hV hV2 hB
        generalize (rwAt ls k).length = rl at *
        go_wp2_with (go_at_call 46; refine hcall.mono ?_; rintro e w2 ⟨rfl, hb2⟩; have hb3 := hb.trans (hb2.mono hb.size))
        clear hcall d1 hb hb2
        go_ret
        exact ⟨⟨_, rfl, Or.inl ⟨by omega, hn2.out⟩⟩, hb3⟩
      · have hn2 := Lib.hid (hno.out hx)
        rw [decide_eq_false hx] at hcall
        clear hc1 hA hn hno hyes hx hA1 hV hV2 hB
        generalize (rwAt ls k).length = rl at *
        go_wp2_with (go_at_call 46; refine hcall.mono ?_; rintro e w2 ⟨rfl, hb2⟩; have hb3 := hb.trans (hb2.mono hb.size))
        clear hcall d1 hb hb2
        refine ⟨⟨k + 1, by omega, by go_num, hn2, hb3⟩, ?_⟩
        simp only [intOf]
        omega
    · have hn2 := Lib.hid (there_no (ls := ls) (p := q) fun j hj => hn.out j (by omega))
      clear hn hA hV hB
      go_wp2
      go_ret
      exact ⟨⟨_, rfl, Or.inr ⟨by decide, hn2.out⟩⟩, hb⟩

theorem containsRow_any (A B : Option Addr) (c d V : Nat) (ls : List (List Int)) (q : List Int) (w : World) (hA : RowsIn w (.slice A ls.length c) ls) (hV : w.cell? ⟨V, 0, none⟩ = some (.slice B q.length d)) (hB : IntsAt w B q) (hf : FitR ls) (hq : q.length ≤ 1099511627776) :
    Calls Tryz.prog 45 #[.slice A ls.length c, .func (.func 46) #[] #[.pointer (some ⟨V, 0, none⟩)]] w (BoolP (thereB ls q) w) := by
  have hi := indexRow_any A B c d V ls q w hA hV hB hf hq
  clear hA hV hB hf
  generalize thereB ls q = r at hi ⊢
  generalize ls.length = n at hi ⊢
  go_enter Tryz.func45, Tryz.ntmps45
  go_wp2_with fail
  refine hi.mono ?_
  rintro e w2 ⟨⟨i, rfl, h⟩, hb⟩
  clear hi
  rcases h with ⟨h, rfl⟩ | ⟨h, rfl⟩
  · go_wp2
    go_ret
    exact ⟨rfl, hb⟩
  · have h' : ¬ 0 ≤ i := by omega
    go_wp2
    go_ret
    exact ⟨bool_end (by first | rfl | (simp; omega)), hb⟩

set_option maxRecDepth 100000 in
set_option maxHeartbeats 4000000 in
theorem hasTuple_impl (z : Int) (l : List Int) (m : List (List Int)) (t : List Int) (hf : FitO l m) (C : Option Addr) (cc : Nat) (x : Value) (w : World) (hx : OrbIx w x z l m) (hC : IntsAt w C t) (htl : t.length ≤ 1048576) :
    Calls Tryz.prog 13 #[x, .slice C t.length cc] w (BoolP (hasTB z l m t) w) := by
  have hX := hx
  obtain ⟨A, c, B, d, rfl, hl, hmr, hm⟩ := hx
  have hb0 : Below w.heap.size w (w.alloc (.cells #[.int .i64 z, .slice A l.length c, .slice B m.length d] 27)) := (Below.refl _ _).alloc (Nat.le_refl _) _
  have k0 := heap_alloc_new w (.cells #[.int .i64 z, .slice A l.length c, .slice B m.length d] 27)
  obtain ⟨m0, m1, m2⟩ := OrbK.row3 k0
  have hio := isOrbitSet_impl z l m hf _ _ (hX.below hb0)
  have HB0 := Lib.hid hb0
  have HK0 := Lib.hid k0
  cases ho : orbB z l m with
  | false =>
    have hn := Lib.hid (hasT_no1 (t := t) ho)
    rw [ho] at hio
    clear hl hmr hm k0 hX hC
    go_enter Tryz.func13, Tryz.ntmps13
    go_wp2_with (go_at_call 12; refine hio.mono ?_; rintro e w2 ⟨rfl, hb2⟩; have hb3 := HB0.out.trans (hb2.mono HB0.out.size))
    clear hio hb2 m0 m1 m2 hb0
    go_ret
    exact ⟨bool_end hn.out.symm, hb3⟩
  | true =>
    rw [ho] at hio
    have hit := fun W (h : Below w.heap.size w W) => isTuple_any C cc t W (hC.below h) (by omega)
    have hk3 := const_len (orb_const ho)
    cases ht : tupB t with
    | false =>
      have hn := Lib.hid (hasT_no2 (z := z) (l := l) (m := m) ht)
      rw [ht] at hit
      clear hl hmr hm k0 hX hC
      go_enter Tryz.func13, Tryz.ntmps13
      go_wp2_with (first
        | (go_at_call 12; refine hio.mono ?_; rintro e w2 ⟨rfl, hb2⟩; have hb3 := HB0.out.trans (hb2.mono HB0.out.size))
        | (go_at_call 43; refine (hit _ hb3).mono ?_; rintro e w3 ⟨rfl, hb4⟩; have hb5 := hb3.trans (hb4.mono hb3.size)))
      clear hio hit hb2 m0 m1 m2 hb0 hb3 hb4
      go_ret
      exact ⟨bool_end hn.out.symm, hb5⟩
    | true =>
      have hn := Lib.hid (hasT_is ho ht)
      rw [ht] at hit
      have hpa := fun W (h : Below w.heap.size w W) => patternIn_any A C c cc l t W (hl.1.below h) (hC.below h) (by omega) htl
      have hrm := Lib.hid (fun W (h : Below w.heap.size w W) => hmr.below h)
      have hpl := patL_len l t
      have hplb : (patL l t).length ≤ 1048576 := by omega
      have hfm := Lib.hid hf.2
      clear hl hmr hm k0 hX hC ho ht hpl
      generalize patL l t = q at hpa hn hplb
      go_enter Tryz.func13, Tryz.ntmps13
      go_wp2_with (first
        | (go_at_call 12; refine hio.mono ?_; rintro e w2 ⟨rfl, hb2⟩; have hb3 := HB0.out.trans (hb2.mono HB0.out.size))
        | (go_at_call 43; refine (hit _ hb3).mono ?_; rintro e w3 ⟨rfl, hb4⟩; have hb5 := hb3.trans (hb4.mono hb3.size); have hb9 := hb2.trans (hb4.mono hb2.size); have k2 := (hb9.block _ (OrbK.box_lt HK0.out)).trans HK0.out; clear m0 m1 m2; obtain ⟨m0, m1, m2⟩ := OrbK.row3 k2)
        | (go_at_call 44; refine (hpa _ hb5).mono ?_; rintro e w5 ⟨v5, rfl, ho5, hb6⟩; obtain ⟨A7, c7, rfl, hA7⟩ := own_intsAt ho5; have hb7 := hb5.trans (hb6.mono hb5.size); have hb10 := hb9.trans (hb6.mono hb9.size); have k5 := (hb10.block _ (OrbK.box_lt HK0.out)).trans HK0.out; clear m0 m1 m2; obtain ⟨m0, m1, m2⟩ := OrbK.row3 k5; have hlt := OrbK.box_lt k5; have hbv : Below w5.heap.size w5 (w5.alloc (.cells #[.slice A7 q.length c7] 24)) := (Below.refl _ _).alloc (Nat.le_refl _) _; have hvv : (w5.alloc (.cells #[.slice A7 q.length c7] 24)).cell? ⟨w5.heap.size, 0, none⟩ = some (.slice A7 q.length c7) := (by rw [cell_of_row _ w5.heap.size 0 _ _ _ (heap_alloc_new w5 _)]; rfl); have hb11 := hb7.trans (hbv.mono hb7.size); have hcf := containsRow_any B A7 d c7 w5.heap.size m q (w5.alloc (.cells #[.slice A7 q.length c7] 24)) (hrm.out _ hb11) hvv (hA7.below hbv) hfm.out (by omega); clear hvv hbv)
        | (go_at_call 45; refine hcf.mono ?_; rintro e w9 ⟨rfl, hb12⟩; have hb13 := hb11.trans (hb12.mono hb11.size)))
      clear hio hit hpa hcf m0 m1 m2 hb0 hb2 hb3 hb4 hb5 hb6 hb7 hb9 hb10 hb11 hb12 k2 k5 ho5 hA7
      go_ret
      exact ⟨bool_end hn.out.symm, hb13⟩
end Go.Proofs.YtnamlgacjhnpnaaGreat
end

section
namespace Go.Proofs.YtnamlgacjhnpnaaGreat
open Go.RowKit Go.Sort
set_option linter.unusedVariables false

end Go.Proofs.YtnamlgacjhnpnaaGreat
end

