/-
  All patterns, what is among them, and valid orbit sets: in the model, as contracts. Orbit sets in the model: whether they are valid, as contracts. The patterns that are among those of a list, as an orbit set: in the model, as a contract. The atoms that a formula names: in plain words, and in the model, as contracts. l6Union of the model at lists in any order, as a contract. ExamplesOf of both sides, as contracts.
-/
import Derived.Test.YtnamlgacjhnpnaaGreatKReduced15
import Derived.Test.YtnamlgacjhnpnaaGreatKReduced14
import Derived.Test.YtnamlgacjhnpnaaGreatKReduced5
import Derived.Test.YtnamlgacjhnpnaaGreatKReduced4
section
namespace Go.Proofs.YtnamlgacjhnpnaaGreat
open Go.RowKit Go.Sort
set_option linter.unusedVariables false

theorem l1Max_any (a b : Int) (w : World) :
    Calls Tryz.prog 94 #[.int .i64 a, .int .i64 b] w fun e w' => e = .returned (.int .i64 (max a b)) ∧ w = w' := by
  by_cases h : b < a
  · have hm : Hid (max a b = a) := Lib.hid (by omega)
    go_enter Tryz.func94, Tryz.ntmps94
    go_wp2
    go_ret
    exact ⟨int_end hm.out.symm, rfl⟩
  · have hm : Hid (max a b = b) := Lib.hid (by omega)
    go_enter Tryz.func94, Tryz.ntmps94
    go_wp2
    go_ret
    exact ⟨int_end hm.out.symm, rfl⟩

set_option maxRecDepth 100000 in
theorem own_one (w : World) : Own ((w.alloc (.cells #[] 3)).alloc (.cells #[.slice (some ⟨w.heap.size, 0, none⟩) 0 0] 24)) [w.heap.size + 1, w.heap.size] (.slice (some ⟨w.heap.size + 1, 0, none⟩) 1 1) (rowsMem [[]]) := by
  have h1 : (w.alloc (.cells #[] 3)).ownsRow 0 3 1 (.slice (some ⟨w.heap.size, 0, none⟩) 0 0) 0 [] := World.ownsRow_lit w #[] 0 (Nat.zero_le _) (by decide) rfl
  have h2 := World.ownsRow_lit (w.alloc (.cells #[] 3)) (e := 24) (size := 1) (base := 0) #[.slice (some ⟨w.heap.size, 0, none⟩) 0 0] 1 (Nat.zero_le _) (by decide) rfl
  rw [World.size_alloc] at h2
  have h3 : Own (w.alloc (.cells #[] 3)) [w.heap.size] (.slice (some ⟨w.heap.size, 0, none⟩) 0 0) (intMem []) := .row rfl h1 .nil (by simp)
  have h4 := h3.keep ((Below.refl _ _).alloc (Nat.le_refl _) (.cells #[.slice (some ⟨w.heap.size, 0, none⟩) 0 0] 24))
  exact .row (S := [w.heap.size] ++ []) rfl h2 (.cons h4 .nil (fun b _ hb => by simp at hb)) (by simp)

theorem own_lit0 (w : World) : Own (w.alloc (.cells #[] 24)) [w.heap.size] (.slice (some ⟨w.heap.size, 0, none⟩) 0 0) (rowsMem []) :=
  .row rfl (World.ownsRow_lit w #[] 0 (Nat.zero_le _) (by decide) rfl) .nil (by simp)

set_option maxRecDepth 100000 in
set_option maxHeartbeats 8000000 in
theorem l6All_any (k : Nat) (hk : k ≤ 3) : ∀ (n : Nat), n ≤ 4 → ∀ (z : Int), z = n → ∀ (w : World), Calls Tryz.prog 54 #[.int .i64 z, .int .i64 k] w (RowsOut (allP n k) w) := by
  obtain ⟨i0, hi0, hq0, hq1, hq2⟩ := info_parts int_infoM
  have HSZ := Lib.hid hq2
  clear hq2
  intro n
  induction n with
  | zero =>
    intro _ z hz w
    have hz0 : (z == 0) = true := by simp [hz]
    have hpost : RowsOut (allP 0 k) w (.returned (.slice (some ⟨w.heap.size + 1, 0, none⟩) 1 1)) ((w.alloc (.cells #[] 3)).alloc (.cells #[.slice (some ⟨w.heap.size, 0, none⟩) 0 0] 24)) :=
      ⟨_, _, rfl, own_one w, fun b hb => by simp at hb; omega, ((Below.refl _ _).alloc (Nat.le_refl _) _).alloc (by simp) _⟩
    clear hz
    go_enter Tryz.func54, Tryz.ntmps54
    go_wp2
    go_ret
    exact hpost
  | succ n ih =>
    intro hn z hz w
    have hz0 : (z == 0) = false := by simp [hz]; omega
    have hb0 : Below w.heap.size w (w.alloc (.cells #[] 24)) := (Below.refl _ _).alloc (Nat.le_refl _) _
    have hca := ih (by omega) (z - 1) (by omega) (w.alloc (.cells #[] 24))
    have ho0 := own_lit0 w
    have hz4 : z ≤ 4 := by omega
    have hz1 : 1 ≤ z := by omega
    have HP := Lib.hid (show allP (n + 1) k = (allP n k).flatMap (extP k) from rfl)
    have hPl := allP_4096 (k := (k : Int)) (by omega) (by omega) (show n ≤ 4 by omega)
    have hFl := allP_4096 (k := (k : Int)) (by omega) (by omega) (show n + 1 ≤ 4 by omega)
    have HRW := Lib.hid (fun i (hi : i < (allP n k).length) => allP_row (k := (k : Int)) (by omega) hi)
    rw [HP.out] at hFl
    rw [HP.out]
    generalize allP n k = P at hca hPl hFl HRW ⊢
    clear ih hz HP
    go_enter Tryz.func54, Tryz.ntmps54
    go_wp2_with fail
    refine hca.mono ?_
    rintro e w1 ⟨v20, T, rfl, hT, hTb, hb1⟩
    obtain ⟨A, c, rfl⟩ := RowsIn.form (ls := P) hT.at_
    have ho1 := ho0.keep hb1
    have hbw := hb0.trans (hb1.mono hb0.size)
    have hTw : ∀ b ∈ T, w.heap.size + 1 ≤ b := fun b hb => by have := hTb b hb; rw [World.size_alloc] at this; exact this
    clear hca ho0 hb0 hb1 hTb
    go_wp2
    go_loopw [5, 7, 8, 10, 11, 22] (fun v5 _ _ _ _ i wr => ∃ (j : Nat) (U : List Nat), j ≤ P.length ∧ i = .int .i64 j ∧ Own wr U v5 (rowsMem ((P.take j).flatMap (extP k))) ∧ Own wr T (.slice A P.length c) (rowsMem P) ∧ (∀ b ∈ U, w.heap.size ≤ b ∧ b ∉ T) ∧ Below w.heap.size w wr) (fun _ _ _ _ _ i _ => P.length - (intOf i).toNat)
    case atStart => exact ⟨0, _, Nat.zero_le _, rfl, ho1, hT, fun b hb => by simp at hb; subst hb; exact ⟨Nat.le_refl _, fun h => by have := hTw _ h; omega⟩, hbw⟩
    case round =>
      clear ho1 hT hbw
      obtain ⟨j, U, hj, rfl, hoU, hT, hUT, hb⟩ := hrel
      by_cases hlt : j < P.length
      · obtain ⟨b1, o1, A1, c1, T1, rfl, hb1, d1, ⟨hA1, hz1'⟩, hT1, hs1⟩ := own_rowAt hT hlt
        obtain ⟨hpl, hpp⟩ := HRW.out j hlt
        have hpl4 : (rwAt P j).length ≤ 4 := by omega
        clear hpl
        have HFN := Lib.hid (flat_next (k := (k : Int)) hlt)
        have hft := flat_take_len (k := (k : Int)) P (j + 1)
        rw [HFN.out, List.length_append, extP_len] at hft
        have hnb := newN_pat hpp
        have hng := newN_ge (k : Int) (rwAt P j)
        have HEA := Lib.hid (extTo_all (k : Int) (rwAt P j))
        have HPA := Lib.hid (fun i (hi : i < (rwAt P j).length) => isPat_at hpp hi)
        have HNL := Lib.hid (fun i (hi : i ≤ (rwAt P j).length) => newN_le (k := (k : Int)) (p := rwAt P j) hi (fun q hq => (isPat_at hpp (by omega)).2))
        have HNX := Lib.hid (fun i (hi : i < (rwAt P j).length) => newN_next (k := (k : Int)) hi)
        have HTL : Hid ((rwAt P j).take (rwAt P j).length = rwAt P j) := Lib.hid (List.take_length ..)
        generalize rwAt P j = p at *
        generalize (P.take j).flatMap (extP k) = D at *
        clear hpp
        go_wp2
        go_loop [8, 10, 29] (fun mo _ i => ∃ q : Nat, q ≤ p.length ∧ i = .int .i64 q ∧ mo = .int .i64 (newN k (p.take q))) (fun _ _ i => p.length - (intOf i).toNat)
        case atStart => exact ⟨0, Nat.zero_le _, rfl, rfl⟩
        case round =>
          obtain ⟨q, hq, rfl, rfl⟩ := hrel
          by_cases hlq : q < p.length
          · obtain ⟨b2, o2, rfl, hb2, hc2⟩ := hA1 (by omega)
            have c2 := hc2 q hlq
            have hpa := HPA.out q hlq
            have hnl := HNL.out q (by omega)
            have hnx := Lib.hid (HNX.out q hlq)
            have hmx := l1Max_any (newN k (p.take q)) (itAt p q + 1) wr
            generalize itAt p q = y at c2 hpa hnx hmx
            generalize newN k (p.take q) = mm at hpa hnl hnx hmx
            clear hc2 hoU hT hT1 hUT hb HFN HEA HPA HNL HNX HTL d1
            go_wp2_with (go_at_call 94; refine hmx.mono ?_; rintro e w2 ⟨rfl, rfl⟩)
            clear hmx c2
            go_round
            case rel => exact ⟨q + 1, by omega, by go_num, by rw [hnx.out]⟩
            case measure => simp [intOf]; omega
          · have e : q = p.length := by omega
            subst e
            rw [HTL.out]
            generalize newN k p = mm at *
            clear HPA HNL HNX HTL
            go_wp2
            go_loopw [5, 11] (fun v5 i wr => ∃ (q : Nat) (U2 : List Nat), (q : Int) ≤ mm + 1 ∧ i = .int .i64 q ∧ Own wr U2 v5 (rowsMem (D ++ extTo p q)) ∧ Own wr T (.slice (some ⟨b1, o1, none⟩) P.length c) (rowsMem P) ∧ Own wr T1 (.slice A1 p.length c1) (intMem p) ∧ (∀ b ∈ U2, w.heap.size ≤ b ∧ b ∉ T) ∧ Below w.heap.size w wr) (fun _ i _ => (mm + 1).toNat - (intOf i).toNat)
            case atStart => exact ⟨0, U, by omega, rfl, by simpa [extTo] using hoU, hT, hT1, hUT, hb⟩
            case round =>
              clear hoU hT hT1 hUT hb d1 hA1 hz1'
              obtain ⟨q, U2, hq, rfl, hoU, hT, hT1, hUT, hb⟩ := hrel
              by_cases hlq : (q : Int) ≤ mm
              · obtain ⟨A9, c9, e9, hA9, hz9⟩ := own_intSlice hT1
                injection e9 with e91 _ e93
                subst e91; subst e93
                have hcp := l1Copy_ints A1 c1 p wr hA9 hz9 (by omega)
                have hel := Lib.hid (extTo_len p q)
                have hen := Lib.hid (extTo_next p q)
                have hpl2 : p.length ≤ 4 := by omega
                have hdl : (D ++ extTo p q).length + 1 ≤ 16777216 := by rw [List.length_append, hel.out]; omega
                have hsb := hb.size
                clear hA9 hz9
                go_wp2_with fail
                refine hcp.mono ?_
                rintro e w6 ⟨v6, rfl, ho6, hb6⟩
                have hbx : Below w6.heap.size w6 (w6.alloc (.cells #[.int .i64 (q : Int)] 3)) := (Below.refl _ _).alloc (Nat.le_refl _) _
                have ho6b := own_below ho6 hbx
                have hb7 := hb6.trans (hbx.mono hb6.size)
                have hcell : (w6.alloc (.cells #[.int .i64 (q : Int)] 3)).cell? ⟨w6.heap.size, 0, none⟩ = some (.int .i64 q) := by simp
                have HC := Lib.hid (one_cell hcell)
                have hs7 := hb7.size
                clear hcp ho6 hbx hcell hb6
                go_wp2_with (at_builtin; refine wpList_append_lies _ rfl (.tmp 45) (.tmp 47) 24 rfl wr.heap.size 3 i0 (.int .i64 0) 1 8 Tryz.underlying24 hi0 hq0 hq1 HSZ.out rfl (by decide) _ p.length _ rfl ho6b ⟨w6.heap.size, 0, none⟩ 1 1 [.int .i64 q] rfl rfl HC.out (int_one _) (by decide) ?c3 ?c4 ?c5 _ rfl ?_)
                case c3 => unfold maxLen; omega
                case c4 => omega
                case c5 => exact hs7
                intro g cap w8 ho8 hg8 _ _
                have hb8 : Below wr.heap.size wr w8 := below_own hb7 ho6b (Nat.le_refl _) hs7 hg8
                have ho8' : w8.ownsRow wr.heap.size 3 1 (.slice (some ⟨g, 0, none⟩) (p.length + 1) cap) (p ++ [(q : Int)]).length (icells (p ++ [(q : Int)])) := by
                  rw [icells_append, List.length_append]
                  exact ho8
                obtain ⟨R, hR, hRb, hRe⟩ := own_intRow ho8'
                clear hRe
                have hbx : Below w8.heap.size w8 (w8.alloc (.cells #[.slice (some ⟨g, 0, none⟩) (p.length + 1) cap] 24)) := (Below.refl _ _).alloc (Nat.le_refl _) _
                have hb9 := hb8.trans (hbx.mono hb8.size)
                have hR9 := hR.keep hbx
                have hU9 := hoU.keep hb9
                have hT9 := hT.keep hb9
                have hT19 := hT1.keep hb9
                have hbw9 := hb.trans (hb9.mono hb.size)
                have hs9 := hbw9.size
                have hcell : (w8.alloc (.cells #[.slice (some ⟨g, 0, none⟩) (p.length + 1) cap] 24)).cell? ⟨w8.heap.size, 0, none⟩ = some (.slice (some ⟨g, 0, none⟩) (p.length + 1) cap) := by simp
                have HC9 := Lib.hid (one_cell hcell)
                have hUl : ∀ b ∈ U2, b < wr.heap.size := fun b hb => hoU.lt b hb
                have hTl : ∀ b ∈ T, b < wr.heap.size := fun b hb => hT.lt b hb
                have hdis : ∀ b ∈ U2, b ∉ R := fun b h1 h2 => by have := hUl b h1; have := hRb b h2; omega
                have hs8 := hb8.size
                clear hcell hbx hR ho8 ho8' ho6b hg8 hb7 HC hoU hT hT1 hb9 hb8
                go_wp2_with (at_builtin; refine wpList_append_rows rfl (.tmp 43) (.tmp 49) rfl _ U2 _ rfl hU9 ⟨w8.heap.size, 0, none⟩ _ _ R rfl HC9.out hR9 hdis hdl ?_)
                intro g2 cap2 U3 w10 hU10 hU3 hon
                have hT10 := hT9.alike (w' := w10) fun b hbb => hon.block b (hT9.lt b hbb) (fun h => (hUT b h).2 hbb)
                have hT110 := hT19.alike (w' := w10) fun b hbb => hon.block b (hT19.lt b hbb) (fun h => (hUT b h).2 (hs1 b hbb))
                have hb10 := Only.below hbw9 hon hs9 (fun b h => (hUT b h).1)
                have hUT3 : ∀ b ∈ U3, w.heap.size ≤ b ∧ b ∉ T := fun b h => by
                  rcases hU3 b h with h1 | h1 | h1
                  · exact hUT b h1
                  · have h2 := hRb b h1
                    exact ⟨by omega, fun h3 => by have := hTl b h3; omega⟩
                  · have h1' : b = w8.heap.size + 1 := by simpa using h1
                    exact ⟨by omega, fun h3 => by have := hTl b h3; omega⟩
                have hlen : Hid ((D ++ extTo p q).length + 1 = (D ++ extTo p (q + 1)).length) := Lib.hid (by rw [List.length_append, List.length_append, hel.out, extTo_len]; omega)
                rw [← hen.out] at hU10
                clear hU9 hT9 hT19 hbw9 hon hU3 hUT hRb hR9 hdis HC9 hen hUl hTl
                go_wp2
                refine ⟨⟨q + 1, U3, by omega, by go_num, hU10, hT10, hT110, hUT3, hb10⟩, ?_⟩
                simp only [intOf]
                omega
              · have e : q = (mm + 1).toNat := by omega
                subst e
                rw [HEA.out, ← HFN.out] at hoU
                clear hT1 HEA HFN
                go_wp2
                refine ⟨⟨j + 1, U2, by omega, by go_num, hoU, hT, hUT, hb⟩, ?_⟩
                simp only [intOf]
                omega
      · have e : j = P.length := by omega
        subst e
        rw [List.take_length] at hoU
        have hpost : RowsOut (P.flatMap (extP k)) w (.returned u5) wr := ⟨_, U, rfl, hoU, fun b h => (hUT b h).1, hb⟩
        clear hoU hT hUT hb
        go_wp2
        go_ret
        exact hpost
end Go.Proofs.YtnamlgacjhnpnaaGreat
end

section
namespace Go.Proofs.YtnamlgacjhnpnaaGreat
open Go.RowKit Go.Sort
set_option linter.unusedVariables false

set_option maxRecDepth 100000 in
set_option maxHeartbeats 2000000 in
theorem l1Same_any (A B : Option Addr) (c d : Nat) (a b : List Int) (w : World) (hA : IntsAt w A a) (hB : IntsAt w B b) (hla : a.length ≤ 1099511627776) (hlb : b.length ≤ 1099511627776) :
    Calls Tryz.prog 93 #[.slice A a.length c, .slice B b.length d] w (BoolP (decide (a = b)) w) := by
  by_cases hl : a.length = b.length
  · have hl0 : ((a.length : Int) != (b.length : Int)) = false := by simp [hl]
    have HL := Lib.hid hl
    clear hl
    go_enter Tryz.func93, Tryz.ntmps93
    go_wp2
    go_loopw [5] (fun i wr => ∃ j : Nat, j ≤ a.length ∧ i = .int .i64 j ∧ Hid (∀ q, q < j → itAt a q = itAt b q) ∧ Below w.heap.size w wr) (fun i _ => a.length - (intOf i).toNat)
    case atStart => exact ⟨0, Nat.zero_le _, rfl, fun q hq => absurd hq (by omega), Below.refl _ _⟩
    case round =>
      obtain ⟨j, hj, rfl, hq, hb⟩ := hrel
      by_cases hlt : j < a.length
      · obtain ⟨b1, o1, rfl, hb1, hc1⟩ := hA (by omega)
        obtain ⟨b2, o2, rfl, hb2, hc2⟩ := hB (by have := HL.out; omega)
        have hltb : j < b.length := by have := HL.out; omega
        have c1 := hc1 j hlt
        have c2 := hc2 j hltb
        rw [← hb.cell (p := ⟨b1, _, none⟩) hb1] at c1
        rw [← hb.cell (p := ⟨b2, _, none⟩) hb2] at c2
        have q1 := fun d os => cell_regrown c1 d os
        have q2 := fun d os => cell_regrown c2 d os
        have hno := Lib.hid (fun (h : ¬ itAt a j = itAt b j) => idiffer_at (xs := a) (ys := b) j h)
        have hok := Lib.hid (fun (h : itAt a j = itAt b j) (q : Nat) (hq2 : q < j + 1) => (by
          by_cases e : q = j
          · subst e; exact h
          · exact hq.out q (by omega) : itAt a q = itAt b q))
        generalize itAt a j = x at q1 hno hok
        generalize itAt b j = y at q2 hno hok
        clear hc1 hc2 hA hB hq c1 c2
        by_cases hxy : x = y
        · have hn := Lib.hid (hok.out hxy)
          have he : (x != y) = false := by simp [hxy]
          clear hno hok hxy
          go_wp2
          refine wp_region_quiet_below (by kernel_rfl) (by kernel_rfl) ?_
          repeat (any_goals (first | go_big_quiet_step (fail) | quiet_step (fail)))
          refine wpQuiet_nil ?_
          intro _ hw'
          obtain ⟨⟨dq, osq⟩, hw''⟩ := hw'
          subst hw''
          have hb3 := hb.trans ((below_regrown wr dq osq).mono hb.size)
          generalize grow (redrawn wr dq) osq = w2 at hb3 ⊢
          clear hb q1 q2
          go_wp2
          refine ⟨⟨j + 1, by omega, by go_num, hn, hb3⟩, ?_⟩
          simp only [intOf]
          omega
        · have hn := Lib.hid (hno.out hxy)
          have he : (x != y) = true := by simp [hxy]
          clear hno hok hxy
          go_wp2
          refine wp_region_quiet_below (by kernel_rfl) (by kernel_rfl) ?_
          repeat (any_goals (first | go_big_quiet_step (fail) | quiet_step (fail)))
          refine wpQuiet_nil ?_
          intro _ hw'
          obtain ⟨⟨dq, osq⟩, hw''⟩ := hw'
          subst hw''
          have hb3 := hb.trans ((below_regrown wr dq osq).mono hb.size)
          generalize grow (redrawn wr dq) osq = w2 at hb3 ⊢
          clear hb q1 q2
          go_wp2
          go_ret
          exact ⟨bool_end hn.out.symm, hb3⟩
      · have hn : Hid (decide (a = b) = true) := Lib.hid (by
          rw [decide_eq_true_eq]
          refine List.ext_getElem HL.out fun i h1 h2 => ?_
          have h3 := hq.out i (by omega)
          rwa [itAt_get _ _ h1, itAt_get _ _ h2] at h3)
        clear hq hA hB
        go_wp2
        go_ret
        exact ⟨bool_end hn.out.symm, hb⟩
  · have hl0 : ((a.length : Int) != (b.length : Int)) = true := by simp; omega
    have hn : Hid (decide (a = b) = false) := Lib.hid (decide_eq_false (fun e => hl (by rw [e])))
    clear hA hB hl
    go_enter Tryz.func93, Tryz.ntmps93
    go_wp2
    go_ret
    exact ⟨bool_end hn.out.symm, Below.refl _ _⟩

set_option maxRecDepth 100000 in
set_option maxHeartbeats 2000000 in
theorem l1Less_any (A B : Option Addr) (c d : Nat) (a b : List Int) (w : World) (hA : IntsAt w A a) (hB : IntsAt w B b) (hla : a.length ≤ 1099511627776) (hlb : b.length ≤ 1099511627776) :
    Calls Tryz.prog 55 #[.slice A a.length c, .slice B b.length d] w (BoolP (lexLt a b) w) := by
  go_enter Tryz.func55, Tryz.ntmps55
  go_wp2
  go_loopw [5] (fun i wr => ∃ j : Nat, j ≤ a.length ∧ j ≤ b.length ∧ i = .int .i64 j ∧ Hid (lexLt a b = lexLt (a.drop j) (b.drop j)) ∧ Below w.heap.size w wr) (fun i _ => a.length - (intOf i).toNat)
  case atStart => exact ⟨0, Nat.zero_le _, Nat.zero_le _, rfl, Lib.hid rfl, Below.refl _ _⟩
  case round =>
    obtain ⟨j, hja, hjb, rfl, hq, hb⟩ := hrel
    by_cases hlt : j < a.length
    · by_cases hltb : j < b.length
      · obtain ⟨b1, o1, rfl, hb1, hc1⟩ := hA (by omega)
        obtain ⟨b2, o2, rfl, hb2, hc2⟩ := hB (by omega)
        have c1 := hc1 j hlt
        have c2 := hc2 j hltb
        rw [← hb.cell (p := ⟨b1, _, none⟩) hb1] at c1
        rw [← hb.cell (p := ⟨b2, _, none⟩) hb2] at c2
        have q1 := fun d os => cell_regrown c1 d os
        have q2 := fun d os => cell_regrown c2 d os
        have hst := Lib.hid (lex_step hlt hltb)
        have hhe := Lib.hid (lex_here hlt hltb)
        generalize itAt a j = x at q1 hst hhe
        generalize itAt b j = y at q2 hst hhe
        clear hc1 hc2 hA hB c1 c2
        by_cases hxy : x = y
        · have hn : Hid (lexLt a b = lexLt (a.drop (j + 1)) (b.drop (j + 1))) := Lib.hid (by rw [hq.out, hst.out hxy])
          have he : (x != y) = false := by simp [hxy]
          clear hst hhe hxy hq
          go_wp2
          refine wp_region_quiet_below (by kernel_rfl) (by kernel_rfl) ?_
          repeat (any_goals (first | go_big_quiet_step (fail) | quiet_step (fail)))
          refine wpQuiet_nil ?_
          intro _ hw'
          obtain ⟨⟨dq, osq⟩, hw''⟩ := hw'
          subst hw''
          have hb3 := hb.trans ((below_regrown wr dq osq).mono hb.size)
          generalize grow (redrawn wr dq) osq = w2 at hb3 ⊢
          clear hb q1 q2
          go_wp2
          refine ⟨⟨j + 1, by omega, by omega, by go_num, hn, hb3⟩, ?_⟩
          simp only [intOf]
          omega
        · have hn : Hid (lexLt a b = decide (x < y)) := Lib.hid (by rw [hq.out, hhe.out hxy])
          have he : (x != y) = true := by simp [hxy]
          clear hst hhe hxy hq
          go_wp2
          refine wp_region_quiet_below (by kernel_rfl) (by kernel_rfl) ?_
          repeat (any_goals (first | go_big_quiet_step (fail) | quiet_step (fail)))
          refine wpQuiet_nil ?_
          intro _ hw'
          obtain ⟨⟨dq, osq⟩, hw''⟩ := hw'
          subst hw''
          have q3 := fun d os => q1 (dq + d) os
          have hb3 := hb.trans ((below_regrown wr dq osq).mono hb.size)
          have r1 : (grow (redrawn wr dq) osq).cell? ⟨b1, o1 + j, none⟩ = some (.int .i64 x) := q1 dq osq
          have r2 : (grow (redrawn wr dq) osq).cell? ⟨b2, o2 + j, none⟩ = some (.int .i64 y) := q2 dq osq
          generalize grow (redrawn wr dq) osq = w2 at hb3 r1 r2 ⊢
          clear hb q1 q2 q3
          have q1 := fun d os => cell_regrown r1 d os
          have q2 := fun d os => cell_regrown r2 d os
          clear r1 r2
          go_wp2
          refine wp_region_quiet_below (by kernel_rfl) (by kernel_rfl) ?_
          repeat (any_goals (first | go_big_quiet_step (fail) | quiet_step (fail)))
          refine wpQuiet_nil ?_
          intro _ hw'
          obtain ⟨⟨dq, osq⟩, hw''⟩ := hw'
          subst hw''
          have hb4 := hb3.trans ((below_regrown w2 dq osq).mono hb3.size)
          generalize grow (redrawn w2 dq) osq = w3 at hb4 ⊢
          clear hb3 q1 q2
          go_wp2
          go_ret
          exact ⟨bool_end hn.out.symm, hb4⟩
      · have hn : Hid (lexLt a b = decide (a.length < b.length)) := Lib.hid (by rw [hq.out, lex_end (by omega) (by omega) (by omega)])
        have hge : ¬ (j : Int) < (b.length : Int) := by omega
        have hlj : (j : Int) < (a.length : Int) := by omega
        clear hA hB hq
        go_wp2
        go_ret
        exact ⟨bool_end (by rw [hn.out]), hb⟩
    · have hn : Hid (lexLt a b = decide (a.length < b.length)) := Lib.hid (by rw [hq.out, lex_end (by omega) (by omega) (by omega)])
      have hge : ¬ (j : Int) < (a.length : Int) := by omega
      clear hA hB hq
      go_wp2
      go_ret
      exact ⟨bool_end (by rw [hn.out]), hb⟩

set_option maxRecDepth 100000 in
set_option maxHeartbeats 2000000 in
theorem l6There_any (A B : Option Addr) (c d : Nat) (ls : List (List Int)) (p : List Int) (w : World) (hA : RowsIn w (.slice A ls.length c) ls) (hB : IntsAt w B p) (hf : FitR ls) (hp : p.length ≤ 1099511627776) :
    Calls Tryz.prog 53 #[.slice A ls.length c, .slice B p.length d] w (BoolP (thereB ls p) w) := by
  obtain ⟨hll, hrl⟩ := hf
  go_enter Tryz.func53, Tryz.ntmps53
  go_wp2
  go_loopw [6, 9] (fun _ i wr => ∃ j : Nat, j ≤ ls.length ∧ i = .int .i64 j ∧ Hid (∀ q, q < j → ¬ rwAt ls q = p) ∧ Below w.heap.size w wr) (fun _ i _ => ls.length - (intOf i).toNat)
  case atStart => exact ⟨0, Nat.zero_le _, rfl, fun q hq => absurd hq (by omega), Below.refl _ _⟩
  case round =>
    obtain ⟨j, hj, rfl, hq, hb⟩ := hrel
    by_cases hlt : j < ls.length
    · obtain ⟨b1, o1, rfl, hb1, hc1⟩ := (hA.below hb).get (by omega)
      obtain ⟨A1, c1, d1, hA1⟩ := hc1 j hlt
      have hsm := l1Same_any A1 B c1 d (rwAt ls j) p wr hA1 (hB.below hb) (by have := hrl j hlt; omega) hp
      have hno := Lib.hid (fun (h : ¬ rwAt ls j = p) (q : Nat) (hq2 : q < j + 1) => (by
        by_cases e : q = j
        · subst e; exact h
        · exact hq.out q (by omega) : ¬ rwAt ls q = p))
      have hyes := Lib.hid (fun (h : rwAt ls j = p) => there_yes hlt h)
      by_cases he : rwAt ls j = p
      · have hn := Lib.hid (hyes.out he)
        rw [decide_eq_true he] at hsm
        clear hno hyes he hc1 hA1 hA hB hq
        generalize (rwAt ls j).length = rl at *
        go_wp2_with (go_at_call 93; refine hsm.mono ?_; rintro e w2 ⟨rfl, hb2⟩; have hb3 := hb.trans (hb2.mono hb.size))
        clear hsm d1 hb hb2
        go_ret
        exact ⟨bool_end hn.out.symm, hb3⟩
      · have hn := Lib.hid (hno.out he)
        rw [decide_eq_false he] at hsm
        clear hno hyes he hc1 hA1 hA hB hq
        generalize (rwAt ls j).length = rl at *
        go_wp2_with (go_at_call 93; refine hsm.mono ?_; rintro e w2 ⟨rfl, hb2⟩; have hb3 := hb.trans (hb2.mono hb.size))
        clear hsm d1 hb hb2
        refine ⟨⟨j + 1, by omega, by go_num, hn, hb3⟩, ?_⟩
        simp only [intOf]
        omega
    · have hn := Lib.hid (there_no (ls := ls) (p := p) fun i hi => hq.out i (by omega))
      clear hq hA hB
      go_wp2
      go_ret
      exact ⟨bool_end hn.out.symm, hb⟩

set_option maxRecDepth 100000 in
set_option maxHeartbeats 8000000 in
theorem isOrbitSet_spec (z : Int) (l : List Int) (m : List (List Int)) (hf : FitO l m) (x : Value) (w : World) (hx : OrbIx w x z l m) :
    Calls Tryz.prog 17 #[x] w (BoolP (orbB z l m) w) := by
  obtain ⟨hll, hml, hrl⟩ := hf
  obtain ⟨A, c, B, d, rfl, hl, _, hm⟩ := hx
  have hb0 : Below w.heap.size w (w.alloc (.cells #[.int .i64 z, .slice A l.length c, .slice B m.length d] 27)) := (Below.refl _ _).alloc (Nat.le_refl _) _
  have k0 := heap_alloc_new w (.cells #[.int .i64 z, .slice A l.length c, .slice B m.length d] 27)
  obtain ⟨m0, m1, m2⟩ := OrbK.row3 k0
  have hwi := fun W => l1In_any z 0 4 W
  have hwe : decide ((0 : Int) ≤ z ∧ z ≤ 4) = widB z := rfl
  cases hw : widB z with
  | false =>
    have hn := Lib.hid (orbB_no1 (l := l) (m := m) hw)
    rw [hwe, hw] at hwi
    clear hl hm k0 hwe
    go_enter Tryz.func17, Tryz.ntmps17
    go_wp2_with (go_at_call 51; refine (hwi _).mono ?_; rintro e w2 ⟨rfl, rfl⟩)
    go_ret
    exact ⟨bool_end hn.out.symm, hb0⟩
  | true =>
    rw [hwe, hw] at hwi
    have hco := fun W (h : Below w.heap.size w W) => l6Constants_any A c l W (hl.1.below h) (by omega)
    have HB0 := Lib.hid hb0
    have HK0 := Lib.hid k0
    cases hc : constB l with
    | false =>
      have hn := Lib.hid (orbB_no2 (z := z) (m := m) hc)
      rw [hc] at hco
      clear hl hm k0 hwe
      go_enter Tryz.func17, Tryz.ntmps17
      go_wp2_with (first
        | (go_at_call 51; refine (hwi _).mono ?_; rintro e w2 ⟨rfl, rfl⟩)
        | (go_at_call 52; refine (hco _ HB0.out).mono ?_; rintro e w2 ⟨rfl, hb2⟩; have hb3 := HB0.out.trans (hb2.mono HB0.out.size)))
      clear hwi hco m0 m1 m2 hb2 hb0
      go_ret
      exact ⟨bool_end hn.out.symm, hb3⟩
    | true =>
      have hzz := widB_iff.1 hw
      have hk3 := const_len hc
      have hyes := Lib.hid (fun h => orbB_yes (m := m) hw hc h)
      rw [hc] at hco
      clear hw hc hwe
      obtain ⟨zn, hzn⟩ : ∃ zn : Nat, z = zn := ⟨z.toNat, by omega⟩
      have hal := fun W => l6All_any l.length hk3 zn (by omega) z hzn W
      have hth := Lib.hid (fun p => there_all (w := zn) (k := (l.length : Int)) (by omega) p)
      have hfa := Lib.hid (fitR_of (ls := allP zn l.length) (by have := allP_fit (k := (l.length : Int)) (by omega) (by omega) (show zn ≤ 4 by omega); omega))
      have hzh := Lib.hid hzn
      clear hzn
      generalize hPP : allP zn l.length = P at hal hth hfa
      clear hPP
      go_enter Tryz.func17, Tryz.ntmps17
      go_wp2_with (first
        | (go_at_call 51; refine (hwi _).mono ?_; rintro e w2 ⟨rfl, rfl⟩)
        | (go_at_call 52; refine (hco _ HB0.out).mono ?_; rintro e w2 ⟨rfl, hb2⟩; have hb3 := HB0.out.trans (hb2.mono HB0.out.size); have k2 := (hb2.block _ (OrbK.box_lt HK0.out)).trans HK0.out; clear m0 m1 m2; obtain ⟨m0, m1, m2⟩ := OrbK.row3 k2))
      have hm2 := hm.below hb3
      have HB3 := Lib.hid hb3
      have HK2 := Lib.hid k2
      clear hwi hco hb2 hm hl k0 HK0 HB0 k2 hb0 hb3 m0 m1 m2
      go_loopw [3, 4, 5, 19] (fun _ _ _ i wr => ∃ j : Nat, j ≤ m.length ∧ i = .int .i64 j ∧ Hid (∀ i, i < j → rowOkB z l.length m i = true) ∧ Below w2.heap.size w2 wr) (fun _ _ _ i _ => m.length - (intOf i).toNat)
      case atStart => exact ⟨0, Nat.zero_le _, rfl, fun i hi => absurd hi (by omega), Below.refl _ _⟩
      case round =>
        obtain ⟨j, hj, rfl, hq, hb⟩ := hrel
        have hbw := HB3.out.trans (hb.mono HB3.out.size)
        by_cases hlt : j < m.length
        · have k3 := (hb.block _ (OrbK.box_lt HK2.out)).trans HK2.out
          obtain ⟨m0, m1, m2⟩ := OrbK.row3 k3
          have HK3 := Lib.hid k3
          have hmr := hm2.below hb
          obtain ⟨b1, o1, rfl, hb1, hc1⟩ := hmr (by omega)
          obtain ⟨A1, c1, d1, hA1, _⟩ := hc1 j hlt
          have hrl1 := hrl j hlt
          by_cases hlz : ((rwAt m j).length : Int) = z
          · have hne : (((rwAt m j).length : Int) != z) = false := by simp [hlz]
            have hal1 := hal wr
            have hte : thereB P (rwAt m j) = isPatB l.length (rwAt m j) := by
              have h1 := hth.out (rwAt m j)
              rw [h1, decide_eq_true (by have := hzh.out; omega)]
              rfl
            cases hpp : isPatB l.length (rwAt m j) with
            | false =>
              have hn := Lib.hid (orbB_no3 (rowsOk_no hlt (row_no2 (z := z) hpp)))
              rw [hpp] at hte
              have hthc := fun (W : World) (A9 : Option Addr) (c9 : Nat) (h9 : RowsIn W (.slice A9 P.length c9) P) (h : Below wr.heap.size wr W) => l6There_any A9 A1 c9 c1 P (rwAt m j) W h9 (hA1.below h) hfa.out (by omega)
              rw [hte] at hthc
              clear hq hyes hc1 hmr hpp hlz hal hm2 k3 hte hA1
              generalize (rwAt m j).length = rl at *
              go_wp2_with (first
                | (go_at_call 54; refine hal1.mono ?_; rintro e w3 ⟨v3, T3, rfl, hT3, hT3b, hb4⟩; obtain ⟨A9, c9, rfl⟩ := RowsIn.form (ls := P) hT3.at_)
                | (go_at_call 53; refine (hthc _ _ _ hT3.at_ hb4).mono ?_; rintro e w4 ⟨rfl, hb5⟩; have hb6 := hbw.trans ((hb4.trans (hb5.mono hb4.size)).mono hbw.size)))
              clear hal1 hthc hT3 hT3b hb4 hb5 hb hbw m0 m1 m2 d1
              go_ret
              exact ⟨bool_end hn.out.symm, hb6⟩
            | true =>
              rw [hpp] at hte
              have hthc := fun (W : World) (A9 : Option Addr) (c9 : Nat) (h9 : RowsIn W (.slice A9 P.length c9) P) (h : Below wr.heap.size wr W) => l6There_any A9 A1 c9 c1 P (rwAt m j) W h9 (hA1.below h) hfa.out (by omega)
              rw [hte] at hthc
              rcases Nat.eq_zero_or_pos j with h0 | h0
              · subst h0
                have hn : Hid (∀ i, i < 0 + 1 → rowOkB z l.length m i = true) := Lib.hid (next_all (p := rowOkB z l.length m) hq.out (row_yes hlz hpp (.inl rfl)))
                rw [Nat.add_zero] at d1
                clear hq hyes hc1 hmr hpp hlz hal k3 hte hA1
                generalize (rwAt m 0).length = rl at *
                go_wp2_with (first
                  | (go_at_call 54; refine hal1.mono ?_; rintro e w3 ⟨v3, T3, rfl, hT3, hT3b, hb4⟩; obtain ⟨A9, c9, rfl⟩ := RowsIn.form (ls := P) hT3.at_)
                  | (go_at_call 53; refine (hthc _ _ _ hT3.at_ hb4).mono ?_; rintro e w4 ⟨rfl, hb5⟩; have hb6 := hb.trans ((hb4.trans (hb5.mono hb4.size)).mono hb.size)))
                clear hal1 hthc hT3 hT3b hb4 hb5 hb hbw m0 m1 m2 d1
                refine ⟨⟨0 + 1, by omega, by go_num, hn, hb6⟩, ?_⟩
                simp only [intOf]
                omega
              · obtain ⟨q, rfl⟩ : ∃ q, j = q + 1 := ⟨j - 1, by omega⟩
                obtain ⟨A2, c2, d2, hA2, _⟩ := hc1 q (by omega)
                have hrl2 := hrl q (by omega)
                have hcm := fun (W : World) (h : Below wr.heap.size wr W) => l1Less_any A2 A1 c2 c1 (rwAt m q) (rwAt m (q + 1)) W (hA2.below h) (hA1.below h) (by omega) (by omega)
                have hno := Lib.hid (fun h => orbB_no3 (l := l) (rowsOk_no hlt (row_no3 (z := z) (k := l.length) h0 h)))
                have hok := Lib.hid (fun h => next_all (p := rowOkB z l.length m) hq.out (row_yes (i := q + 1) hlz hpp (.inr h)))
                rw [Nat.add_sub_cancel] at hno hok
                have D2 := Lib.hid d2
                clear hq hyes hc1 hmr hpp hlz hal k3 hte hA1 hA2 d2
                generalize hlx : lexLt (rwAt m q) (rwAt m (q + 1)) = lx at *
                clear hlx
                generalize (rwAt m (q + 1)).length = rl at *
                generalize (rwAt m q).length = rl2 at *
                cases lx with
                | true =>
                  go_wp2_with (first
                    | (go_at_call 54; refine hal1.mono ?_; rintro e w3 ⟨v3, T3, rfl, hT3, hT3b, hb4⟩; obtain ⟨A9, c9, rfl⟩ := RowsIn.form (ls := P) hT3.at_)
                    | (go_at_call 53; refine (hthc _ _ _ hT3.at_ hb4).mono ?_; rintro e w4 ⟨rfl, hb5⟩; have hb6 := hb4.trans (hb5.mono hb4.size); have k4 := (hb6.block _ (OrbK.box_lt HK3.out)).trans HK3.out; clear m0 m1 m2; obtain ⟨m0, m1, m2⟩ := OrbK.row3 k4; have d2 := (hb6.cell (p := ⟨b1, _, none⟩) hb1).trans D2.out)
                    | (go_at_call 55; refine (hcm _ hb6).mono ?_; rintro e w5 ⟨rfl, hb7⟩; have hb8 := hb6.trans (hb7.mono hb6.size)))
                  have hn := Lib.hid (hok.out (by first | rfl | trivial))
                  have hb9 := hb.trans (hb8.mono hb.size)
                  clear hno hok hal1 hthc hT3 hT3b hb4 hb5 hb6 hb7 hb8 hb hbw m0 m1 m2 d1 d2 k4 hcm
                  refine ⟨⟨q + 1 + 1, by omega, by go_num, hn, hb9⟩, ?_⟩
                  simp only [intOf]
                  omega
                | false =>
                  go_wp2_with (first
                    | (go_at_call 54; refine hal1.mono ?_; rintro e w3 ⟨v3, T3, rfl, hT3, hT3b, hb4⟩; obtain ⟨A9, c9, rfl⟩ := RowsIn.form (ls := P) hT3.at_)
                    | (go_at_call 53; refine (hthc _ _ _ hT3.at_ hb4).mono ?_; rintro e w4 ⟨rfl, hb5⟩; have hb6 := hb4.trans (hb5.mono hb4.size); have k4 := (hb6.block _ (OrbK.box_lt HK3.out)).trans HK3.out; clear m0 m1 m2; obtain ⟨m0, m1, m2⟩ := OrbK.row3 k4; have d2 := (hb6.cell (p := ⟨b1, _, none⟩) hb1).trans D2.out)
                    | (go_at_call 55; refine (hcm _ hb6).mono ?_; rintro e w5 ⟨rfl, hb7⟩; have hb8 := hb6.trans (hb7.mono hb6.size)))
                  have hn := Lib.hid (hno.out (by first | rfl | trivial))
                  have hb9 := hbw.trans (hb8.mono hbw.size)
                  clear hno hok hal1 hthc hT3 hT3b hb4 hb5 hb6 hb7 hb8 hb hbw m0 m1 m2 d1 d2 k4 hcm
                  go_ret
                  exact ⟨bool_end hn.out.symm, hb9⟩
          · have hn := Lib.hid (orbB_no3 (l := l) (rowsOk_no hlt (row_no1 (k := l.length) hlz)))
            have hne : (((rwAt m j).length : Int) != z) = true := by simp [hlz]
            clear hq hyes hc1 hmr hlz hal hm2 k3 hA1
            generalize (rwAt m j).length = rl at *
            go_wp2
            go_ret
            exact ⟨bool_end hn.out.symm, hbw⟩
        · have hn := Lib.hid (hyes.out (rowsOk_yes fun i hi => hq.out i (by omega)))
          clear hq hm2 hyes hal
          go_wp2
          go_ret
          exact ⟨bool_end hn.out.symm, hbw⟩
end Go.Proofs.YtnamlgacjhnpnaaGreat
end

section
namespace Go.Proofs.YtnamlgacjhnpnaaGreat
open Go.RowKit Go.Sort
set_option linter.unusedVariables false

theorem allP_pos {k : Int} (hk : 0 ≤ k) : ∀ w, 0 < (allP w k).length
  | 0 => by simp [allP]
  | w + 1 => by
    have h1 := allP_pos hk w
    obtain ⟨p, hp⟩ : ∃ p, p ∈ allP w k := ⟨_, List.getElem_mem h1⟩
    have hx : p ++ [0] ∈ extP k p := by
      unfold extP
      rw [List.mem_map]
      have := newN_ge k p
      exact ⟨0, List.mem_range.2 (by omega), rfl⟩
    have hm : p ++ [0] ∈ allP (w + 1) k := List.mem_flatMap.2 ⟨p, hp, hx⟩
    exact List.length_pos_of_mem hm

set_option maxRecDepth 100000 in
set_option maxHeartbeats 8000000 in
theorem l6Those_any (n : Nat) (hn : n ≤ 4) (cs : List Int) (hcs : cs.length ≤ 3) (L : List (List Int)) (hf : FitR L) (A B : Option Addr) (c d : Nat) (w : World) (hA : ConstAt w A c cs) (hB : RowsIn w (.slice B L.length d) L) :
    Calls Tryz.prog 72 #[.int .i64 (n : Int), .slice A cs.length c, .slice B L.length d] w (OrbOut n cs (thoseL n cs.length L) w) := by
  have hb0 : Below w.heap.size w (w.alloc (.cells #[.int .i64 0, .slice none 0 0, .slice none 0 0] 27)) := (Below.refl _ _).alloc (Nat.le_refl _) _
  have hr0 := heap_alloc_new w (.cells #[.int .i64 0, .slice none 0 0, .slice none 0 0] 27)
  have hsz0 : (w.alloc (.cells #[.int .i64 0, .slice none 0 0, .slice none 0 0] 27)).heap.size = w.heap.size + 1 := by simp
  have hcp := l1Copy_ints A c cs (w.alloc (.cells #[.int .i64 0, .slice none 0 0, .slice none 0 0] 27)) (hA.below hb0).1 hA.2 (by omega)
  have HS0 := Lib.hid hsz0
  have HR0 := Lib.hid hr0
  have HB0 := Lib.hid hb0
  have HB := Lib.hid hB
  clear hb0 hr0 hsz0 hB hA
  go_enter Tryz.func72, Tryz.ntmps72
  go_wp2_with fail
  refine hcp.mono ?_
  rintro e w1 ⟨v1, rfl, ho1, hb1⟩
  obtain ⟨S1, hS1, hS1b, _⟩ := own_intRow ho1
  obtain ⟨A1, c1, rfl, _⟩ := at_intRow hS1.at_
  rw [HS0.out] at hS1b
  have hz1 : w.heap.size + 1 ≤ w1.heap.size := by have := hb1.size; rw [HS0.out] at this; exact this
  have r1 := (hb1.block w.heap.size (by rw [HS0.out]; omega)).trans HR0.out
  have hbw1 := HB0.out.trans (hb1.mono HB0.out.size)
  have hbx : Below w1.heap.size w1 (w1.alloc (.cells #[.int .i64 (n : Int), .slice A1 cs.length c1, .slice none 0 0] 27)) := (Below.refl _ _).alloc (Nat.le_refl _) _
  have r2 := (hbx.block w.heap.size (OrbK.box_lt r1)).trans r1
  have o2 := heap_alloc_new w1 (.cells #[.int .i64 (n : Int), .slice A1 cs.length c1, .slice none 0 0] 27)
  have hS2 := hS1.keep hbx
  have hbw2 := hbw1.trans (hbx.mono hbw1.size)
  have hz2 : (w1.alloc (.cells #[.int .i64 (n : Int), .slice A1 cs.length c1, .slice none 0 0] 27)).heap.size = w1.heap.size + 1 := by simp
  have hS1l : ∀ b ∈ S1, b < w1.heap.size := fun b hb => hS1.lt b hb
  have hal := l6All_any cs.length hcs n hn n rfl (w1.alloc (.cells #[.int .i64 (n : Int), .slice A1 cs.length c1, .slice none 0 0] 27))
  have HZ2 := Lib.hid hz2
  have HR2 := Lib.hid r2
  have HO2 := Lib.hid o2
  have HS2 := Lib.hid hS2
  have HBW := Lib.hid hbw2
  have HPL := Lib.hid (allP_pos (k := (cs.length : Int)) (by omega) n)
  have HPM := Lib.hid (allP_4096 (k := (cs.length : Int)) (by omega) (by omega) hn)
  have HRW := Lib.hid (fun i (hi : i < (allP n cs.length).length) => (allP_row (k := (cs.length : Int)) (by omega) hi).1)
  have HTH : Hid (thoseL n cs.length L = (allP n cs.length).filter fun p => thereB L p) := Lib.hid rfl
  generalize allP n cs.length = P at hal HPL HPM HRW HTH
  clear hcp ho1 hb1 hS1 r1 hbw1 hbx r2 o2 hS2 hbw2 hz2 HS0 HR0 HB0
  go_wp2_with fail
  refine hal.mono ?_
  rintro e w3 ⟨v3, S3, rfl, hS3, hS3b, hb3⟩
  rw [HZ2.out] at hS3b
  obtain ⟨g, off, cg, u, T, rfl, hleft, hTS, hgS⟩ := left_of hS3 HPL.out
  have hg0 := hS3b g hgS
  have o3 := (hb3.block w1.heap.size (OrbK.box_lt HO2.out)).trans HO2.out
  have r3 := (hb3.block w.heap.size (OrbK.box_lt HR2.out)).trans HR2.out
  have hS4 := HS2.out.keep hb3
  have hbw3 := HBW.out.trans (hb3.mono HBW.out.size)
  have hTb : ∀ j, ∀ b ∈ T j, w1.heap.size + 1 ≤ b := fun j b hb => hS3b b (hTS j b hb)
  have hBw : w.heap.size + 1 ≤ w1.heap.size := hz1
  have hTl : ∀ j, ∀ b ∈ T j, b < w3.heap.size := fun j b hb => hS3.lt b (hTS j b hb)
  clear hal hS3 hS3b hTS hgS HZ2 HR2 HO2 HS2 HBW hb3 hz1
  have o9 := Lib.hid o3
  have r9 := Lib.hid r3
  have ho0 : Own w3 [] (.slice none 0 0) (rowsMem ((P.take 0).filter fun p => thereB L p)) := by simp only [List.take_zero, List.filter_nil]; exact .nil _ _
  have HTL := Lib.hid hTl
  have HTB := Lib.hid hTb
  have HS1 := Lib.hid hS1l
  have HS1b := Lib.hid hS1b
  clear o3 r3 hTl hTb hS1l hS1b
  go_wp2
  go_loopw [9, 19] (fun _ i wr => ∃ (j : Nat) (U : List Nat) (A2 : Option Addr) (m2 c2 : Nat), j ≤ P.length ∧ i = .int .i64 j ∧ Hid (m2 = ((P.take j).filter fun p => thereB L p).length) ∧ Hid (wr.heap[w1.heap.size]? = some (.cells #[.int .i64 (n : Int), .slice A1 cs.length c1, .slice A2 m2 c2] 27 (0, 0))) ∧ Hid (wr.heap[w.heap.size]? = some (.cells #[.int .i64 0, .slice none 0 0, .slice none 0 0] 27 (0, 0))) ∧
    Hid (Own wr U (.slice A2 m2 c2) (rowsMem ((P.take j).filter fun p => thereB L p))) ∧ Hid (Own wr S1 (.slice A1 cs.length c1) (intMem cs)) ∧ Hid (Left wr P g off u T j) ∧ Hid (∀ b ∈ U, w1.heap.size + 1 ≤ b ∧ b ≠ g ∧ ∀ q, j ≤ q → b ∉ T q) ∧ Below w.heap.size w wr ∧ w3.heap.size ≤ wr.heap.size) (fun _ i _ => P.length - (intOf i).toNat)
  case atStart => exact ⟨0, [], none, 0, 0, Nat.zero_le _, rfl, Lib.hid (by simp), o9, r9, Lib.hid ho0, Lib.hid hS4, Lib.hid hleft, Lib.hid (fun b hb => by simp at hb), hbw3, Nat.le_refl _⟩
  case round =>
    clear o9 r9 ho0 hS4 hleft hbw3
    obtain ⟨j, U, A2, m2, c2, hj, rfl, hm2, ho, hr, hU, hK, hLf, hUb, hb, hsw⟩ := hrel
    have hjb : j ≤ 4096 := Nat.le_trans hj HPM.out
    have hPb : P.length ≤ 4096 := HPM.out
    by_cases hlt : j < P.length
    · obtain ⟨A3, c3, hu3, hA3, hc3, hO3⟩ := hLf.out.row hlt
      have hrl : (rwAt P j).length ≤ 4 := by have := HRW.out j hlt; omega
      have hfy := Lib.hid (fun h => filter_yes (f := fun p => thereB L p) hlt h)
      have hfn := Lib.hid (fun h => filter_no (f := fun p => thereB L p) hlt h)
      have hfl := filter_take_le P (fun p => thereB L p) j
      have HPM2 := HPM.out
      have hth := l6There_any B A3 d c3 L (rwAt P j) wr (HB.out.below hb) hA3.1 hf (by omega)
      obtain ⟨b0, b1, b2⟩ := OrbK.row3 ho.out
      have HO3 := Lib.hid hO3
      rw [← hm2.out] at hfl
      have hm2l : m2 ≤ 4096 := by omega
      have HDT := Lib.hid (fun b (h1 : b ∈ U) => (hUb.out b h1).2.2 j (Nat.le_refl _))
      have HDJ := Lib.hid (fun q (h : j + 1 ≤ q) b (h1 : b ∈ T j) => hLf.out.dis j q (by omega) b h1)
      have HGJ := Lib.hid (hLf.out.hd j)
      have hgl := hLf.out.lt
      have HTJ := Lib.hid (HTB.out j)
      clear hA3 hu3 hO3 hfl HPM2
      generalize hFF : (P.take j).filter (fun p => thereB L p) = FF at hU hfy hfn hm2
      generalize hpp : rwAt P j = p at hrl hfy hfn hth hc3 HO3 ⊢
      clear hFF hpp
      by_cases hin : thereB L p = true
      · rw [hin] at hth
        have HNX := Lib.hid (hfy.out hin)
        clear hfy hfn hin
        go_wp2_with fail
        (with_reducible refine hth.mono ?_)
        rintro e w5 ⟨rfl, hb5⟩
        clear hth b0 b1 b2 hc3
        have o5 := (hb5.block (w1.heap.size) (OrbK.box_lt ho.out)).trans ho.out
        have r5 := (hb5.block w.heap.size (OrbK.box_lt hr.out)).trans hr.out
        have hbx : Below w5.heap.size w5 (w5.alloc (.cells #[.slice A3 p.length c3] 24)) := (Below.refl _ _).alloc (Nat.le_refl _) _
        have hb56 := hb5.trans (hbx.mono hb5.size)
        have hU6 := hU.out.keep hb56
        have hO6 := HO3.out.keep hb56
        have o6 := (hbx.block w1.heap.size (OrbK.box_lt o5)).trans o5
        have hcell : (w5.alloc (.cells #[.slice A3 p.length c3] 24)).cell? ⟨w5.heap.size, 0, none⟩ = some (.slice A3 p.length c3) := by simp
        have HC := Lib.hid (one_cell hcell)
        have HLF := Lib.hid (hLf.out.below hb56)
        have HK6 := Lib.hid (hK.out.keep hb56)
        have HR6 := Lib.hid ((hbx.block w.heap.size (OrbK.box_lt r5)).trans r5)
        have hbw6 := hb.trans (hb56.mono hb.size)
        have hs5 := hb5.size
        have hBxl := OrbK.box_lt ho.out
        have hdl : FF.length + 1 ≤ 16777216 := by rw [← hm2.out]; omega
        rw [hm2.out] at o5 o6 hU6
        obtain ⟨b0, b1, b2⟩ := OrbK.row3 o5
        clear hcell hbx ho hr hU hK hLf HO3 hb
        have HO6 := Lib.hid o6
        have HBW6 := Lib.hid hbw6
        have HO66 := Lib.hid hO6
        clear o5 r5 o6 hbw6 hb56 hb5 hO6
        go_wp2_with (at_builtin; refine wpList_append_rows rfl (.tmp 27) (.tmp 29) rfl _ U FF rfl hU6 ⟨w5.heap.size, 0, none⟩ _ p (T j) rfl HC.out HO66.out HDT.out hdl ?_)
        intro g2 cap2 U3 w7 hU7 hU3 hon
        have o7 := (hon.block w1.heap.size (OrbK.box_lt HO6.out) (fun h => by have := (hUb.out _ h).1; omega)).trans HO6.out
        have r7 := (hon.block w.heap.size (OrbK.box_lt HR6.out) (fun h => by have := (hUb.out _ h).1; omega)).trans HR6.out
        have hK7 := HK6.out.alike (w' := w7) fun b hbb => hon.block b (HK6.out.lt b hbb) (fun h => by have h1 := (hUb.out _ h).1; have h2 := HS1.out b hbb; omega)
        have hLf7 := HLF.out.next.only hon (fun h => (hUb.out _ h).2.1 rfl) (fun q hq _ b h1 h2 => (hUb.out b h2).2.2 q (by omega) h1)
        have hb7 := Only.below HBW6.out hon HBW6.out.size (fun b h => by have := (hUb.out _ h).1; omega)
        have hs7 : w5.heap.size + 1 ≤ w7.heap.size := by have := hon.size; rw [World.size_alloc] at this; exact this
        have hU3b : ∀ b ∈ U3, w1.heap.size + 1 ≤ b ∧ b ≠ g ∧ ∀ q, j + 1 ≤ q → b ∉ T q := fun b h => by
          rcases hU3 b h with h1 | h1 | h1
          · exact ⟨(hUb.out b h1).1, (hUb.out b h1).2.1, fun q hq => (hUb.out b h1).2.2 q (by omega)⟩
          · exact ⟨HTJ.out b h1, fun e => HGJ.out (e ▸ h1), fun q hq => HDJ.out q hq b h1⟩
          · (try rw [World.size_alloc] at h1)
            exact ⟨by omega, by omega, fun q _ hq => by have := HTL.out q b hq; omega⟩
        have o8 : (w7.setCell ⟨w1.heap.size, 2, none⟩ (.slice (some ⟨g2, 0, none⟩) (FF.length + 1) cap2)).heap[w1.heap.size]? = some (.cells #[.int .i64 (n : Int), .slice A1 cs.length c1, .slice (some ⟨g2, 0, none⟩) (FF.length + 1) cap2] 27 (0, 0)) := heap_setCell_same w7 w1.heap.size 2 _ _ (.slice (some ⟨g2, 0, none⟩) (FF.length + 1) cap2) o7
        have on8 : Only [w1.heap.size] w7 (w7.setCell ⟨w1.heap.size, 2, none⟩ (.slice (some ⟨g2, 0, none⟩) (FF.length + 1) cap2)) := (Only.refl _ _).set ⟨w1.heap.size, 2, none⟩ _ (by simp)
        have r8 := (on8.block w.heap.size (OrbK.box_lt r7) (by simp; omega)).trans r7
        have hU8 := hU7.alike (w' := w7.setCell ⟨w1.heap.size, 2, none⟩ (.slice (some ⟨g2, 0, none⟩) (FF.length + 1) cap2)) fun b hbb => on8.block b (hU7.lt b hbb) (by have := (hU3b b hbb).1; simp; omega)
        have hK8 := hK7.alike (w' := w7.setCell ⟨w1.heap.size, 2, none⟩ (.slice (some ⟨g2, 0, none⟩) (FF.length + 1) cap2)) fun b hbb => on8.block b (hK7.lt b hbb) (by have := HS1.out b hbb; simp; omega)
        have hLf8 := hLf7.only on8 (by simp; omega) (fun q _ _ b h1 => by have := HTB.out q b h1; simp; omega)
        have hb8 : Below w.heap.size w (w7.setCell ⟨w1.heap.size, 2, none⟩ (.slice (some ⟨g2, 0, none⟩) (FF.length + 1) cap2)) := hb7.setCell (p := ⟨w1.heap.size, 2, none⟩) (show w.heap.size ≤ w1.heap.size by omega) _
        have hs8 : w3.heap.size ≤ (w7.setCell ⟨w1.heap.size, 2, none⟩ (.slice (some ⟨g2, 0, none⟩) (FF.length + 1) cap2)).heap.size := by simp; omega
        obtain ⟨b0, b1, b2⟩ := OrbK.row3 o7
        have y2 := frozen_of_row _ _ 2 _ _ o7
        have hln : Hid (FF.length + 1 = ((P.take (j + 1)).filter fun p => thereB L p).length) := Lib.hid (by rw [HNX.out, List.length_append]; rfl)
        rw [← HNX.out] at hU8
        have O8 := Lib.hid o8
        have R8 := Lib.hid r8
        have U8 := Lib.hid hU8
        have K8 := Lib.hid hK8
        have L8 := Lib.hid hLf8
        have B3 := Lib.hid hU3b
        clear o7 r7 hU7 hU3 hK7 hLf7 hb7 o8 on8 r8 hU8 hK8 hLf8 hU3b hon HO6 HR6 HK6 HLF HBW6 HO66 HC hUb HNX hU6
        go_wp2
        refine ⟨⟨j + 1, U3, some ⟨g2, 0, none⟩, FF.length + 1, cap2, by omega, by go_num, hln, O8, R8, U8, K8, L8, B3, hb8, hs8⟩, ?_⟩
        simp only [intOf]
        omega
      · have hin' : thereB L p = false := by simpa using hin
        rw [hin'] at hth
        have HNX := Lib.hid (hfn.out hin')
        clear hfy hfn hin hin'
        go_wp2_with fail
        (with_reducible refine hth.mono ?_)
        rintro e w5 ⟨rfl, hb5⟩
        have o5 := Lib.hid ((hb5.block (w1.heap.size) (OrbK.box_lt ho.out)).trans ho.out)
        have r5 := Lib.hid ((hb5.block w.heap.size (OrbK.box_lt hr.out)).trans hr.out)
        have U5 := Lib.hid (hU.out.keep hb5)
        have K5 := Lib.hid (hK.out.keep hb5)
        have L5 := Lib.hid ((hLf.out.below hb5).next)
        have B5 : Hid (∀ b ∈ U, w1.heap.size + 1 ≤ b ∧ b ≠ g ∧ ∀ q, j + 1 ≤ q → b ∉ T q) := Lib.hid (fun b h1 => ⟨(hUb.out b h1).1, (hUb.out b h1).2.1, fun q hq => (hUb.out b h1).2.2 q (by omega)⟩)
        have hb7 := hb.trans (hb5.mono hb.size)
        have hs7 : w3.heap.size ≤ w5.heap.size := Nat.le_trans hsw hb5.size
        rw [← HNX.out] at U5 hm2
        clear hth b0 b1 b2 hc3 hb5 ho hr hU hK hLf hUb HNX HO3 hb hsw
        go_wp2
        refine ⟨⟨j + 1, U, A2, m2, c2, by omega, by go_num, hm2, o5, r5, U5, K5, L5, B5, hb7, hs7⟩, ?_⟩
        simp only [intOf]
        omega
    · have e : j = P.length := by omega
      subst e
      rw [List.take_length] at hU hm2
      have hUo := hU.out
      rw [hm2.out] at hUo
      have o5 := ho.out
      rw [hm2.out] at o5
      have r5 := hr.out
      have hKo := hK.out
      generalize P.filter (fun p => thereB L p) = R at hUo o5 HTH
      have hd : ∀ b ∈ S1, b ∉ U := fun b h1 h2 => by have h3 := HS1.out b h1; have h4 := (hUb.out b h2).1; omega
      have hL := orb_ownL (z := (n : Int)) hKo hUo hd
      have hLb : ∀ b ∈ S1 ++ (U ++ []), w.heap.size < b := fun b hb => by
        rw [List.append_nil] at hb
        rcases List.mem_append.1 hb with h | h
        · have := HS1b.out b h; omega
        · have := (hUb.out b h).1; omega
      have onF : Only [w.heap.size] wr (((wr.setCell ⟨w.heap.size, 0, none⟩ (.int .i64 (n : Int))).setCell ⟨w.heap.size, 1, none⟩ (.slice A1 cs.length c1)).setCell ⟨w.heap.size, 2, none⟩ (.slice A2 R.length c2)) := (((Only.refl _ _).set ⟨w.heap.size, 0, none⟩ _ (by simp)).set ⟨w.heap.size, 1, none⟩ _ (by simp)).set ⟨w.heap.size, 2, none⟩ _ (by simp)
      have hbF : Below w.heap.size w (((wr.setCell ⟨w.heap.size, 0, none⟩ (.int .i64 (n : Int))).setCell ⟨w.heap.size, 1, none⟩ (.slice A1 cs.length c1)).setCell ⟨w.heap.size, 2, none⟩ (.slice A2 R.length c2)) := ((hb.setCell (p := ⟨w.heap.size, 0, none⟩) (Nat.le_refl _) _).setCell (p := ⟨w.heap.size, 1, none⟩) (Nat.le_refl _) _).setCell (p := ⟨w.heap.size, 2, none⟩) (Nat.le_refl _) _
      have hLF := hL.alike (w' := (((wr.setCell ⟨w.heap.size, 0, none⟩ (.int .i64 (n : Int))).setCell ⟨w.heap.size, 1, none⟩ (.slice A1 cs.length c1)).setCell ⟨w.heap.size, 2, none⟩ (.slice A2 R.length c2))) fun bb hbb => onF.block bb (hL.lt bb hbb) (by have := hLb bb hbb; simp; omega)
      have hpost : OrbOut n cs (thoseL n cs.length L) w (.returned (.agg #[.int .i64 (n : Int), .slice A1 cs.length c1, .slice A2 R.length c2])) (((wr.setCell ⟨w.heap.size, 0, none⟩ (.int .i64 (n : Int))).setCell ⟨w.heap.size, 1, none⟩ (.slice A1 cs.length c1)).setCell ⟨w.heap.size, 2, none⟩ (.slice A2 R.length c2)) :=
        by rw [HTH.out]; exact ⟨A1, c1, A2, c2, _, rfl, hLF, fun b hb => by have := hLb b hb; omega, hbF⟩
      obtain ⟨x0, x1, x2⟩ := OrbK.row3 o5
      obtain ⟨s0, s1, s2⟩ := OrbK.row3 r5
      have z0 := frozen_of_row _ _ 0 _ _ r5
      have z1 := frozen_of_row _ _ 1 _ _ r5
      have z2 := frozen_of_row _ _ 2 _ _ r5
      clear hLF hL hLb hd hbF onF o5 r5 hUo hKo ho hr hU hK hLf hUb hb hm2
      go_wp2
      exact bodyPost_ret (v := .agg #[.int .i64 (n : Int), .slice A1 cs.length c1, .slice A2 R.length c2]) (by simp [results, Tryz.results72, go_sem, s0, s1, s2]) rfl hpost
end Go.Proofs.YtnamlgacjhnpnaaGreat
end

section
namespace Go.Proofs.YtnamlgacjhnpnaaGreat
open Go.RowKit Go.Sort
set_option linter.unusedVariables false

def ownF (o b : Int) : List Int := if o = 2 then [b] else []
mutual
def rawFm : Fm → List Int
  | .mk o _ b ks => ownF o b ++ rawFms ks
def rawFms : List Fm → List Int
  | [] => []
  | t :: r => insAll [] (rawFm t) ++ rawFms r
end
theorem rawFm_eq (t : Fm) : rawFm t = ownF t.op t.fb ++ rawFms t.kids := by cases t; simp [rawFm, Fm.op, Fm.fb, Fm.kids]
theorem insL_len : ∀ (l : List Int) (n : Int), (insL l n).length ≤ l.length + 1
  | [], n => by simp [insL]
  | x :: r, n => by
    unfold insL
    split
    · simp
    · split
      · simp
      · have := insL_len r n; simp; omega
theorem insAll_len (acc xs : List Int) : (insAll acc xs).length ≤ acc.length + xs.length := by
  unfold insAll
  induction xs generalizing acc with
  | nil => simp
  | cons x r ih => rw [List.foldl_cons]; have h1 := ih (insL acc x); have h2 := insL_len acc x; simp; omega
theorem ownF_len (o b : Int) : (ownF o b).length ≤ 1 := by unfold ownF; split <;> simp
mutual
theorem rawFm_len : ∀ t : Fm, (rawFm t).length ≤ szFm t
  | .mk o a b ks => by
    have h1 := rawFms_len ks
    have h2 := ownF_len o b
    rw [rawFm_eq, szFm, List.length_append]
    simp only [Fm.op, Fm.fb, Fm.kids]
    omega
theorem rawFms_len : ∀ ts : List Fm, (rawFms ts).length ≤ szFms ts
  | [] => by simp [rawFms]
  | t :: r => by
    have h1 := rawFm_len t
    have h2 := rawFms_len r
    have h3 := insAll_len [] (rawFm t)
    rw [rawFms, szFms, List.length_append]
    simp at h3
    omega
end
mutual
theorem szFm_cnt : ∀ t : Fm, szFm t = 1 + cntFm t
  | .mk o a b ks => by
    have := szFms_cnt ks
    rw [szFm, cntFm]; omega
theorem szFms_cnt : ∀ ts : List Fm, szFms ts = ts.length + sumFm ts
  | [] => by simp [szFms, sumFm]
  | t :: r => by
    have h1 := szFm_cnt t
    have h2 := szFms_cnt r
    rw [szFms, sumFm, List.length_cons]; omega
end

/-- A copy of numbers that are there, or of nil: in a block of its own. -/
theorem l1Copy_some (A : Option Addr) (c : Nat) (l : List Int) (w : World) (hA : IntsAt w A l) (hz : A = none → c = 0) (hl : l.length ≤ 1099511627776) :
    Calls Tryz.prog 95 #[.slice A l.length c] w (InsPost w.heap.size l w) := by
  have hb : Below w.heap.size w (w.alloc (.cells #[] 3)) := (Below.refl _ _).alloc (Nat.le_refl _) _
  have ho : (w.alloc (.cells #[] 3)).ownsRow w.heap.size 3 1 (.slice (some ⟨w.heap.size, 0, none⟩) 0 0) 0 [] := World.ownsRow_lit w #[] 0 (Nat.le_refl _) (by decide) rfl
  have hA2 := hA.below hb
  cases A with
  | none =>
    have e : l = [] := by
      rcases Nat.eq_zero_or_pos l.length with h0 | h0
      · exact List.eq_nil_of_length_eq_zero h0
      · obtain ⟨b, o, e, _⟩ := hA h0; cases e
    subst e
    have hc := hz rfl
    subst hc
    obtain ⟨i0, hi0, hz0, hz1, hz2⟩ := info_parts int_infoM
    have hpost : InsPost w.heap.size [] w (.returned (.slice (some ⟨w.heap.size, 0, none⟩) 0 0)) (w.alloc (.cells #[] 3)) := ⟨_, _, rfl, ho, hb⟩
    clear hA hA2 hz
    go_enter Tryz.func95, Tryz.ntmps95
    go_wp2_with (at_builtin; refine wpList_append_own_none rfl (.tmp 3) (.tmp 4) 24 rfl w.heap.size 3 i0 1 Tryz.underlying24 hi0 _ 0 [] rfl ho rfl ?_)
    go_wp2
    go_ret
    exact hpost
  | some a =>
    obtain ⟨i0, hi0, hz0, hz1, hz2⟩ := info_parts int_infoM
    have HS := Lib.hid hz2
    have HN := Lib.hid (ints_news hA2)
    have HL := Lib.hid (icells_len l)
    clear hA hA2 hz hz2
    go_enter Tryz.func95, Tryz.ntmps95
    go_wp2_with (at_builtin; refine wpList_append_own _ rfl (.tmp 3) (.tmp 4) 24 rfl w.heap.size 3 i0 (.int .i64 0) 1 8 Tryz.underlying24 hi0 hz0 hz1 HS.out rfl (by decide) _ 0 [] rfl ho a l.length c (icells l) rfl (by rw [HL.out, Nat.mul_one]) HN.out (icells_one l) ?c3 ?c4 ?c5 ?_)
    case c3 => unfold maxLen; omega
    case c4 => omega
    case c5 => simp
    intro v2 w2 ho3 hg hnn
    have hb4 : Below w.heap.size w w2 := below_own hb ho (Nat.le_refl _) (by simp) hg
    have ho4 : w2.ownsRow w.heap.size 3 1 v2 l.length (icells l) := by simpa using ho3
    obtain ⟨g, cap, rfl⟩ : ∃ g cap, v2 = .slice (some ⟨g, 0, none⟩) l.length cap := by
      rcases ho4.2 with ⟨e, _⟩ | ⟨g, cap, cur, e, _⟩
      · exact absurd e (by simpa using hnn)
      · exact ⟨g, cap, e⟩
    have hpost : InsPost w.heap.size l w (.returned (.slice (some ⟨g, 0, none⟩) l.length cap)) w2 := ⟨g, cap, rfl, ho4, hb4⟩
    clear ho hg hb HN HL ho3 ho4 hb4 hnn
    go_wp2
    go_ret
    exact hpost

theorem insCap {w : World} {base n g cap : Nat} {e : TypeId} {size m : Nat} {xs : List Value} (h : w.ownsRow base e size (.slice (some ⟨g, 0, none⟩) n cap) m xs) : n ≤ cap := by
  rcases h.2 with ⟨e, _⟩ | ⟨g', cap', cur, e, _, _, hn, _⟩
  · cases e
  · injection e with _ e2 e3
    omega

theorem ints_own {w : World} {base g cap : Nat} {L : List Int} (h : w.ownsRow base 3 1 (.slice (some ⟨g, 0, none⟩) L.length cap) L.length (icells L)) : IntsAt w (some ⟨g, 0, none⟩) L := by
  obtain ⟨A, c, e, hh⟩ := own_intsAt h
  simp only [Value.slice.injEq] at e
  rw [e.1]
  exact hh

end Go.Proofs.YtnamlgacjhnpnaaGreat
end

section
namespace Go.Proofs.YtnamlgacjhnpnaaGreat
open Go.RowKit Go.Sort
set_option linter.unusedVariables false

/-- The place, from the back, in front of which all numbers are greater. -/
def cutB (l : List Int) (a : Int) : Nat → Nat
  | 0 => 0
  | k + 1 => if a < itAt l k then cutB l a k else k + 1
def insB (l : List Int) (a : Int) : List Int := if a ∈ l then l else l.take (cutB l a l.length) ++ a :: l.drop (cutB l a l.length)
def unB (acc xs : List Int) : List Int := xs.foldl insB acc
theorem cutB_at {l : List Int} {a : Int} {k : Nat} (h2 : k = 0 ∨ itAt l (k - 1) ≤ a) : ∀ n, k ≤ n → (∀ j, k ≤ j → j < n → a < itAt l j) → cutB l a n = k
  | 0, hk, _ => by have : k = 0 := by omega
                   rw [this]; rfl
  | n + 1, hk, h => by
    unfold cutB
    by_cases e : k = n + 1
    · subst e
      rcases h2 with h2 | h2
      · omega
      · rw [if_neg (by rw [Nat.add_sub_cancel] at h2; omega)]
    · rw [if_pos (h n (by omega) (by omega))]
      exact cutB_at h2 n (by omega) fun j h3 h4 => h j h3 (by omega)
theorem insB_in (l : List Int) (a : Int) : a ∈ l → insB l a = l := fun h => if_pos h
theorem insB_at (l : List Int) (a : Int) : ∀ k, k ≤ l.length → (∀ j, k ≤ j → j < l.length → a < itAt l j) → (k = 0 ∨ itAt l (k - 1) ≤ a) → a ∉ l → l.take k ++ a :: l.drop k = insB l a := fun k hk h1 h2 h3 => by
  unfold insB
  rw [if_neg h3, cutB_at h2 l.length hk h1]
theorem insB_len (l : List Int) (a : Int) : (insB l a).length ≤ l.length + 1 := by
  unfold insB
  split
  · omega
  · simp; omega
theorem unB_len (acc xs : List Int) : (unB acc xs).length ≤ acc.length + xs.length := by
  unfold unB
  induction xs generalizing acc with
  | nil => simp
  | cons x r ih => rw [List.foldl_cons]; have h1 := ih (insB acc x); have h2 := insB_len acc x; simp; omega
theorem unB_next {xs : List Int} {k : Nat} (acc : List Int) (h : k < xs.length) : unB acc (xs.take (k + 1)) = insB (unB acc (xs.take k)) (itAt xs k) := by
  rw [itake_next h]
  unfold unB
  rw [List.foldl_append]
  rfl
/-- At a list in order it is the list in order. -/
theorem cutB_le (l : List Int) (a : Int) : ∀ n, cutB l a n ≤ n ∧ (∀ j, cutB l a n ≤ j → j < n → a < itAt l j) ∧ (cutB l a n = 0 ∨ itAt l (cutB l a n - 1) ≤ a)
  | 0 => ⟨Nat.le_refl _, fun j _ h => by omega, .inl rfl⟩
  | n + 1 => by
    obtain ⟨h1, h2, h3⟩ := cutB_le l a n
    by_cases e : a < itAt l n
    · have ee : cutB l a (n + 1) = cutB l a n := by rw [cutB, if_pos e]
      rw [ee]
      refine ⟨by omega, fun j h4 h5 => ?_, h3⟩
      by_cases hj : j = n
      · rw [hj]; exact e
      · exact h2 j h4 (by omega)
    · have ee : cutB l a (n + 1) = n + 1 := by rw [cutB, if_neg e]
      rw [ee]
      exact ⟨Nat.le_refl _, fun j h4 h5 => by omega, .inr (by rw [Nat.add_sub_cancel]; omega)⟩
theorem insB_asc {l : List Int} (h : AscP l) (a : Int) : insB l a = insL l a := by
  by_cases hm : a ∈ l
  · rw [insB_in l a hm, insL_there l a h hm]
  · obtain ⟨h1, h2, h3⟩ := cutB_le l a l.length
    rw [← insB_at l a _ h1 h2 h3 hm]
    exact ins_eq l _ a h h1 h2 h3 hm
theorem unB_asc : ∀ (xs acc : List Int), AscP acc → unB acc xs = insAll acc xs
  | [], acc, _ => rfl
  | x :: r, acc, h => by
    show unB (insB acc x) r = insAll (insL acc x) r
    rw [insB_asc h]
    exact unB_asc r _ (asc_insL acc x h)

set_option maxRecDepth 100000 in
set_option maxHeartbeats 2000000 in
theorem l6Union_all (A B : Option Addr) (c d : Nat) (a b : List Int) (w : World) (hA : IntsAt w A a) (hz : A = none → c = 0) (hB : IntsAt w B b) (hla : a.length ≤ 4194304) (hlb : b.length ≤ 4194304) :
    Calls Tryz.prog 91 #[.slice A a.length c, .slice B b.length d] w (InsPost w.heap.size (unB a b) w) := by
  have hcp := l1Copy_some A c a w hA hz (by omega)
  clear hA hz
  go_enter Tryz.func91, Tryz.ntmps91
  go_wp2_with (go_at_call 95; refine hcp.mono ?_; rintro e w1 ⟨g1, cap1, rfl, ho1, hb1⟩)
  clear hcp
  go_loopw [5, 7, 12] (fun v5 _ i wr => ∃ (k g cap : Nat), k ≤ b.length ∧ i = .int .i64 k ∧ v5 = .slice (some ⟨g, 0, none⟩) (unB a (b.take k)).length cap ∧ wr.ownsRow w.heap.size 3 1 v5 (unB a (b.take k)).length (icells (unB a (b.take k))) ∧ Below w.heap.size w wr) (fun _ _ i _ => b.length - (intOf i).toNat)
  case atStart => exact ⟨0, g1, cap1, Nat.zero_le _, rfl, rfl, ho1, hb1⟩
  case round =>
    clear ho1 hb1
    obtain ⟨k, g, cap, hk, rfl, rfl, ho, hb⟩ := hrel
    by_cases hlt : k < b.length
    · obtain ⟨b1, o1, rfl, hb1, hc1⟩ := hB (by omega)
      have c1 := hc1 k hlt
      rw [← hb.cell (p := ⟨b1, _, none⟩) hb1] at c1
      have hln := unB_len a (b.take k)
      rw [List.length_take] at hln
      have hln2 : (unB a (b.take k)).length ≤ 8388608 := by omega
      have hins := l1Insert_all w.heap.size g cap (unB a (b.take k)) (itAt b k) wr ho (insCap ho) (by omega) _ (insB_in _ _) (insB_at _ _)
      have hnx := Lib.hid (unB_next a hlt)
      rw [← hnx.out] at hins
      clear hnx
      generalize hL2 : unB a (b.take (k + 1)) = L2 at hins
      have HL2 := Lib.hid hL2
      clear hL2
      generalize unB a (b.take k) = L1 at *
      generalize itAt b k = y at c1 hins
      have hs0 := hb.size
      clear hc1 hln
      go_wp2_with fail
      refine hins.mono ?_
      rintro e w2 ⟨g2, cap2, rfl, ho2, hb2⟩
      have hb3 := hb.trans (hb2.mono hb.size)
      clear hins ho hb hb2 c1
      go_wp2
      refine ⟨⟨k + 1, g2, cap2, by omega, by go_num, by rw [HL2.out], by rw [HL2.out]; exact ho2, hb3⟩, ?_⟩
      simp only [intOf]
      omega
    · have e : k = b.length := by omega
      subst e
      rw [List.take_length] at ho ⊢
      have hpost : InsPost w.heap.size (unB a b) w (.returned (.slice (some ⟨g, 0, none⟩) (unB a b).length cap)) wr := ⟨g, cap, rfl, ho, hb⟩
      clear ho hb hB
      go_wp2
      go_ret
      exact hpost
end Go.Proofs.YtnamlgacjhnpnaaGreat
end

section
namespace Go.Proofs.YtnamlgacjhnpnaaGreat
open Go.RowKit Go.Sort
set_option linter.unusedVariables false

set_option maxRecDepth 100000 in
set_option maxHeartbeats 2000000 in
theorem takenAt_any (A B : Option Addr) (c d : Nat) (V p : List Int) (w : World) (hA : IntsAt w A V) (hB : IntsAt w B p) (hlv : V.length ≤ 1048576) (hlp : p.length ≤ 1048576) (hin : ∀ i, i < p.length → 0 ≤ itAt p i ∧ (itAt p i).toNat < V.length) :
    Calls Tryz.prog 104 #[.slice A V.length c, .slice B p.length d] w (NewInts (exL V p) w) := by
  obtain ⟨i0, hi0, hz0, hz1, hz2⟩ := info_parts int_infoM
  have HS := Lib.hid hz2
  clear hz2
  go_enter Tryz.func104, Tryz.ntmps104
  go_wp2
  go_loopw [5, 7, 11] (fun v _ i wr => ∃ k : Nat, k ≤ p.length ∧ i = .int .i64 k ∧ wr.ownsRow w.heap.size 3 1 v k (icells (exL V (p.take k))) ∧ Below w.heap.size w wr) (fun _ _ i _ => p.length - (intOf i).toNat)
  case atStart => exact ⟨0, Nat.zero_le _, rfl, World.ownsRow_lit w #[] 0 (Nat.le_refl _) (by decide) rfl, (Below.refl _ _).alloc (Nat.le_refl _) _⟩
  case round =>
    obtain ⟨k, hk, rfl, ho, hb⟩ := hrel
    by_cases hlt : k < p.length
    · obtain ⟨h0, h1⟩ := hin k hlt
      obtain ⟨b1, o1, rfl, hb1, hc1⟩ := hB (by omega)
      obtain ⟨b2, o2, rfl, hb2, hc2⟩ := hA (by omega)
      have c1 := hc1 k hlt
      rw [← hb.cell (p := ⟨b1, _, none⟩) hb1] at c1
      have hnext := Lib.hid (exL_next (V := V) hlt)
      obtain ⟨n, hn⟩ : ∃ n : Nat, itAt p k = n := ⟨(itAt p k).toNat, by omega⟩
      rw [hn] at c1 h1 hnext
      rw [Int.toNat_natCast] at h1 hnext
      have c2 := hc2 n h1
      rw [← hb.cell (p := ⟨b2, _, none⟩) hb2] at c2
      have hni : (n : Int) < (V.length : Int) := by omega
      have hn0 : (0 : Int) ≤ (n : Int) := by omega
      clear hc1 hc2 hA hB hin hn h0 h1
      generalize itAt V n = a at c2 hnext
      have ho1 := ho.alloc (.cells #[.int .i64 a] 3)
      have hb3 := hb.alloc hb.size (.cells #[.int .i64 a] 3)
      have hsz : w.heap.size ≤ wr.heap.size := hb.size
      have hcell : (wr.alloc (.cells #[.int .i64 a] 3)).cell? ⟨wr.heap.size, 0, none⟩ = some (.int .i64 a) := by simp
      have HC := Lib.hid (one_cell hcell)
      clear hcell ho hb
      go_wp2_with (at_builtin; refine wpList_append_own _ rfl (.tmp 15) (.tmp 20) 24 rfl w.heap.size 3 i0 (.int .i64 0) 1 8 Tryz.underlying24 hi0 hz0 hz1 HS.out rfl (by decide) _ k _ rfl ho1 ⟨wr.heap.size, 0, none⟩ 1 1 [.int .i64 a] rfl rfl HC.out (int_one _) ?c3 ?c4 ?c5 ?_)
      case c3 => unfold maxLen; omega
      case c4 => omega
      case c5 => simp; omega
      intro v2 w2 ho3 hg _
      have ho4 : w2.ownsRow w.heap.size 3 1 v2 (k + 1) (icells (exL V (p.take (k + 1)))) := by
        rw [hnext.out, icells_append]
        exact ho3
      have hb4 : Below w.heap.size w w2 := below_own hb3 ho1 (Nat.le_refl _) (by simp; omega) hg
      clear ho3 hg ho1 hb3 hnext HC c1 c2
      go_wp2
      refine ⟨⟨k + 1, by omega, by go_num, ho4, hb4⟩, ?_⟩
      simp only [intOf]
      omega
    · have e : k = p.length := by omega
      subst e
      rw [List.take_length] at ho
      have e := Lib.hid (exL_len V p)
      have hpost : NewInts (exL V p) w (.returned u5) wr := ⟨_, rfl, by rw [e.out]; exact ho, hb⟩
      clear ho hb hA hB hin
      go_wp2
      go_ret
      exact hpost

set_option maxRecDepth 100000 in
set_option maxHeartbeats 4000000 in
theorem examplesFor_any (A B : Option Addr) (c d : Nat) (cs : List Int) (m : List (List Int)) (w : World) (hA : IntsAt w A cs) (hB : RowsIn w (.slice B m.length d) m) (hlc : cs.length ≤ 1000) (hlm : m.length ≤ 2097152) (hrm : ∀ i, i < m.length → isPatB cs.length (rwAt m i) = true ∧ (rwAt m i).length ≤ 4) :
    Calls Tryz.prog 63 #[.slice A cs.length c, .slice B m.length d] w (RowsOut (exsL cs m) w) := by
  obtain ⟨i0, hi0, hz0, hz1, hz2⟩ := info_parts int_infoM
  have HS := Lib.hid hz2
  clear hz2
  have hcl := clone_any A c cs w hA (by omega)
  have HRM := Lib.hid hrm
  clear hA hrm
  go_enter Tryz.func63, Tryz.ntmps63
  go_wp2_with (go_at_call 85; refine hcl.mono ?_; rintro e w1 ⟨v1, rfl, ho1, hb1⟩)
  clear hcl
  go_loopw [5, 11] (fun v5 i wr => ∃ k : Nat, k ≤ 4 ∧ i = .int .i64 k ∧ wr.ownsRow w.heap.size 3 1 v5 (numL cs k).length (icells (numL cs k)) ∧ Below w.heap.size w wr) (fun _ i _ => 4 - (intOf i).toNat)
  case atStart => exact ⟨0, by omega, rfl, ho1, hb1⟩
  case round =>
    clear ho1 hb1
    obtain ⟨k, hk, rfl, ho, hb⟩ := hrel
    by_cases hlt : k < 4
    · obtain ⟨A5, c5, rfl, hA5⟩ := own_intsAt ho
      have hnl := numL_len cs k
      have hnl2 : (numL cs k).length ≤ 1004 := by omega
      have hle := least_impl A5 c5 (numL cs k) wr hA5 (by omega)
      have hnx : Hid (numL cs (k + 1) = numL cs k ++ [leastF (numL cs k)]) := Lib.hid rfl
      have hln : Hid ((numL cs (k + 1)).length = (numL cs k).length + 1) := Lib.hid (by rw [numL_len, numL_len]; omega)
      generalize leastF (numL cs k) = a at hle hnx
      generalize numL cs k = V at *
      have hs0 := hb.size
      have hk4 : (k : Int) < 4 := by omega
      clear hA5 hnl
      go_wp2_with fail
      refine hle.mono ?_
      rintro e w2 ⟨rfl, hb2⟩
      have ho2 := own_below ho hb2
      have hb3 := hb.trans (hb2.mono hb.size)
      have ho3 := ho2.alloc (.cells #[.int .i64 a] 3)
      have hb4 := hb3.alloc hb3.size (.cells #[.int .i64 a] 3)
      have hsz := hb4.size
      have hcell : (w2.alloc (.cells #[.int .i64 a] 3)).cell? ⟨w2.heap.size, 0, none⟩ = some (.int .i64 a) := by simp
      have HC := Lib.hid (one_cell hcell)
      clear hcell ho hb ho2 hb2 hb3 hle
      go_wp2_with (at_builtin; refine wpList_append_own _ rfl (.tmp 13) (.tmp 16) 24 rfl w.heap.size 3 i0 (.int .i64 0) 1 8 Tryz.underlying24 hi0 hz0 hz1 HS.out rfl (by decide) _ V.length _ rfl ho3 ⟨w2.heap.size, 0, none⟩ 1 1 [.int .i64 a] rfl rfl HC.out (int_one _) ?c3 ?c4 ?c5 ?_)
      case c3 => unfold maxLen; omega
      case c4 => omega
      case c5 => exact hsz
      intro v5 w5 ho5 hg _
      have ho6 : w5.ownsRow w.heap.size 3 1 v5 (numL cs (k + 1)).length (icells (numL cs (k + 1))) := by
        rw [hln.out, hnx.out, icells_append]
        exact ho5
      have hb6 : Below w.heap.size w w5 := below_own hb4 ho3 (Nat.le_refl _) hsz hg
      clear ho5 hg ho3 hb4 hsz hnx hln HC
      go_wp2
      refine ⟨⟨k + 1, by omega, by go_num, ho6, hb6⟩, ?_⟩
      simp only [intOf]
      omega
    · have e : k = 4 := by omega
      subst e
      rw [show ((4 : Nat) : Int) = 4 from rfl]
      have hnl := numL_len cs 4
      have hnl2 : (numL cs 4).length ≤ 1004 := by omega
      have HTK := Lib.hid (fun i (hi : i < m.length) => pat_places (HRM.out i hi).1 (V := numL cs 4) (by have := (HRM.out i hi).2; omega))
      have HNX := Lib.hid (fun i (hi : i < m.length) => exsL_next (l := cs) hi)
      have HEL := Lib.hid (exsL_len cs)
      have hex0 : exsL cs [] = [] := rfl
      obtain ⟨A5, c5, rfl, _⟩ := own_intsAt ho
      generalize numL cs 4 = V at *
      generalize exsL cs = E at *
      have hbx : Below wr.heap.size wr (wr.alloc (.cells #[] 24)) := (Below.refl _ _).alloc (Nat.le_refl _) _
      have hoR := own_lit0 wr
      have ho2 := own_below ho hbx
      have hb2 := hb.trans (hbx.mono hb.size)
      have hst : ∀ b ∈ [wr.heap.size], w.heap.size ≤ b ∧ (Value.slice A5 V.length c5).ownBlock ≠ some b := fun b h => by
        simp at h
        subst h
        exact ⟨hb.size, fun e => by have := (ho.lt _ e).2; omega⟩
      clear ho hb hbx hnl
      go_wp2
      go_loopw [6, 8, 22] (fun v6 _ i wr => ∃ (j : Nat) (U : List Nat), j ≤ m.length ∧ i = .int .i64 j ∧ Own wr U v6 (rowsMem (E (m.take j))) ∧ wr.ownsRow w.heap.size 3 1 (.slice A5 V.length c5) V.length (icells V) ∧ (∀ b ∈ U, w.heap.size ≤ b ∧ (Value.slice A5 V.length c5).ownBlock ≠ some b) ∧ Below w.heap.size w wr) (fun _ _ i _ => m.length - (intOf i).toNat)
      case atStart => exact ⟨0, _, Nat.zero_le _, rfl, by rw [List.take_zero, hex0]; exact hoR, ho2, hst, hb2⟩
      case round =>
        clear hoR ho2 hb2 hst
        obtain ⟨j, U, hj, rfl, hoU, ho, hUT, hb⟩ := hrel
        by_cases hlt : j < m.length
        · obtain ⟨b1, o1, rfl, hb1, hc1⟩ := (hB.below hb).get (by omega)
          obtain ⟨A1, c1, d1, hA1⟩ := hc1 j hlt
          have hAV : IntsAt wr A5 V := by
            obtain ⟨A', c', e, h⟩ := own_intsAt ho
            simp only [Value.slice.injEq] at e
            rw [e.1]; exact h
          have hta := takenAt_any A5 A1 c5 c1 V (rwAt m j) wr hAV hA1 (by omega) (by have := (HRM.out j hlt).2; omega) (HTK.out j hlt)
          have hnx := Lib.hid (HNX.out j hlt)
          have hel : Hid ((E (m.take j)).length = j) := Lib.hid (by rw [HEL.out, List.length_take]; omega)
          have hpl : (rwAt m j).length ≤ 4 := (HRM.out j hlt).2
          generalize exL V (rwAt m j) = X at hta hnx
          generalize (rwAt m j).length = pl at *
          have hs0 := hb.size
          clear hc1 hA1 hAV
          go_wp2_with fail
          refine hta.mono ?_
          rintro e w2 ⟨v2, rfl, ho2, hb2⟩
          obtain ⟨R, hR, hRb, hRe⟩ := own_intRow ho2
          obtain ⟨A9, c9, rfl, _⟩ := own_intSlice hR
          clear hRe
          have hbx : Below w2.heap.size w2 (w2.alloc (.cells #[.slice A9 X.length c9] 24)) := (Below.refl _ _).alloc (Nat.le_refl _) _
          have hb3 := hb2.trans (hbx.mono hb2.size)
          have hR3 := hR.keep hbx
          have hU3 := hoU.keep hb3
          have ho3 := own_below ho hb3
          have hbw3 := hb.trans (hb3.mono hb.size)
          have hs3 := hbw3.size
          have hcell : (w2.alloc (.cells #[.slice A9 X.length c9] 24)).cell? ⟨w2.heap.size, 0, none⟩ = some (.slice A9 X.length c9) := by simp
          have HC := Lib.hid (one_cell hcell)
          have hUl : ∀ b ∈ U, b < wr.heap.size := fun b h => hoU.lt b h
          have hvl : ∀ k, (Value.slice A5 V.length c5).ownBlock = some k → k < wr.heap.size := fun k e => (ho.lt k e).2
          have hdis : ∀ b ∈ U, b ∉ R := fun b h1 h2 => by have := hUl b h1; have := hRb b h2; omega
          have hdl : (E (m.take j)).length + 1 ≤ 16777216 := by rw [hel.out]; omega
          have hs2 := hb2.size
          clear hcell hbx hR ho2 hoU ho hb hb2 hb3 hta
          generalize X.length = xl at *
          go_wp2_with (at_builtin; refine wpList_append_rows rfl (.tmp 26) (.tmp 30) rfl _ U _ rfl hU3 ⟨w2.heap.size, 0, none⟩ _ _ R rfl HC.out hR3 hdis hdl ?_)
          intro g2 cap2 U3 w10 hU10 hUU hon
          have ho10 := own_only ho3 hon (fun k e h => (hUT k h).2 e)
          have hb10 := Only.below hbw3 hon hs3 (fun b h => (hUT b h).1)
          have hUT3 : ∀ b ∈ U3, w.heap.size ≤ b ∧ (Value.slice A5 V.length c5).ownBlock ≠ some b := fun b h => by
            rcases hUU b h with h1 | h1 | h1
            · exact hUT b h1
            · have h2 := hRb b h1
              exact ⟨by omega, fun e => by have := hvl b e; omega⟩
            · have h1' : b = w2.heap.size + 1 := by simpa using h1
              exact ⟨by omega, fun e => by have := hvl b e; omega⟩
          rw [← hnx.out] at hU10
          clear hU3 ho3 hbw3 hon hUU hUT hRb hR3 hdis HC hnx hUl hvl
          go_wp2
          refine ⟨⟨j + 1, U3, by omega, by go_num, hU10, ho10, hUT3, hb10⟩, ?_⟩
          simp only [intOf]
          omega
        · have e : j = m.length := by omega
          subst e
          rw [List.take_length] at hoU
          have hpost : RowsOut (E m) w (.returned u6) wr := ⟨_, U, rfl, hoU, fun b h => (hUT b h).1, hb⟩
          clear hoU ho hUT hb
          go_wp2
          go_ret
          exact hpost

theorem rowsOut_empty {w w1 : World} (hb : Below w.heap.size w w1) : RowsOut [] w (.returned (.slice (some ⟨w1.heap.size, 0, none⟩) 0 0)) (w1.alloc (.cells #[] 24)) :=
  ⟨_, _, rfl, own_lit0 w1, fun b h => by simp at h; subst h; exact hb.size, hb.alloc hb.size _⟩
theorem rowsOut_later {ls : List (List Int)} {w w1 w2 : World} {v : Value} {S : List Nat} (h : Own w2 S v (rowsMem ls)) (hS : ∀ b ∈ S, w1.heap.size ≤ b) (hb2 : Below w1.heap.size w1 w2) (hb : Below w.heap.size w w1) : RowsOut ls w (.returned v) w2 :=
  ⟨v, S, rfl, h, fun b hbb => Nat.le_trans hb.size (hS b hbb), hb.trans (hb2.mono hb.size)⟩

set_option maxRecDepth 100000 in
set_option maxHeartbeats 4000000 in
theorem examplesOf_impl (z : Int) (l : List Int) (m : List (List Int)) (hf : FitO l m) (x : Value) (w : World) (hx : OrbIx w x z l m) :
    Calls Tryz.prog 34 #[x] w (RowsOut (exsR z l m) w) := by
  have hX := hx
  obtain ⟨A, c, B, d, rfl, hl, hmr, hm⟩ := hx
  have hb0 : Below w.heap.size w (w.alloc (.cells #[.int .i64 z, .slice A l.length c, .slice B m.length d] 27)) := (Below.refl _ _).alloc (Nat.le_refl _) _
  have k0 := heap_alloc_new w (.cells #[.int .i64 z, .slice A l.length c, .slice B m.length d] 27)
  obtain ⟨m0, m1, m2⟩ := OrbK.row3 k0
  have hio := isOrbitSet_impl z l m hf _ _ (hX.below hb0)
  have HB0 := Lib.hid hb0
  have HK0 := Lib.hid k0
  cases ho : orbB z l m with
  | false =>
    rw [ho] at hio
    rw [exsR_no ho]
    clear hl hmr hm k0 hX
    go_enter Tryz.func34, Tryz.ntmps34
    go_wp2_with (go_at_call 12; refine hio.mono ?_; rintro e w2 ⟨rfl, hb2⟩; have hb3 := HB0.out.trans (hb2.mono HB0.out.size))
    have hpost := rowsOut_empty hb3
    clear hio hb2 m0 m1 m2 hb0 hb3
    go_ret
    exact hpost
  | true =>
    rw [ho] at hio
    rw [exsR_yes ho]
    obtain ⟨hwz, hro⟩ := orb_rows ho
    have hz4 := widB_iff.1 hwz
    have hk3 := const_len (orb_const ho)
    have hef := fun W (h : Below w.heap.size w W) => examplesFor_any A B c d l m W (hl.1.below h) (hmr.below h) (by omega) hf.2.1 (fun i hi => ⟨(rowsOk_at hro hi).2, by have := (rowsOk_at hro hi).1; omega⟩)
    clear hl hmr hm k0 hX ho hro hwz
    generalize exsL l m = E at *
    go_enter Tryz.func34, Tryz.ntmps34
    go_wp2_with (first
      | (go_at_call 12; refine hio.mono ?_; rintro e w2 ⟨rfl, hb2⟩; have hb3 := HB0.out.trans (hb2.mono HB0.out.size); have k2 := (hb2.block _ (OrbK.box_lt HK0.out)).trans HK0.out; clear m0 m1 m2; obtain ⟨m0, m1, m2⟩ := OrbK.row3 k2)
      | (go_at_call 63; refine (hef _ hb3).mono ?_; rintro e w4 ⟨v4, S4, rfl, hS4, hSb4, hb4⟩))
    have hpost := rowsOut_later hS4 hSb4 hb4 hb3
    clear hio hb2 m0 m1 m2 hb0 hb3 hef hS4 hSb4 hb4 k2
    go_ret
    exact hpost

set_option maxRecDepth 100000 in
set_option maxHeartbeats 4000000 in
theorem l6Example_any (A B : Option Addr) (c d : Nat) (cs p : List Int) (w : World) (hA : IntsAt w A cs) (hz : A = none → c = 0) (hB : IntsAt w B p) (hlc : cs.length ≤ 1000) (hl4 : p.length ≤ 4) (hin : ∀ i, i < p.length → 0 ≤ itAt p i ∧ (itAt p i).toNat < cs.length + p.length) :
    Calls Tryz.prog 121 #[.slice A cs.length c, .slice B p.length d] w (NewInts (exL (numL cs p.length) p) w) := by
  obtain ⟨i0, hi0, hz0, hz1, hz2⟩ := info_parts int_infoM
  have HS := Lib.hid hz2
  clear hz2
  have hcl := l1Copy_ints A c cs w hA hz (by omega)
  clear hA hz
  go_enter Tryz.func121, Tryz.ntmps121
  go_wp2_with (go_at_call 95; refine hcl.mono ?_; rintro e w1 ⟨v1, rfl, ho1, hb1⟩)
  clear hcl
  obtain ⟨A1, c1, rfl, _⟩ := own_intsAt ho1
  go_loopw [5] (fun v5 wr => ∃ (k : Nat) (A5 : Option Addr) (c5 : Nat), k ≤ p.length ∧ v5 = .slice A5 (cs.length + k) c5 ∧ wr.ownsRow w.heap.size 3 1 v5 (cs.length + k) (icells (numL cs k)) ∧ Below w.heap.size w wr) (fun v5 _ => cs.length + p.length - (match v5 with | .slice _ n _ => n | _ => 0))
  case atStart => exact ⟨0, A1, c1, by omega, rfl, ho1, hb1⟩
  case round =>
    clear ho1 hb1
    obtain ⟨k, A5, c5, hk, rfl, ho, hb⟩ := hrel
    have hnl := numL_len cs k
    by_cases hlt : k < p.length
    · have hlti : ((cs.length + k : Nat) : Int) < (cs.length : Int) + (p.length : Int) := by omega
      have hA5 : IntsAt wr A5 (numL cs k) := by
        rw [← hnl] at ho
        obtain ⟨A', c', e, h⟩ := own_intsAt ho
        simp only [Value.slice.injEq] at e
        rw [e.1]; exact h
      have hle := least_spec A5 c5 (numL cs k) wr hA5 (by omega)
      have hnx : Hid (numL cs (k + 1) = numL cs k ++ [leastF (numL cs k)]) := Lib.hid rfl
      rw [hnl] at hle
      generalize leastF (numL cs k) = a at hle hnx
      generalize numL cs k = V at *
      generalize hcn : cs.length = cn at *
      generalize hpn : p.length = pn at *
      have hs0 := hb.size
      have ho3 := ho.alloc (.cells #[.int .i64 a] 3)
      have hb4 := hb.alloc hb.size (.cells #[.int .i64 a] 3)
      have hcell : (wr.alloc (.cells #[.int .i64 a] 3)).cell? ⟨wr.heap.size, 0, none⟩ = some (.int .i64 a) := by simp
      have HC := Lib.hid (one_cell hcell)
      have HCN := Lib.hid hcn; have HPN := Lib.hid hpn; have HNL := Lib.hid hnl
      clear hA5 hnl hcell ho hb hcn hpn
      go_wp2_with (first
        | (go_at_call 140; refine hle.mono ?_; rintro e w2 ⟨rfl, rfl⟩)
        | (at_builtin; refine wpList_append_own _ rfl (.tmp 19) (.tmp 22) 24 rfl w.heap.size 3 i0 (.int .i64 0) 1 8 Tryz.underlying24 hi0 hz0 hz1 HS.out rfl (by decide) _ (cn + k) _ rfl ho3 ⟨wr.heap.size, 0, none⟩ 1 1 [.int .i64 a] rfl rfl HC.out (int_one _) ?c3 ?c4 ?c5 ?_))
      case c3 => unfold maxLen; omega
      case c4 => omega
      case c5 => simp; omega
      intro v5 w5 ho5 hg _
      have ho6 : w5.ownsRow w.heap.size 3 1 v5 (cn + (k + 1)) (icells (numL cs (k + 1))) := by
        rw [hnx.out, icells_append, ← Nat.add_assoc]
        exact ho5
      have hb6 : Below w.heap.size w w5 := below_own hb4 ho3 (Nat.le_refl _) (by simp; omega) hg
      obtain ⟨g, cap, rfl, _⟩ : ∃ g cap, v5 = .slice (some ⟨g, 0, none⟩) (cn + (k + 1)) cap ∧ True := by
        rcases ho6.2 with ⟨_, h0⟩ | ⟨g, cap, cur, e, _⟩
        · omega
        · exact ⟨g, cap, e, trivial⟩
      clear ho5 hg ho3 hb4 hnx HC hle
      go_wp2
      refine ⟨⟨k + 1, some ⟨g, 0, none⟩, cap, by omega, rfl, ho6, hb6⟩, ?_⟩
      dsimp only
      omega
    · have e : k = p.length := by omega
      subst e
      have hlti : ¬ ((cs.length + p.length : Nat) : Int) < (cs.length : Int) + (p.length : Int) := by omega
      rw [← hnl] at ho hin hlti
      have hcl0 : cs.length ≤ (numL cs p.length).length := by omega
      have hnl2 : (numL cs p.length).length ≤ 1004 := by omega
      have hlt3 : ¬ ((numL cs p.length).length : Int) < (cs.length : Int) + (p.length : Int) := by omega
      rw [← hnl]
      clear hnl hlti
      generalize numL cs p.length = V at *
      have hA5 : IntsAt wr A5 V := by
        obtain ⟨A', c', e, h⟩ := own_intsAt ho
        simp only [Value.slice.injEq] at e
        rw [e.1]; exact h
      have hbx : Below wr.heap.size wr (wr.alloc (.cells #[] 3)) := (Below.refl _ _).alloc (Nat.le_refl _) _
      have hb2 := hb.trans (hbx.mono hb.size)
      have hp0 : (wr.alloc (.cells #[] 3)).ownsRow wr.heap.size 3 1 (.slice (some ⟨wr.heap.size, 0, none⟩) 0 0) 0 [] := World.ownsRow_lit wr #[] 0 (Nat.le_refl _) (by decide) rfl
      have HE := Lib.hid (exL_len V)
      clear ho
      go_wp2
      obtain ⟨W0, rfl⟩ : ∃ W0, W0 = wr := ⟨_, rfl⟩
      go_loopw [6, 8, 27] (fun v _ i wq => ∃ q : Nat, q ≤ p.length ∧ i = .int .i64 q ∧ wq.ownsRow W0.heap.size 3 1 v q (icells (exL V (p.take q))) ∧ Below W0.heap.size W0 wq) (fun _ _ i _ => p.length - (intOf i).toNat)
      case atStart => exact ⟨0, Nat.zero_le _, rfl, hp0, hbx⟩
      case round =>
        clear hp0
        obtain ⟨q, hq, rfl, ho, hbq⟩ := hrel
        by_cases hlq : q < p.length
        · obtain ⟨h0, h1⟩ := hin q hlq
          have h1 : (itAt p q).toNat < V.length := by omega
          obtain ⟨b1, o1, rfl, hb1, hc1⟩ := (hB.below (hb.trans (hbq.mono hb.size))) (by omega)
          have hA7 := hA5.below hbq
          obtain ⟨b2, o2, rfl, hb2', hc2⟩ := hA7 (by omega)
          have c1 := hc1 q hlq
          have hnext := Lib.hid (exL_next (V := V) hlq)
          obtain ⟨n, hn⟩ : ∃ n : Nat, itAt p q = n := ⟨(itAt p q).toNat, by omega⟩
          rw [hn] at c1 h1 hnext
          rw [Int.toNat_natCast] at h1 hnext
          have c2 := hc2 n h1
          have hni : (n : Int) < (V.length : Int) := by omega
          have hn0 : (0 : Int) ≤ (n : Int) := by omega
          clear hc1 hc2 hn h0 hA7 hin
          generalize itAt V n = a at c2 hnext
          have ho1 := ho.alloc (.cells #[.int .i64 a] 3)
          have hbq3 := hbq.alloc hbq.size (.cells #[.int .i64 a] 3)
          have hsz : W0.heap.size ≤ wr.heap.size := hbq.size
          have hcell : (wr.alloc (.cells #[.int .i64 a] 3)).cell? ⟨wr.heap.size, 0, none⟩ = some (.int .i64 a) := by simp
          have HC := Lib.hid (one_cell hcell)
          clear hcell ho hbq
          go_wp2_with (at_builtin; refine wpList_append_lies _ rfl (.tmp 31) (.tmp 36) 24 rfl W0.heap.size 3 i0 (.int .i64 0) 1 8 Tryz.underlying24 hi0 hz0 hz1 HS.out rfl (by decide) _ q _ rfl ho1 ⟨wr.heap.size, 0, none⟩ 1 1 [.int .i64 a] rfl rfl HC.out (int_one _) (by decide) ?c3 ?c4 ?c5 _ rfl ?_)
          case c3 => unfold maxLen; omega
          case c4 => omega
          case c5 => simp; omega
          intro g cap w2 ho3 hg _ _
          have ho4 : w2.ownsRow W0.heap.size 3 1 (.slice (some ⟨g, 0, none⟩) (q + 1) cap) (q + 1) (icells (exL V (p.take (q + 1)))) := by
            rw [hnext.out, icells_append]
            exact ho3
          have hb4 : Below W0.heap.size W0 w2 := below_own hbq3 ho1 (Nat.le_refl _) (by simp; omega) hg
          clear ho3 hg ho1 hbq3 hnext HC c1 c2 hA5 hB
          go_wp2
          refine ⟨⟨q + 1, by omega, by go_num, ho4, hb4⟩, ?_⟩
          simp only [intOf]
          omega
        · have e : q = p.length := by omega
          subst e
          rw [List.take_length] at ho
          have hpost : NewInts (exL V p) w (.returned u6) wr := ⟨_, rfl, by rw [HE.out]; exact own_le ho hb.size, hb.trans (hbq.mono hb.size)⟩
          clear ho hbq hb hA5 hB hin hb2 hbx
          go_wp2
          go_ret
          exact hpost

end Go.Proofs.YtnamlgacjhnpnaaGreat
end

