/-
  All patterns, what is among them, and valid orbit sets: in the model, as contracts. Orbit sets in the model: whether they are valid, as contracts.
-/
import Derived.Test.YtdbogjhkcnajkaaKPlacesOfSet13
import Derived.Test.YtdbogjhkcnajkaaKPlacesOfSet11
import Derived.Test.YtdbogjhkcnajkaaKPlacesOfSet2
section
namespace Go.Proofs.Ytdbogjhkcnajkaa
open Go.RowKit Go.Sort
set_option linter.unusedVariables false

theorem l1Max_any (a b : Int) (w : World) :
    Calls Try.prog 121 #[.int .i64 a, .int .i64 b] w fun e w' => e = .returned (.int .i64 (max a b)) ∧ w = w' := by
  by_cases h : b < a
  · have hm : Hid (max a b = a) := Lib.hid (by omega)
    go_enter Try.func121, Try.ntmps121
    go_wp2
    go_ret
    exact ⟨int_end hm.out.symm, rfl⟩
  · have hm : Hid (max a b = b) := Lib.hid (by omega)
    go_enter Try.func121, Try.ntmps121
    go_wp2
    go_ret
    exact ⟨int_end hm.out.symm, rfl⟩

set_option maxRecDepth 100000 in
theorem own_one (w : World) : Own ((w.alloc (.cells #[] 3)).alloc (.cells #[.slice (some ⟨w.heap.size, 0, none⟩) 0 0] 27)) [w.heap.size + 1, w.heap.size] (.slice (some ⟨w.heap.size + 1, 0, none⟩) 1 1) (rowsMem [[]]) := by
  have h1 : (w.alloc (.cells #[] 3)).ownsRow 0 3 1 (.slice (some ⟨w.heap.size, 0, none⟩) 0 0) 0 [] := World.ownsRow_lit w #[] 0 (Nat.zero_le _) (by decide) rfl
  have h2 := World.ownsRow_lit (w.alloc (.cells #[] 3)) (e := 27) (size := 1) (base := 0) #[.slice (some ⟨w.heap.size, 0, none⟩) 0 0] 1 (Nat.zero_le _) (by decide) rfl
  rw [World.size_alloc] at h2
  have h3 : Own (w.alloc (.cells #[] 3)) [w.heap.size] (.slice (some ⟨w.heap.size, 0, none⟩) 0 0) (intMem []) := .row rfl h1 .nil (by simp)
  have h4 := h3.keep ((Below.refl _ _).alloc (Nat.le_refl _) (.cells #[.slice (some ⟨w.heap.size, 0, none⟩) 0 0] 27))
  exact .row (S := [w.heap.size] ++ []) rfl h2 (.cons h4 .nil (fun b _ hb => by simp at hb)) (by simp)

theorem own_lit0 (w : World) : Own (w.alloc (.cells #[] 27)) [w.heap.size] (.slice (some ⟨w.heap.size, 0, none⟩) 0 0) (rowsMem []) :=
  .row rfl (World.ownsRow_lit w #[] 0 (Nat.zero_le _) (by decide) rfl) .nil (by simp)

set_option maxRecDepth 100000 in
set_option maxHeartbeats 8000000 in
theorem l6All_any (k : Nat) (hk : k ≤ 3) : ∀ (n : Nat), n ≤ 4 → ∀ (z : Int), z = n → ∀ (w : World), Calls Try.prog 61 #[.int .i64 z, .int .i64 k] w (RowsOut (allP n k) w) := by
  obtain ⟨i0, hi0, hq0, hq1, hq2⟩ := info_parts int_infoM
  have HSZ := Lib.hid hq2
  clear hq2
  intro n
  induction n with
  | zero =>
    intro _ z hz w
    have hz0 : (z == 0) = true := by simp [hz]
    have hpost : RowsOut (allP 0 k) w (.returned (.slice (some ⟨w.heap.size + 1, 0, none⟩) 1 1)) ((w.alloc (.cells #[] 3)).alloc (.cells #[.slice (some ⟨w.heap.size, 0, none⟩) 0 0] 27)) :=
      ⟨_, _, rfl, own_one w, fun b hb => by simp at hb; omega, ((Below.refl _ _).alloc (Nat.le_refl _) _).alloc (by simp) _⟩
    clear hz
    go_enter Try.func61, Try.ntmps61
    go_wp2
    go_ret
    exact hpost
  | succ n ih =>
    intro hn z hz w
    have hz0 : (z == 0) = false := by simp [hz]; omega
    have hb0 : Below w.heap.size w (w.alloc (.cells #[] 27)) := (Below.refl _ _).alloc (Nat.le_refl _) _
    have hca := ih (by omega) (z - 1) (by omega) (w.alloc (.cells #[] 27))
    have ho0 := own_lit0 w
    have hz4 : z ≤ 4 := by omega
    have hz1 : 1 ≤ z := by omega
    have HP := Lib.hid (show allP (n + 1) k = (allP n k).flatMap (extP k) from rfl)
    have hPl := allP_4096 (k := (k : Int)) (by omega) (by omega) (show n ≤ 4 by omega)
    have hFl := allP_4096 (k := (k : Int)) (by omega) (by omega) (show n + 1 ≤ 4 by omega)
    have HRW := Lib.hid (fun i (hi : i < (allP n k).length) => allP_row (k := (k : Int)) (by omega) hi)
    rw [HP.out] at hFl
    rw [HP.out]
    generalize allP n k = P at hca hPl hFl HRW ⊢
    clear ih hz HP
    go_enter Try.func61, Try.ntmps61
    go_wp2_with fail
    refine hca.mono ?_
    rintro e w1 ⟨v20, T, rfl, hT, hTb, hb1⟩
    obtain ⟨A, c, rfl⟩ := RowsIn.form (ls := P) hT.at_
    have ho1 := ho0.keep hb1
    have hbw := hb0.trans (hb1.mono hb0.size)
    have hTw : ∀ b ∈ T, w.heap.size + 1 ≤ b := fun b hb => by have := hTb b hb; rw [World.size_alloc] at this; exact this
    clear hca ho0 hb0 hb1 hTb
    go_wp2
    go_loopw [5, 7, 8, 10, 11, 22] (fun v5 _ _ _ _ i wr => ∃ (j : Nat) (U : List Nat), j ≤ P.length ∧ i = .int .i64 j ∧ Own wr U v5 (rowsMem ((P.take j).flatMap (extP k))) ∧ Own wr T (.slice A P.length c) (rowsMem P) ∧ (∀ b ∈ U, w.heap.size ≤ b ∧ b ∉ T) ∧ Below w.heap.size w wr) (fun _ _ _ _ _ i _ => P.length - (intOf i).toNat)
    case atStart => exact ⟨0, _, Nat.zero_le _, rfl, ho1, hT, fun b hb => by simp at hb; subst hb; exact ⟨Nat.le_refl _, fun h => by have := hTw _ h; omega⟩, hbw⟩
    case round =>
      clear ho1 hT hbw
      obtain ⟨j, U, hj, rfl, hoU, hT, hUT, hb⟩ := hrel
      by_cases hlt : j < P.length
      · obtain ⟨b1, o1, A1, c1, T1, rfl, hb1, d1, ⟨hA1, hz1'⟩, hT1, hs1⟩ := own_rowAt hT hlt
        obtain ⟨hpl, hpp⟩ := HRW.out j hlt
        have hpl4 : (rwAt P j).length ≤ 4 := by omega
        clear hpl
        have HFN := Lib.hid (flat_next (k := (k : Int)) hlt)
        have hft := flat_take_len (k := (k : Int)) P (j + 1)
        rw [HFN.out, List.length_append, extP_len] at hft
        have hnb := newN_pat hpp
        have hng := newN_ge (k : Int) (rwAt P j)
        have HEA := Lib.hid (extTo_all (k : Int) (rwAt P j))
        have HPA := Lib.hid (fun i (hi : i < (rwAt P j).length) => isPat_at hpp hi)
        have HNL := Lib.hid (fun i (hi : i ≤ (rwAt P j).length) => newN_le (k := (k : Int)) (p := rwAt P j) hi (fun q hq => (isPat_at hpp (by omega)).2))
        have HNX := Lib.hid (fun i (hi : i < (rwAt P j).length) => newN_next (k := (k : Int)) hi)
        have HTL : Hid ((rwAt P j).take (rwAt P j).length = rwAt P j) := Lib.hid (List.take_length ..)
        generalize rwAt P j = p at *
        generalize (P.take j).flatMap (extP k) = D at *
        clear hpp
        go_wp2
        go_loop [8, 10, 29] (fun mo _ i => ∃ q : Nat, q ≤ p.length ∧ i = .int .i64 q ∧ mo = .int .i64 (newN k (p.take q))) (fun _ _ i => p.length - (intOf i).toNat)
        case atStart => exact ⟨0, Nat.zero_le _, rfl, rfl⟩
        case round =>
          obtain ⟨q, hq, rfl, rfl⟩ := hrel
          by_cases hlq : q < p.length
          · obtain ⟨b2, o2, rfl, hb2, hc2⟩ := hA1 (by omega)
            have c2 := hc2 q hlq
            have hpa := HPA.out q hlq
            have hnl := HNL.out q (by omega)
            have hnx := Lib.hid (HNX.out q hlq)
            have hmx := l1Max_any (newN k (p.take q)) (itAt p q + 1) wr
            generalize itAt p q = y at c2 hpa hnx hmx
            generalize newN k (p.take q) = mm at hpa hnl hnx hmx
            clear hc2 hoU hT hT1 hUT hb HFN HEA HPA HNL HNX HTL d1
            go_wp2_with (go_at_call 121; refine hmx.mono ?_; rintro e w2 ⟨rfl, rfl⟩)
            clear hmx c2
            go_round
            case rel => exact ⟨q + 1, by omega, by go_num, by rw [hnx.out]⟩
            case measure => simp [intOf]; omega
          · have e : q = p.length := by omega
            subst e
            rw [HTL.out]
            generalize newN k p = mm at *
            clear HPA HNL HNX HTL
            go_wp2
            go_loopw [5, 11] (fun v5 i wr => ∃ (q : Nat) (U2 : List Nat), (q : Int) ≤ mm + 1 ∧ i = .int .i64 q ∧ Own wr U2 v5 (rowsMem (D ++ extTo p q)) ∧ Own wr T (.slice (some ⟨b1, o1, none⟩) P.length c) (rowsMem P) ∧ Own wr T1 (.slice A1 p.length c1) (intMem p) ∧ (∀ b ∈ U2, w.heap.size ≤ b ∧ b ∉ T) ∧ Below w.heap.size w wr) (fun _ i _ => (mm + 1).toNat - (intOf i).toNat)
            case atStart => exact ⟨0, U, by omega, rfl, by simpa [extTo] using hoU, hT, hT1, hUT, hb⟩
            case round =>
              clear hoU hT hT1 hUT hb d1 hA1 hz1'
              obtain ⟨q, U2, hq, rfl, hoU, hT, hT1, hUT, hb⟩ := hrel
              by_cases hlq : (q : Int) ≤ mm
              · obtain ⟨A9, c9, e9, hA9, hz9⟩ := own_intSlice hT1
                injection e9 with e91 _ e93
                subst e91; subst e93
                have hcp := l1Copy_ints A1 c1 p wr hA9 hz9 (by omega)
                have hel := Lib.hid (extTo_len p q)
                have hen := Lib.hid (extTo_next p q)
                have hpl2 : p.length ≤ 4 := by omega
                have hdl : (D ++ extTo p q).length + 1 ≤ 16777216 := by rw [List.length_append, hel.out]; omega
                have hsb := hb.size
                clear hA9 hz9
                go_wp2_with fail
                refine hcp.mono ?_
                rintro e w6 ⟨v6, rfl, ho6, hb6⟩
                have hbx : Below w6.heap.size w6 (w6.alloc (.cells #[.int .i64 (q : Int)] 3)) := (Below.refl _ _).alloc (Nat.le_refl _) _
                have ho6b := own_below ho6 hbx
                have hb7 := hb6.trans (hbx.mono hb6.size)
                have hcell : (w6.alloc (.cells #[.int .i64 (q : Int)] 3)).cell? ⟨w6.heap.size, 0, none⟩ = some (.int .i64 q) := by simp
                have HC := Lib.hid (one_cell hcell)
                have hs7 := hb7.size
                clear hcp ho6 hbx hcell hb6
                go_wp2_with (at_builtin; refine wpList_append_lies _ rfl (.tmp 45) (.tmp 47) 27 rfl wr.heap.size 3 i0 (.int .i64 0) 1 8 Try.underlying27 hi0 hq0 hq1 HSZ.out rfl (by decide) _ p.length _ rfl ho6b ⟨w6.heap.size, 0, none⟩ 1 1 [.int .i64 q] rfl rfl HC.out (int_one _) (by decide) ?c3 ?c4 ?c5 _ rfl ?_)
                case c3 => unfold maxLen; omega
                case c4 => omega
                case c5 => exact hs7
                intro g cap w8 ho8 hg8 _ _
                have hb8 : Below wr.heap.size wr w8 := below_own hb7 ho6b (Nat.le_refl _) hs7 hg8
                have ho8' : w8.ownsRow wr.heap.size 3 1 (.slice (some ⟨g, 0, none⟩) (p.length + 1) cap) (p ++ [(q : Int)]).length (icells (p ++ [(q : Int)])) := by
                  rw [icells_append, List.length_append]
                  exact ho8
                obtain ⟨R, hR, hRb, hRe⟩ := own_intRow ho8'
                clear hRe
                have hbx : Below w8.heap.size w8 (w8.alloc (.cells #[.slice (some ⟨g, 0, none⟩) (p.length + 1) cap] 27)) := (Below.refl _ _).alloc (Nat.le_refl _) _
                have hb9 := hb8.trans (hbx.mono hb8.size)
                have hR9 := hR.keep hbx
                have hU9 := hoU.keep hb9
                have hT9 := hT.keep hb9
                have hT19 := hT1.keep hb9
                have hbw9 := hb.trans (hb9.mono hb.size)
                have hs9 := hbw9.size
                have hcell : (w8.alloc (.cells #[.slice (some ⟨g, 0, none⟩) (p.length + 1) cap] 27)).cell? ⟨w8.heap.size, 0, none⟩ = some (.slice (some ⟨g, 0, none⟩) (p.length + 1) cap) := by simp
                have HC9 := Lib.hid (one_cell hcell)
                have hUl : ∀ b ∈ U2, b < wr.heap.size := fun b hb => hoU.lt b hb
                have hTl : ∀ b ∈ T, b < wr.heap.size := fun b hb => hT.lt b hb
                have hdis : ∀ b ∈ U2, b ∉ R := fun b h1 h2 => by have := hUl b h1; have := hRb b h2; omega
                have hs8 := hb8.size
                clear hcell hbx hR ho8 ho8' ho6b hg8 hb7 HC hoU hT hT1 hb9 hb8
                go_wp2_with (at_builtin; refine wpList_append_rows rfl (.tmp 43) (.tmp 49) rfl _ U2 _ rfl hU9 ⟨w8.heap.size, 0, none⟩ _ _ R rfl HC9.out hR9 hdis hdl ?_)
                intro g2 cap2 U3 w10 hU10 hU3 hon
                have hT10 := hT9.alike (w' := w10) fun b hbb => hon.block b (hT9.lt b hbb) (fun h => (hUT b h).2 hbb)
                have hT110 := hT19.alike (w' := w10) fun b hbb => hon.block b (hT19.lt b hbb) (fun h => (hUT b h).2 (hs1 b hbb))
                have hb10 := Only.below hbw9 hon hs9 (fun b h => (hUT b h).1)
                have hUT3 : ∀ b ∈ U3, w.heap.size ≤ b ∧ b ∉ T := fun b h => by
                  rcases hU3 b h with h1 | h1 | h1
                  · exact hUT b h1
                  · have h2 := hRb b h1
                    exact ⟨by omega, fun h3 => by have := hTl b h3; omega⟩
                  · have h1' : b = w8.heap.size + 1 := by simpa using h1
                    exact ⟨by omega, fun h3 => by have := hTl b h3; omega⟩
                have hlen : Hid ((D ++ extTo p q).length + 1 = (D ++ extTo p (q + 1)).length) := Lib.hid (by rw [List.length_append, List.length_append, hel.out, extTo_len]; omega)
                rw [← hen.out] at hU10
                clear hU9 hT9 hT19 hbw9 hon hU3 hUT hRb hR9 hdis HC9 hen hUl hTl
                go_wp2
                refine ⟨⟨q + 1, U3, by omega, by go_num, hU10, hT10, hT110, hUT3, hb10⟩, ?_⟩
                simp only [intOf]
                omega
              · have e : q = (mm + 1).toNat := by omega
                subst e
                rw [HEA.out, ← HFN.out] at hoU
                clear hT1 HEA HFN
                go_wp2
                refine ⟨⟨j + 1, U2, by omega, by go_num, hoU, hT, hUT, hb⟩, ?_⟩
                simp only [intOf]
                omega
      · have e : j = P.length := by omega
        subst e
        rw [List.take_length] at hoU
        have hpost : RowsOut (P.flatMap (extP k)) w (.returned u5) wr := ⟨_, U, rfl, hoU, fun b h => (hUT b h).1, hb⟩
        clear hoU hT hUT hb
        go_wp2
        go_ret
        exact hpost
end Go.Proofs.Ytdbogjhkcnajkaa
end

section
namespace Go.Proofs.Ytdbogjhkcnajkaa
open Go.RowKit Go.Sort
set_option linter.unusedVariables false

set_option maxRecDepth 100000 in
set_option maxHeartbeats 2000000 in
theorem l1Same_any (A B : Option Addr) (c d : Nat) (a b : List Int) (w : World) (hA : IntsAt w A a) (hB : IntsAt w B b) (hla : a.length ≤ 1099511627776) (hlb : b.length ≤ 1099511627776) :
    Calls Try.prog 105 #[.slice A a.length c, .slice B b.length d] w (BoolP (decide (a = b)) w) := by
  by_cases hl : a.length = b.length
  · have hl0 : ((a.length : Int) != (b.length : Int)) = false := by simp [hl]
    have HL := Lib.hid hl
    clear hl
    go_enter Try.func105, Try.ntmps105
    go_wp2
    go_loopw [5] (fun i wr => ∃ j : Nat, j ≤ a.length ∧ i = .int .i64 j ∧ Hid (∀ q, q < j → itAt a q = itAt b q) ∧ Below w.heap.size w wr) (fun i _ => a.length - (intOf i).toNat)
    case atStart => exact ⟨0, Nat.zero_le _, rfl, fun q hq => absurd hq (by omega), Below.refl _ _⟩
    case round =>
      obtain ⟨j, hj, rfl, hq, hb⟩ := hrel
      by_cases hlt : j < a.length
      · obtain ⟨b1, o1, rfl, hb1, hc1⟩ := hA (by omega)
        obtain ⟨b2, o2, rfl, hb2, hc2⟩ := hB (by have := HL.out; omega)
        have hltb : j < b.length := by have := HL.out; omega
        have c1 := hc1 j hlt
        have c2 := hc2 j hltb
        rw [← hb.cell (p := ⟨b1, _, none⟩) hb1] at c1
        rw [← hb.cell (p := ⟨b2, _, none⟩) hb2] at c2
        have q1 := fun d os => cell_regrown c1 d os
        have q2 := fun d os => cell_regrown c2 d os
        have hno := Lib.hid (fun (h : ¬ itAt a j = itAt b j) => idiffer_at (xs := a) (ys := b) j h)
        have hok := Lib.hid (fun (h : itAt a j = itAt b j) (q : Nat) (hq2 : q < j + 1) => (by
          by_cases e : q = j
          · subst e; exact h
          · exact hq.out q (by omega) : itAt a q = itAt b q))
        generalize itAt a j = x at q1 hno hok
        generalize itAt b j = y at q2 hno hok
        clear hc1 hc2 hA hB hq c1 c2
        by_cases hxy : x = y
        · have hn := Lib.hid (hok.out hxy)
          have he : (x != y) = false := by simp [hxy]
          clear hno hok hxy
          go_wp2
          refine wp_region_quiet_below (by kernel_rfl) (by kernel_rfl) ?_
          repeat (any_goals (first | go_big_quiet_step (fail) | quiet_step (fail)))
          refine wpQuiet_nil ?_
          intro _ hw'
          obtain ⟨⟨dq, osq⟩, hw''⟩ := hw'
          subst hw''
          have hb3 := hb.trans ((below_regrown wr dq osq).mono hb.size)
          generalize grow (redrawn wr dq) osq = w2 at hb3 ⊢
          clear hb q1 q2
          go_wp2
          refine ⟨⟨j + 1, by omega, by go_num, hn, hb3⟩, ?_⟩
          simp only [intOf]
          omega
        · have hn := Lib.hid (hno.out hxy)
          have he : (x != y) = true := by simp [hxy]
          clear hno hok hxy
          go_wp2
          refine wp_region_quiet_below (by kernel_rfl) (by kernel_rfl) ?_
          repeat (any_goals (first | go_big_quiet_step (fail) | quiet_step (fail)))
          refine wpQuiet_nil ?_
          intro _ hw'
          obtain ⟨⟨dq, osq⟩, hw''⟩ := hw'
          subst hw''
          have hb3 := hb.trans ((below_regrown wr dq osq).mono hb.size)
          generalize grow (redrawn wr dq) osq = w2 at hb3 ⊢
          clear hb q1 q2
          go_wp2
          go_ret
          exact ⟨bool_end hn.out.symm, hb3⟩
      · have hn : Hid (decide (a = b) = true) := Lib.hid (by
          rw [decide_eq_true_eq]
          refine List.ext_getElem HL.out fun i h1 h2 => ?_
          have h3 := hq.out i (by omega)
          rwa [itAt_get _ _ h1, itAt_get _ _ h2] at h3)
        clear hq hA hB
        go_wp2
        go_ret
        exact ⟨bool_end hn.out.symm, hb⟩
  · have hl0 : ((a.length : Int) != (b.length : Int)) = true := by simp; omega
    have hn : Hid (decide (a = b) = false) := Lib.hid (decide_eq_false (fun e => hl (by rw [e])))
    clear hA hB hl
    go_enter Try.func105, Try.ntmps105
    go_wp2
    go_ret
    exact ⟨bool_end hn.out.symm, Below.refl _ _⟩

set_option maxRecDepth 100000 in
set_option maxHeartbeats 2000000 in
theorem l1Less_any (A B : Option Addr) (c d : Nat) (a b : List Int) (w : World) (hA : IntsAt w A a) (hB : IntsAt w B b) (hla : a.length ≤ 1099511627776) (hlb : b.length ≤ 1099511627776) :
    Calls Try.prog 127 #[.slice A a.length c, .slice B b.length d] w (BoolP (lexLt a b) w) := by
  go_enter Try.func127, Try.ntmps127
  go_wp2
  go_loopw [5] (fun i wr => ∃ j : Nat, j ≤ a.length ∧ j ≤ b.length ∧ i = .int .i64 j ∧ Hid (lexLt a b = lexLt (a.drop j) (b.drop j)) ∧ Below w.heap.size w wr) (fun i _ => a.length - (intOf i).toNat)
  case atStart => exact ⟨0, Nat.zero_le _, Nat.zero_le _, rfl, Lib.hid rfl, Below.refl _ _⟩
  case round =>
    obtain ⟨j, hja, hjb, rfl, hq, hb⟩ := hrel
    by_cases hlt : j < a.length
    · by_cases hltb : j < b.length
      · obtain ⟨b1, o1, rfl, hb1, hc1⟩ := hA (by omega)
        obtain ⟨b2, o2, rfl, hb2, hc2⟩ := hB (by omega)
        have c1 := hc1 j hlt
        have c2 := hc2 j hltb
        rw [← hb.cell (p := ⟨b1, _, none⟩) hb1] at c1
        rw [← hb.cell (p := ⟨b2, _, none⟩) hb2] at c2
        have q1 := fun d os => cell_regrown c1 d os
        have q2 := fun d os => cell_regrown c2 d os
        have hst := Lib.hid (lex_step hlt hltb)
        have hhe := Lib.hid (lex_here hlt hltb)
        generalize itAt a j = x at q1 hst hhe
        generalize itAt b j = y at q2 hst hhe
        clear hc1 hc2 hA hB c1 c2
        by_cases hxy : x = y
        · have hn : Hid (lexLt a b = lexLt (a.drop (j + 1)) (b.drop (j + 1))) := Lib.hid (by rw [hq.out, hst.out hxy])
          have he : (x != y) = false := by simp [hxy]
          clear hst hhe hxy hq
          go_wp2
          refine wp_region_quiet_below (by kernel_rfl) (by kernel_rfl) ?_
          repeat (any_goals (first | go_big_quiet_step (fail) | quiet_step (fail)))
          refine wpQuiet_nil ?_
          intro _ hw'
          obtain ⟨⟨dq, osq⟩, hw''⟩ := hw'
          subst hw''
          have hb3 := hb.trans ((below_regrown wr dq osq).mono hb.size)
          generalize grow (redrawn wr dq) osq = w2 at hb3 ⊢
          clear hb q1 q2
          go_wp2
          refine ⟨⟨j + 1, by omega, by omega, by go_num, hn, hb3⟩, ?_⟩
          simp only [intOf]
          omega
        · have hn : Hid (lexLt a b = decide (x < y)) := Lib.hid (by rw [hq.out, hhe.out hxy])
          have he : (x != y) = true := by simp [hxy]
          clear hst hhe hxy hq
          go_wp2
          refine wp_region_quiet_below (by kernel_rfl) (by kernel_rfl) ?_
          repeat (any_goals (first | go_big_quiet_step (fail) | quiet_step (fail)))
          refine wpQuiet_nil ?_
          intro _ hw'
          obtain ⟨⟨dq, osq⟩, hw''⟩ := hw'
          subst hw''
          have q3 := fun d os => q1 (dq + d) os
          have hb3 := hb.trans ((below_regrown wr dq osq).mono hb.size)
          have r1 : (grow (redrawn wr dq) osq).cell? ⟨b1, o1 + j, none⟩ = some (.int .i64 x) := q1 dq osq
          have r2 : (grow (redrawn wr dq) osq).cell? ⟨b2, o2 + j, none⟩ = some (.int .i64 y) := q2 dq osq
          generalize grow (redrawn wr dq) osq = w2 at hb3 r1 r2 ⊢
          clear hb q1 q2 q3
          have q1 := fun d os => cell_regrown r1 d os
          have q2 := fun d os => cell_regrown r2 d os
          clear r1 r2
          go_wp2
          refine wp_region_quiet_below (by kernel_rfl) (by kernel_rfl) ?_
          repeat (any_goals (first | go_big_quiet_step (fail) | quiet_step (fail)))
          refine wpQuiet_nil ?_
          intro _ hw'
          obtain ⟨⟨dq, osq⟩, hw''⟩ := hw'
          subst hw''
          have hb4 := hb3.trans ((below_regrown w2 dq osq).mono hb3.size)
          generalize grow (redrawn w2 dq) osq = w3 at hb4 ⊢
          clear hb3 q1 q2
          go_wp2
          go_ret
          exact ⟨bool_end hn.out.symm, hb4⟩
      · have hn : Hid (lexLt a b = decide (a.length < b.length)) := Lib.hid (by rw [hq.out, lex_end (by omega) (by omega) (by omega)])
        have hge : ¬ (j : Int) < (b.length : Int) := by omega
        have hlj : (j : Int) < (a.length : Int) := by omega
        clear hA hB hq
        go_wp2
        go_ret
        exact ⟨bool_end (by rw [hn.out]), hb⟩
    · have hn : Hid (lexLt a b = decide (a.length < b.length)) := Lib.hid (by rw [hq.out, lex_end (by omega) (by omega) (by omega)])
      have hge : ¬ (j : Int) < (a.length : Int) := by omega
      clear hA hB hq
      go_wp2
      go_ret
      exact ⟨bool_end (by rw [hn.out]), hb⟩

set_option maxRecDepth 100000 in
set_option maxHeartbeats 2000000 in
theorem l6There_any (A B : Option Addr) (c d : Nat) (ls : List (List Int)) (p : List Int) (w : World) (hA : RowsIn w (.slice A ls.length c) ls) (hB : IntsAt w B p) (hf : FitR ls) (hp : p.length ≤ 1099511627776) :
    Calls Try.prog 85 #[.slice A ls.length c, .slice B p.length d] w (BoolP (thereB ls p) w) := by
  obtain ⟨hll, hrl⟩ := hf
  go_enter Try.func85, Try.ntmps85
  go_wp2
  go_loopw [6, 9] (fun _ i wr => ∃ j : Nat, j ≤ ls.length ∧ i = .int .i64 j ∧ Hid (∀ q, q < j → ¬ rwAt ls q = p) ∧ Below w.heap.size w wr) (fun _ i _ => ls.length - (intOf i).toNat)
  case atStart => exact ⟨0, Nat.zero_le _, rfl, fun q hq => absurd hq (by omega), Below.refl _ _⟩
  case round =>
    obtain ⟨j, hj, rfl, hq, hb⟩ := hrel
    by_cases hlt : j < ls.length
    · obtain ⟨b1, o1, rfl, hb1, hc1⟩ := (hA.below hb).get (by omega)
      obtain ⟨A1, c1, d1, hA1⟩ := hc1 j hlt
      have hsm := l1Same_any A1 B c1 d (rwAt ls j) p wr hA1 (hB.below hb) (by have := hrl j hlt; omega) hp
      have hno := Lib.hid (fun (h : ¬ rwAt ls j = p) (q : Nat) (hq2 : q < j + 1) => (by
        by_cases e : q = j
        · subst e; exact h
        · exact hq.out q (by omega) : ¬ rwAt ls q = p))
      have hyes := Lib.hid (fun (h : rwAt ls j = p) => there_yes hlt h)
      by_cases he : rwAt ls j = p
      · have hn := Lib.hid (hyes.out he)
        rw [decide_eq_true he] at hsm
        clear hno hyes he hc1 hA1 hA hB hq
        generalize (rwAt ls j).length = rl at *
        go_wp2_with (go_at_call 105; refine hsm.mono ?_; rintro e w2 ⟨rfl, hb2⟩; have hb3 := hb.trans (hb2.mono hb.size))
        clear hsm d1 hb hb2
        go_ret
        exact ⟨bool_end hn.out.symm, hb3⟩
      · have hn := Lib.hid (hno.out he)
        rw [decide_eq_false he] at hsm
        clear hno hyes he hc1 hA1 hA hB hq
        generalize (rwAt ls j).length = rl at *
        go_wp2_with (go_at_call 105; refine hsm.mono ?_; rintro e w2 ⟨rfl, hb2⟩; have hb3 := hb.trans (hb2.mono hb.size))
        clear hsm d1 hb hb2
        refine ⟨⟨j + 1, by omega, by go_num, hn, hb3⟩, ?_⟩
        simp only [intOf]
        omega
    · have hn := Lib.hid (there_no (ls := ls) (p := p) fun i hi => hq.out i (by omega))
      clear hq hA hB
      go_wp2
      go_ret
      exact ⟨bool_end hn.out.symm, hb⟩

set_option maxRecDepth 100000 in
set_option maxHeartbeats 8000000 in
theorem isOrbitSet_spec (z : Int) (l : List Int) (m : List (List Int)) (hf : FitO l m) (x : Value) (w : World) (hx : OrbIx w x z l m) :
    Calls Try.prog 74 #[x] w (BoolP (orbB z l m) w) := by
  obtain ⟨hll, hml, hrl⟩ := hf
  obtain ⟨A, c, B, d, rfl, hl, _, hm⟩ := hx
  have hb0 : Below w.heap.size w (w.alloc (.cells #[.int .i64 z, .slice A l.length c, .slice B m.length d] 29)) := (Below.refl _ _).alloc (Nat.le_refl _) _
  have k0 := heap_alloc_new w (.cells #[.int .i64 z, .slice A l.length c, .slice B m.length d] 29)
  obtain ⟨m0, m1, m2⟩ := OrbK.row3 k0
  have hwi := fun W => l1In_any z 0 4 W
  have hwe : decide ((0 : Int) ≤ z ∧ z ≤ 4) = widB z := rfl
  cases hw : widB z with
  | false =>
    have hn := Lib.hid (orbB_no1 (l := l) (m := m) hw)
    rw [hwe, hw] at hwi
    clear hl hm k0 hwe
    go_enter Try.func74, Try.ntmps74
    go_wp2_with (go_at_call 60; refine (hwi _).mono ?_; rintro e w2 ⟨rfl, rfl⟩)
    go_ret
    exact ⟨bool_end hn.out.symm, hb0⟩
  | true =>
    rw [hwe, hw] at hwi
    have hco := fun W (h : Below w.heap.size w W) => l6Constants_any A c l W (hl.1.below h) (by omega)
    have HB0 := Lib.hid hb0
    have HK0 := Lib.hid k0
    cases hc : constB l with
    | false =>
      have hn := Lib.hid (orbB_no2 (z := z) (m := m) hc)
      rw [hc] at hco
      clear hl hm k0 hwe
      go_enter Try.func74, Try.ntmps74
      go_wp2_with (first
        | (go_at_call 60; refine (hwi _).mono ?_; rintro e w2 ⟨rfl, rfl⟩)
        | (go_at_call 67; refine (hco _ HB0.out).mono ?_; rintro e w2 ⟨rfl, hb2⟩; have hb3 := HB0.out.trans (hb2.mono HB0.out.size)))
      clear hwi hco m0 m1 m2 hb2 hb0
      go_ret
      exact ⟨bool_end hn.out.symm, hb3⟩
    | true =>
      have hzz := widB_iff.1 hw
      have hk3 := const_len hc
      have hyes := Lib.hid (fun h => orbB_yes (m := m) hw hc h)
      rw [hc] at hco
      clear hw hc hwe
      obtain ⟨zn, hzn⟩ : ∃ zn : Nat, z = zn := ⟨z.toNat, by omega⟩
      have hal := fun W => l6All_any l.length hk3 zn (by omega) z hzn W
      have hth := Lib.hid (fun p => there_all (w := zn) (k := (l.length : Int)) (by omega) p)
      have hfa := Lib.hid (fitR_of (ls := allP zn l.length) (by have := allP_fit (k := (l.length : Int)) (by omega) (by omega) (show zn ≤ 4 by omega); omega))
      have hzh := Lib.hid hzn
      clear hzn
      generalize hPP : allP zn l.length = P at hal hth hfa
      clear hPP
      go_enter Try.func74, Try.ntmps74
      go_wp2_with (first
        | (go_at_call 60; refine (hwi _).mono ?_; rintro e w2 ⟨rfl, rfl⟩)
        | (go_at_call 67; refine (hco _ HB0.out).mono ?_; rintro e w2 ⟨rfl, hb2⟩; have hb3 := HB0.out.trans (hb2.mono HB0.out.size); have k2 := (hb2.block _ (OrbK.box_lt HK0.out)).trans HK0.out; clear m0 m1 m2; obtain ⟨m0, m1, m2⟩ := OrbK.row3 k2))
      have hm2 := hm.below hb3
      have HB3 := Lib.hid hb3
      have HK2 := Lib.hid k2
      clear hwi hco hb2 hm hl k0 HK0 HB0 k2 hb0 hb3 m0 m1 m2
      go_loopw [3, 4, 5, 19] (fun _ _ _ i wr => ∃ j : Nat, j ≤ m.length ∧ i = .int .i64 j ∧ Hid (∀ i, i < j → rowOkB z l.length m i = true) ∧ Below w2.heap.size w2 wr) (fun _ _ _ i _ => m.length - (intOf i).toNat)
      case atStart => exact ⟨0, Nat.zero_le _, rfl, fun i hi => absurd hi (by omega), Below.refl _ _⟩
      case round =>
        obtain ⟨j, hj, rfl, hq, hb⟩ := hrel
        have hbw := HB3.out.trans (hb.mono HB3.out.size)
        by_cases hlt : j < m.length
        · have k3 := (hb.block _ (OrbK.box_lt HK2.out)).trans HK2.out
          obtain ⟨m0, m1, m2⟩ := OrbK.row3 k3
          have HK3 := Lib.hid k3
          have hmr := hm2.below hb
          obtain ⟨b1, o1, rfl, hb1, hc1⟩ := hmr (by omega)
          obtain ⟨A1, c1, d1, hA1, _⟩ := hc1 j hlt
          have hrl1 := hrl j hlt
          by_cases hlz : ((rwAt m j).length : Int) = z
          · have hne : (((rwAt m j).length : Int) != z) = false := by simp [hlz]
            have hal1 := hal wr
            have hte : thereB P (rwAt m j) = isPatB l.length (rwAt m j) := by
              have h1 := hth.out (rwAt m j)
              rw [h1, decide_eq_true (by have := hzh.out; omega)]
              rfl
            cases hpp : isPatB l.length (rwAt m j) with
            | false =>
              have hn := Lib.hid (orbB_no3 (rowsOk_no hlt (row_no2 (z := z) hpp)))
              rw [hpp] at hte
              have hthc := fun (W : World) (A9 : Option Addr) (c9 : Nat) (h9 : RowsIn W (.slice A9 P.length c9) P) (h : Below wr.heap.size wr W) => l6There_any A9 A1 c9 c1 P (rwAt m j) W h9 (hA1.below h) hfa.out (by omega)
              rw [hte] at hthc
              clear hq hyes hc1 hmr hpp hlz hal hm2 k3 hte hA1
              generalize (rwAt m j).length = rl at *
              go_wp2_with (first
                | (go_at_call 61; refine hal1.mono ?_; rintro e w3 ⟨v3, T3, rfl, hT3, hT3b, hb4⟩; obtain ⟨A9, c9, rfl⟩ := RowsIn.form (ls := P) hT3.at_)
                | (go_at_call 85; refine (hthc _ _ _ hT3.at_ hb4).mono ?_; rintro e w4 ⟨rfl, hb5⟩; have hb6 := hbw.trans ((hb4.trans (hb5.mono hb4.size)).mono hbw.size)))
              clear hal1 hthc hT3 hT3b hb4 hb5 hb hbw m0 m1 m2 d1
              go_ret
              exact ⟨bool_end hn.out.symm, hb6⟩
            | true =>
              rw [hpp] at hte
              have hthc := fun (W : World) (A9 : Option Addr) (c9 : Nat) (h9 : RowsIn W (.slice A9 P.length c9) P) (h : Below wr.heap.size wr W) => l6There_any A9 A1 c9 c1 P (rwAt m j) W h9 (hA1.below h) hfa.out (by omega)
              rw [hte] at hthc
              rcases Nat.eq_zero_or_pos j with h0 | h0
              · subst h0
                have hn : Hid (∀ i, i < 0 + 1 → rowOkB z l.length m i = true) := Lib.hid (next_all (p := rowOkB z l.length m) hq.out (row_yes hlz hpp (.inl rfl)))
                rw [Nat.add_zero] at d1
                clear hq hyes hc1 hmr hpp hlz hal k3 hte hA1
                generalize (rwAt m 0).length = rl at *
                go_wp2_with (first
                  | (go_at_call 61; refine hal1.mono ?_; rintro e w3 ⟨v3, T3, rfl, hT3, hT3b, hb4⟩; obtain ⟨A9, c9, rfl⟩ := RowsIn.form (ls := P) hT3.at_)
                  | (go_at_call 85; refine (hthc _ _ _ hT3.at_ hb4).mono ?_; rintro e w4 ⟨rfl, hb5⟩; have hb6 := hb.trans ((hb4.trans (hb5.mono hb4.size)).mono hb.size)))
                clear hal1 hthc hT3 hT3b hb4 hb5 hb hbw m0 m1 m2 d1
                refine ⟨⟨0 + 1, by omega, by go_num, hn, hb6⟩, ?_⟩
                simp only [intOf]
                omega
              · obtain ⟨q, rfl⟩ : ∃ q, j = q + 1 := ⟨j - 1, by omega⟩
                obtain ⟨A2, c2, d2, hA2, _⟩ := hc1 q (by omega)
                have hrl2 := hrl q (by omega)
                have hcm := fun (W : World) (h : Below wr.heap.size wr W) => l1Less_any A2 A1 c2 c1 (rwAt m q) (rwAt m (q + 1)) W (hA2.below h) (hA1.below h) (by omega) (by omega)
                have hno := Lib.hid (fun h => orbB_no3 (l := l) (rowsOk_no hlt (row_no3 (z := z) (k := l.length) h0 h)))
                have hok := Lib.hid (fun h => next_all (p := rowOkB z l.length m) hq.out (row_yes (i := q + 1) hlz hpp (.inr h)))
                rw [Nat.add_sub_cancel] at hno hok
                have D2 := Lib.hid d2
                clear hq hyes hc1 hmr hpp hlz hal k3 hte hA1 hA2 d2
                generalize hlx : lexLt (rwAt m q) (rwAt m (q + 1)) = lx at *
                clear hlx
                generalize (rwAt m (q + 1)).length = rl at *
                generalize (rwAt m q).length = rl2 at *
                cases lx with
                | true =>
                  go_wp2_with (first
                    | (go_at_call 61; refine hal1.mono ?_; rintro e w3 ⟨v3, T3, rfl, hT3, hT3b, hb4⟩; obtain ⟨A9, c9, rfl⟩ := RowsIn.form (ls := P) hT3.at_)
                    | (go_at_call 85; refine (hthc _ _ _ hT3.at_ hb4).mono ?_; rintro e w4 ⟨rfl, hb5⟩; have hb6 := hb4.trans (hb5.mono hb4.size); have k4 := (hb6.block _ (OrbK.box_lt HK3.out)).trans HK3.out; clear m0 m1 m2; obtain ⟨m0, m1, m2⟩ := OrbK.row3 k4; have d2 := (hb6.cell (p := ⟨b1, _, none⟩) hb1).trans D2.out)
                    | (go_at_call 127; refine (hcm _ hb6).mono ?_; rintro e w5 ⟨rfl, hb7⟩; have hb8 := hb6.trans (hb7.mono hb6.size)))
                  have hn := Lib.hid (hok.out (by first | rfl | trivial))
                  have hb9 := hb.trans (hb8.mono hb.size)
                  clear hno hok hal1 hthc hT3 hT3b hb4 hb5 hb6 hb7 hb8 hb hbw m0 m1 m2 d1 d2 k4 hcm
                  refine ⟨⟨q + 1 + 1, by omega, by go_num, hn, hb9⟩, ?_⟩
                  simp only [intOf]
                  omega
                | false =>
                  go_wp2_with (first
                    | (go_at_call 61; refine hal1.mono ?_; rintro e w3 ⟨v3, T3, rfl, hT3, hT3b, hb4⟩; obtain ⟨A9, c9, rfl⟩ := RowsIn.form (ls := P) hT3.at_)
                    | (go_at_call 85; refine (hthc _ _ _ hT3.at_ hb4).mono ?_; rintro e w4 ⟨rfl, hb5⟩; have hb6 := hb4.trans (hb5.mono hb4.size); have k4 := (hb6.block _ (OrbK.box_lt HK3.out)).trans HK3.out; clear m0 m1 m2; obtain ⟨m0, m1, m2⟩ := OrbK.row3 k4; have d2 := (hb6.cell (p := ⟨b1, _, none⟩) hb1).trans D2.out)
                    | (go_at_call 127; refine (hcm _ hb6).mono ?_; rintro e w5 ⟨rfl, hb7⟩; have hb8 := hb6.trans (hb7.mono hb6.size)))
                  have hn := Lib.hid (hno.out (by first | rfl | trivial))
                  have hb9 := hbw.trans (hb8.mono hbw.size)
                  clear hno hok hal1 hthc hT3 hT3b hb4 hb5 hb6 hb7 hb8 hb hbw m0 m1 m2 d1 d2 k4 hcm
                  go_ret
                  exact ⟨bool_end hn.out.symm, hb9⟩
          · have hn := Lib.hid (orbB_no3 (l := l) (rowsOk_no hlt (row_no1 (k := l.length) hlz)))
            have hne : (((rwAt m j).length : Int) != z) = true := by simp [hlz]
            clear hq hyes hc1 hmr hlz hal hm2 k3 hA1
            generalize (rwAt m j).length = rl at *
            go_wp2
            go_ret
            exact ⟨bool_end hn.out.symm, hbw⟩
        · have hn := Lib.hid (hyes.out (rowsOk_yes fun i hi => hq.out i (by omega)))
          clear hq hm2 hyes hal
          go_wp2
          go_ret
          exact ⟨bool_end hn.out.symm, hbw⟩
end Go.Proofs.Ytdbogjhkcnajkaa
end

