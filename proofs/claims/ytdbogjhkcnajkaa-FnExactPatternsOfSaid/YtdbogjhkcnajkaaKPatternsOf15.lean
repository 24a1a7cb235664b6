/-
  All patterns, what is among them, and valid orbit sets: in the model, as contracts. Orbit sets in the model: whether they are valid, as contracts.
-/
import Derived.Test.YtdbogjhkcnajkaaKPatternsOf14
import Derived.Test.YtdbogjhkcnajkaaKPatternsOf12
import Derived.Test.YtdbogjhkcnajkaaKPatternsOf3
section
namespace Go.Proofs.Ytdbogjhkcnajkaa
open Go.RowKit Go.Sort
set_option linter.unusedVariables false

theorem l1Max_any (a b : Int) (w : World) :
    Calls Try.prog 121 #[.int .i64 a, .int .i64 b] w fun e w' => e = .returned (.int .i64 (max a b)) ∧ w = w' := by
  by_cases h : b < a
  · have hm : Hid (max a b = a) := Lib.hid (by omega)
    go_enter Try.func121, Try.ntmps121
    go_wp2
    go_ret
    exact ⟨int_end hm.out.symm, rfl⟩
  · have hm : Hid (max a b = b) := Lib.hid (by omega)
    go_enter Try.func121, Try.ntmps121
    go_wp2
    go_ret
    exact ⟨int_end hm.out.symm, rfl⟩

set_option maxRecDepth 100000 in
theorem own_one (w : World) : Own ((w.alloc (.cells #[] 3)).alloc (.cells #[.slice (some ⟨w.heap.size, 0, none⟩) 0 0] 27)) [w.heap.size + 1, w.heap.size] (.slice (some ⟨w.heap.size + 1, 0, none⟩) 1 1) (rowsMem [[]]) := by
  have h1 : (w.alloc (.cells #[] 3)).ownsRow 0 3 1 (.slice (some ⟨w.heap.size, 0, none⟩) 0 0) 0 [] := World.ownsRow_lit w #[] 0 (Nat.zero_le _) (by decide) rfl
  have h2 := World.ownsRow_lit (w.alloc (.cells #[] 3)) (e := 27) (size := 1) (base := 0) #[.slice (some ⟨w.heap.size, 0, none⟩) 0 0] 1 (Nat.zero_le _) (by decide) rfl
  rw [World.size_alloc] at h2
  have h3 : Own (w.alloc (.cells #[] 3)) [w.heap.size] (.slice (some ⟨w.heap.size, 0, none⟩) 0 0) (intMem []) := .row rfl h1 .nil (by simp)
  have h4 := h3.keep ((Below.refl _ _).alloc (Nat.le_refl _) (.cells #[.slice (some ⟨w.heap.size, 0, none⟩) 0 0] 27))
  exact .row (S := [w.heap.size] ++ []) rfl h2 (.cons h4 .nil (fun b _ hb => by simp at hb)) (by simp)

theorem own_lit0 (w : World) : Own (w.alloc (.cells #[] 27)) [w.heap.size] (.slice (some ⟨w.heap.size, 0, none⟩) 0 0) (rowsMem []) :=
  .row rfl (World.ownsRow_lit w #[] 0 (Nat.zero_le _) (by decide) rfl) .nil (by simp)

set_option maxRecDepth 100000 in
set_option maxHeartbeats 8000000 in
theorem l6All_any (k : Nat) (hk : k ≤ 3) : ∀ (n : Nat), n ≤ 4 → ∀ (z : Int), z = n → ∀ (w : World), Calls Try.prog 61 #[.int .i64 z, .int .i64 k] w (RowsOut (allP n k) w) := by
  obtain ⟨i0, hi0, hq0, hq1, hq2⟩ := info_parts int_infoM
  have HSZ := Lib.hid hq2
  clear hq2
  intro n
  induction n with
  | zero =>
    intro _ z hz w
    have hz0 : (z == 0) = true := by simp [hz]
    have hpost : RowsOut (allP 0 k) w (.returned (.slice (some ⟨w.heap.size + 1, 0, none⟩) 1 1)) ((w.alloc (.cells #[] 3)).alloc (.cells #[.slice (some ⟨w.heap.size, 0, none⟩) 0 0] 27)) :=
      ⟨_, _, rfl, own_one w, fun b hb => by simp at hb; omega, ((Below.refl _ _).alloc (Nat.le_refl _) _).alloc (by simp) _⟩
    clear hz
    go_enter Try.func61, Try.ntmps61
    go_wp2
    go_ret
    exact hpost
  | succ n ih =>
    intro hn z hz w
    have hz0 : (z == 0) = false := by simp [hz]; omega
    have hb0 : Below w.heap.size w (w.alloc (.cells #[] 27)) := (Below.refl _ _).alloc (Nat.le_refl _) _
    have hca := ih (by omega) (z - 1) (by omega) (w.alloc (.cells #[] 27))
    have ho0 := own_lit0 w
    have hz4 : z ≤ 4 := by omega
    have hz1 : 1 ≤ z := by omega
    have HP := Lib.hid (show allP (n + 1) k = (allP n k).flatMap (extP k) from rfl)
    have hPl := allP_4096 (k := (k : Int)) (by omega) (by omega) (show n ≤ 4 by omega)
    have hFl := allP_4096 (k := (k : Int)) (by omega) (by omega) (show n + 1 ≤ 4 by omega)
    have HRW := Lib.hid (fun i (hi : i < (allP n k).length) => allP_row (k := (k : Int)) (by omega) hi)
    rw [HP.out] at hFl
    rw [HP.out]
    generalize allP n k = P at hca hPl hFl HRW ⊢
    clear ih hz HP
    go_enter Try.func61, Try.ntmps61
    go_wp2_with fail
    refine hca.mono ?_
    rintro e w1 ⟨v20, T, rfl, hT, hTb, hb1⟩
    obtain ⟨A, c, rfl⟩ := RowsIn.form (ls := P) hT.at_
    have ho1 := ho0.keep hb1
    have hbw := hb0.trans (hb1.mono hb0.size)
    have hTw : ∀ b ∈ T, w.heap.size + 1 ≤ b := fun b hb => by have := hTb b hb; rw [World.size_alloc] at this; exact this
    clear hca ho0 hb0 hb1 hTb
    go_wp2
    go_loopw [5, 7, 8, 10, 11, 22] (fun v5 _ _ _ _ i wr => ∃ (j : Nat) (U : List Nat), j ≤ P.length ∧ i = .int .i64 j ∧ Own wr U v5 (rowsMem ((P.take j).flatMap (extP k))) ∧ Own wr T (.slice A P.length c) (rowsMem P) ∧ (∀ b ∈ U, w.heap.size ≤ b ∧ b ∉ T) ∧ Below w.heap.size w wr) (fun _ _ _ _ _ i _ => P.length - (intOf i).toNat)
    case atStart => exact ⟨0, _, Nat.zero_le _, rfl, ho1, hT, fun b hb => by simp at hb; subst hb; exact ⟨Nat.le_refl _, fun h => by have := hTw _ h; omega⟩, hbw⟩
    case round =>
      clear ho1 hT hbw
      obtain ⟨j, U, hj, rfl, hoU, hT, hUT, hb⟩ := hrel
      by_cases hlt : j < P.length
      · obtain ⟨b1, o1, A1, c1, T1, rfl, hb1, d1, ⟨hA1, hz1'⟩, hT1, hs1⟩ := own_rowAt hT hlt
        obtain ⟨hpl, hpp⟩ := HRW.out j hlt
        have hpl4 : (rwAt P j).length ≤ 4 := by omega
        clear hpl
        have HFN := Lib.hid (flat_next (k := (k : Int)) hlt)
        have hft := flat_take_len (k := (k : Int)) P (j + 1)
        rw [HFN.out, List.length_append, extP_len] at hft
        have hnb := newN_pat hpp
        have hng := newN_ge (k : Int) (rwAt P j)
        have HEA := Lib.hid (extTo_all (k : Int) (rwAt P j))
        have HPA := Lib.hid (fun i (hi : i < (rwAt P j).length) => isPat_at hpp hi)
        have HNL := Lib.hid (fun i (hi : i ≤ (rwAt P j).length) => newN_le (k := (k : Int)) (p := rwAt P j) hi (fun q hq => (isPat_at hpp (by omega)).2))
        have HNX := Lib.hid (fun i (hi : i < (rwAt P j).length) => newN_next (k := (k : Int)) hi)
        have HTL : Hid ((rwAt P j).take (rwAt P j).length = rwAt P j) := Lib.hid (List.take_length ..)
        generalize rwAt P j = p at *
        generalize (P.take j).flatMap (extP k) = D at *
        clear hpp
        go_wp2
        go_loop [8, 10, 29] (fun mo _ i => ∃ q : Nat, q ≤ p.length ∧ i = .int .i64 q ∧ mo = .int .i64 (newN k (p.take q))) (fun _ _ i => p.length - (intOf i).toNat)
        case atStart => exact ⟨0, Nat.zero_le _, rfl, rfl⟩
        case round =>
          obtain ⟨q, hq, rfl, rfl⟩ := hrel
          by_cases hlq : q < p.length
          · obtain ⟨b2, o2, rfl, hb2, hc2⟩ := hA1 (by omega)
            have c2 := hc2 q hlq
            have hpa := HPA.out q hlq
            have hnl := HNL.out q (by omega)
            have hnx := Lib.hid (HNX.out q hlq)
            have hmx := l1Max_any (newN k (p.take q)) (itAt p q + 1) wr
            generalize itAt p q = y at c2 hpa hnx hmx
            generalize newN k (p.take q) = mm at hpa hnl hnx hmx
            clear hc2 hoU hT hT1 hUT hb HFN HEA HPA HNL HNX HTL d1
            go_wp2_with (go_at_call 121; refine hmx.mono ?_; rintro e w2 ⟨rfl, rfl⟩)
            clear hmx c2
            go_round
            case rel => exact ⟨q + 1, by omega, by go_num, by rw [hnx.out]⟩
            case measure => simp [intOf]; omega
          · have e : q = p.length := by omega
            subst e
            rw [HTL.out]
            generalize newN k p = mm at *
            clear HPA HNL HNX HTL
            go_wp2
            go_loopw [5, 11] (fun v5 i wr => ∃ (q : Nat) (U2 : List Nat), (q : Int) ≤ mm + 1 ∧ i = .int .i64 q ∧ Own wr U2 v5 (rowsMem (D ++ extTo p q)) ∧ Own wr T (.slice (some ⟨b1, o1, none⟩) P.length c) (rowsMem P) ∧ Own wr T1 (.slice A1 p.length c1) (intMem p) ∧ (∀ b ∈ U2, w.heap.size ≤ b ∧ b ∉ T) ∧ Below w.heap.size w wr) (fun _ i _ => (mm + 1).toNat - (intOf i).toNat)
            case atStart => exact ⟨0, U, by omega, rfl, by simpa [extTo] using hoU, hT, hT1, hUT, hb⟩
            case round =>
              clear hoU hT hT1 hUT hb d1 hA1 hz1'
              obtain ⟨q, U2, hq, rfl, hoU, hT, hT1, hUT, hb⟩ := hrel
              by_cases hlq : (q : Int) ≤ mm
              · obtain ⟨A9, c9, e9, hA9, hz9⟩ := own_intSlice hT1
                injection e9 with e91 _ e93
                subst e91; subst e93
                have hcp := l1Copy_ints A1 c1 p wr hA9 hz9 (by omega)
                have hel := Lib.hid (extTo_len p q)
                have hen := Lib.hid (extTo_next p q)
                have hpl2 : p.length ≤ 4 := by omega
                have hdl : (D ++ extTo p q).length + 1 ≤ 16777216 := by rw [List.length_append, hel.out]; omega
                have hsb := hb.size
                clear hA9 hz9
                go_wp2_with fail
                refine hcp.mono ?_
                rintro e w6 ⟨v6, rfl, ho6, hb6⟩
                have hbx : Below w6.heap.size w6 (w6.alloc (.cells #[.int .i64 (q : Int)] 3)) := (Below.refl _ _).alloc (Nat.le_refl _) _
                have ho6b := own_below ho6 hbx
                have hb7 := hb6.trans (hbx.mono hb6.size)
                have hcell : (w6.alloc (.cells #[.int .i64 (q : Int)] 3)).cell? ⟨w6.heap.size, 0, none⟩ = some (.int .i64 q) := by simp
                have HC := Lib.hid (one_cell hcell)
                have hs7 := hb7.size
                clear hcp ho6 hbx hcell hb6
                go_wp2_with (at_builtin; refine wpList_append_lies _ rfl (.tmp 45) (.tmp 47) 27 rfl wr.heap.size 3 i0 (.int .i64 0) 1 8 Try.underlying27 hi0 hq0 hq1 HSZ.out rfl (by decide) _ p.length _ rfl ho6b ⟨w6.heap.size, 0, none⟩ 1 1 [.int .i64 q] rfl rfl HC.out (int_one _) (by decide) ?c3 ?c4 ?c5 _ rfl ?_)
                case c3 => unfold maxLen; omega
                case c4 => omega
                case c5 => exact hs7
                intro g cap w8 ho8 hg8 _ _
                have hb8 : Below wr.heap.size wr w8 := below_own hb7 ho6b (Nat.le_refl _) hs7 hg8
                have ho8' : w8.ownsRow wr.heap.size 3 1 (.slice (some ⟨g, 0, none⟩) (p.length + 1) cap) (p ++ [(q : Int)]).length (icells (p ++ [(q : Int)])) := by
                  rw [icells_append, List.length_append]
                  exact ho8
                obtain ⟨R, hR, hRb, hRe⟩ := own_intRow ho8'
                clear hRe
                have hbx : Below w8.heap.size w8 (w8.alloc (.cells #[.slice (some ⟨g, 0, none⟩) (p.length + 1) cap] 27)) := (Below.refl _ _).alloc (Nat.le_refl _) _
                have hb9 := hb8.trans (hbx.mono hb8.size)
                have hR9 := hR.keep hbx
                have hU9 := hoU.keep hb9
                have hT9 := hT.keep hb9
                have hT19 := hT1.keep hb9
                have hbw9 := hb.trans (hb9.mono hb.size)
                have hs9 := hbw9.size
                have hcell : (w8.alloc (.cells #[.slice (some ⟨g, 0, none⟩) (p.length + 1) cap] 27)).cell? ⟨w8.heap.size, 0, none⟩ = some (.slice (some ⟨g, 0, none⟩) (p.length + 1) cap) := by simp
                have HC9 := Lib.hid (one_cell hcell)
                have hUl : ∀ b ∈ U2, b < wr.heap.size := fun b hb => hoU.lt b hb
                have hTl : ∀ b ∈ T, b < wr.heap.size := fun b hb => hT.lt b hb
                have hdis : ∀ b ∈ U2, b ∉ R := fun b h1 h2 => by have := hUl b h1; have := hRb b h2; omega
                have hs8 := hb8.size
                clear hcell hbx hR ho8 ho8' ho6b hg8 hb7 HC hoU hT hT1 hb9 hb8
                go_wp2_with (at_builtin; refine wpList_append_rows rfl (.tmp 43) (.tmp 49) rfl _ U2 _ rfl hU9 ⟨w8.heap.size, 0, none⟩ _ _ R rfl HC9.out hR9 hdis hdl ?_)
                intro g2 cap2 U3 w10 hU10 hU3 hon
                have hT10 := hT9.alike (w' := w10) fun b hbb => hon.block b (hT9.lt b hbb) (fun h => (hUT b h).2 hbb)
                have hT110 := hT19.alike (w' := w10) fun b hbb => hon.block b (hT19.lt b hbb) (fun h => (hUT b h).2 (hs1 b hbb))
                have hb10 := Only.below hbw9 hon hs9 (fun b h => (hUT b h).1)
                have hUT3 : ∀ b ∈ U3, w.heap.size ≤ b ∧ b ∉ T := fun b h => by
                  rcases hU3 b h with h1 | h1 | h1
                  · exact hUT b h1
                  · have h2 := hRb b h1
                    exact ⟨by omega, fun h3 => by have := hTl b h3; omega⟩
                  · have h1' : b = w8.heap.size + 1 := by simpa using h1
                    exact ⟨by omega, fun h3 => by have := hTl b h3; omega⟩
                have hlen : Hid ((D ++ extTo p q).length + 1 = (D ++ extTo p (q + 1)).length) := Lib.hid (by rw [List.length_append, List.length_append, hel.out, extTo_len]; omega)
                rw [← hen.out] at hU10
                clear hU9 hT9 hT19 hbw9 hon hU3 hUT hRb hR9 hdis HC9 hen hUl hTl
                go_wp2
                refine ⟨⟨q + 1, U3, by omega, by go_num, hU10, hT10, hT110, hUT3, hb10⟩, ?_⟩
                simp only [intOf]
                omega
              · have e : q = (mm + 1).toNat := by omega
                subst e
                rw [HEA.out, ← HFN.out] at hoU
                clear hT1 HEA HFN
                go_wp2
                refine ⟨⟨j + 1, U2, by omega, by go_num, hoU, hT, hUT, hb⟩, ?_⟩
                simp only [intOf]
                omega
      · have e : j = P.length := by omega
        subst e
        rw [List.take_length] at hoU
        have hpost : RowsOut (P.flatMap (extP k)) w (.returned u5) wr := ⟨_, U, rfl, hoU, fun b h => (hUT b h).1, hb⟩
        clear hoU hT hUT hb
        go_wp2
        go_ret
        exact hpost
end Go.Proofs.Ytdbogjhkcnajkaa
end

section
namespace Go.Proofs.Ytdbogjhkcnajkaa
open Go.RowKit Go.Sort
set_option linter.unusedVariables false

end Go.Proofs.Ytdbogjhkcnajkaa
end

