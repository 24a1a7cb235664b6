/-
  The atoms that a formula names, in the program, as contracts; whether a value is a formula. Whether a value is a formula, in the model, as contracts.
-/
import Derived.Test.YthjkogighppeaaaKSetOfFormula12
import Derived.Test.YthjkogighppeaaaKSetOfFormula14
import Derived.Test.YthjkogighppeaaaKSetOfFormula11
import Derived.Test.YthjkogighppeaaaKSetOfFormula3
section
namespace Go.Proofs.Ythjkogighppeaaa
open Go.RowKit Go.Sort
set_option linter.unusedVariables false

set_option maxRecDepth 100000 in
set_option maxHeartbeats 8000000 in
theorem atomsIn_step (t : Fm) (hsz : szFm t ≤ 2097152) (hkl : t.kids.length ≤ 1048576) (ih : ∀ i, i < t.kids.length → NamesC 22 (fmAt t.kids i)) : NamesC 22 t := by
  obtain ⟨i0, hi0, hz0, hz1, hz2⟩ := info_parts int_infoM
  have HS := Lib.hid hz2
  clear hz2
  intro x w hx
  obtain ⟨B, e, rfl, hk⟩ := hx
  have hnm : Hid (namesFm t = insAll [] (ownF t.op t.fb ++ rawFms t.kids)) := Lib.hid (by unfold namesFm; rw [rawFm_eq])
  have hrl := rawFms_len t.kids
  have hse := szFm_eq t
  have hol := ownF_len t.op t.fb
  have HRT := Lib.hid (rawFms_take t.kids)
  have hrl2 : (rawFms t.kids).length ≤ 2097152 := by omega
  have hb1 : Below w.heap.size w ((w.alloc (.cells #[.int .i64 t.op, .int .i64 t.fa, .int .i64 t.fb, .slice B t.kids.length e] 34)).alloc (.cells #[] 3)) := ((Below.refl _ _).alloc (Nat.le_refl _) _).alloc (by simp) _
  have ho0 : ((w.alloc (.cells #[.int .i64 t.op, .int .i64 t.fa, .int .i64 t.fb, .slice B t.kids.length e] 34)).alloc (.cells #[] 3)).ownsRow (w.heap.size + 1) 3 1 (.slice (some ⟨w.heap.size + 1, 0, none⟩) 0 0) 0 [] := by
    have h := World.ownsRow_lit (w.alloc (.cells #[.int .i64 t.op, .int .i64 t.fa, .int .i64 t.fb, .slice B t.kids.length e] 34)) (e := 3) (size := 1) (base := w.heap.size + 1) #[] 0 (by simp) (by decide) rfl
    simpa using h
  have HKI := Lib.hid (fun i (hi : i < t.kids.length) => (show szFm (fmAt t.kids i) ≤ 2097152 from by have := szFm_at hi; omega))
  have HNX := Lib.hid (fun k (hk : k < t.kids.length) => rawFms_next hk)
  rw [show (namesFm t) = insAll [] (ownF t.op t.fb ++ rawFms t.kids) from hnm.out]
  clear hnm hrl hse hsz
  by_cases h2 : t.op = 2
  · have hop : (t.op == 2) = true := by simp [h2]
    have how : Hid (ownF t.op t.fb = [t.fb]) := Lib.hid (by simp [ownF, h2])
    generalize ownF t.op t.fb = W0 at *
    clear h2
    have hb2 := hb1.alloc hb1.size (.cells #[.int .i64 t.fb] 3)
    have ho1 := ho0.alloc (.cells #[.int .i64 t.fb] 3)
    have hbx : (((w.alloc (.cells #[.int .i64 t.op, .int .i64 t.fa, .int .i64 t.fb, .slice B t.kids.length e] 34)).alloc (.cells #[] 3)).alloc (.cells #[.int .i64 t.fb] 3)).cell? ⟨w.heap.size, 3, none⟩ = some (.slice B t.kids.length e) := by
      rw [(((Below.refl ((w.alloc (.cells #[.int .i64 t.op, .int .i64 t.fa, .int .i64 t.fb, .slice B t.kids.length e] 34)).alloc (.cells #[] 3)).heap.size ((w.alloc (.cells #[.int .i64 t.op, .int .i64 t.fa, .int .i64 t.fb, .slice B t.kids.length e] 34)).alloc (.cells #[] 3))).alloc (Nat.le_refl _) (.cells #[.int .i64 t.fb] 3)).cell (p := ⟨w.heap.size, 3, none⟩) (by simp; omega))]
      exact new_cell3 _ _ _ _ _ _ _
    have hsz9 : w.heap.size + 1 ≤ (((w.alloc (.cells #[.int .i64 t.op, .int .i64 t.fa, .int .i64 t.fb, .slice B t.kids.length e] 34)).alloc (.cells #[] 3)).alloc (.cells #[.int .i64 t.fb] 3)).heap.size := by simp
    have hcell : (((w.alloc (.cells #[.int .i64 t.op, .int .i64 t.fa, .int .i64 t.fb, .slice B t.kids.length e] 34)).alloc (.cells #[] 3)).alloc (.cells #[.int .i64 t.fb] 3)).cell? ⟨w.heap.size + 1 + 1, 0, none⟩ = some (.int .i64 t.fb) := (new_cell _ _ _ (w.heap.size + 1 + 1) (by simp))
    have HC := Lib.hid (one_cell hcell)
    have hsz3 : w.heap.size ≤ (((w.alloc (.cells #[.int .i64 t.op, .int .i64 t.fa, .int .i64 t.fb, .slice B t.kids.length e] 34)).alloc (.cells #[] 3)).alloc (.cells #[.int .i64 t.fb] 3)).heap.size := hb2.size
    clear ho0 hcell
    go_enter Try.func22, Try.ntmps22
    go_wp2_with (at_builtin; refine wpList_append_lies _ rfl (.tmp 10) (.tmp 13) 26 rfl (w.heap.size + 1) 3 i0 (.int .i64 0) 1 8 Try.underlying26 hi0 hz0 hz1 HS.out rfl (by decide) _ 0 _ rfl ho1 ⟨w.heap.size + 1 + 1, 0, none⟩ 1 1 [.int .i64 t.fb] rfl rfl HC.out (int_one _) (by decide) ?c3 ?c4 ?c5 _ rfl ?_)
    case c3 => unfold maxLen; omega
    case c4 => omega
    case c5 => first | exact hsz9 | omega | (simp <;> omega)
    intro g0 cap0 w3 ho3 hg3 _ _
    have hby : Below (w.heap.size + 1) _ w3 := below_own ((Below.refl _ _)) ho1 (Nat.le_refl _) hsz9 hg3
    have hb3 : Below w.heap.size w w3 := hb2.trans (hby.mono (Nat.le_succ _))
    have hbc := hby.cell (p := ⟨w.heap.size, 3, none⟩) (Nat.lt_succ_self _)
    rw [hbx] at hbc
    clear hb2 ho1 HC hsz3 hg3 hbx hby hsz9 hb1
    have hi0' : Hid (W0 ++ rawFms (t.kids.take 0) = [t.fb]) := Lib.hid (by rw [how.out]; rfl)
    have HST : Hid (∃ (k g cap : Nat), k ≤ t.kids.length ∧ Value.int .i64 0 = .int .i64 k ∧ Value.slice (some ⟨g0, 0, none⟩) 1 cap0 = .slice (some ⟨g, 0, none⟩) (W0 ++ rawFms (t.kids.take k)).length cap ∧ w3.ownsRow (w.heap.size + 1) 3 1 (Value.slice (some ⟨g0, 0, none⟩) 1 cap0) (W0 ++ rawFms (t.kids.take k)).length (icells (W0 ++ rawFms (t.kids.take k))) ∧ Below w.heap.size w w3) := Lib.hid ⟨0, g0, cap0, Nat.zero_le _, rfl, by rw [hi0'.out]; rfl, by rw [hi0'.out]; exact ho3, hb3⟩
    clear ho3 hb3 hi0'
    go_wp2
    go_loopw [3, 5, 18] (fun v3 _ i wr => ∃ (k g cap : Nat), k ≤ t.kids.length ∧ i = .int .i64 k ∧ v3 = .slice (some ⟨g, 0, none⟩) (W0 ++ rawFms (t.kids.take k)).length cap ∧ wr.ownsRow (w.heap.size + 1) 3 1 v3 (W0 ++ rawFms (t.kids.take k)).length (icells (W0 ++ rawFms (t.kids.take k))) ∧ Below w.heap.size w wr) (fun _ _ i _ => t.kids.length - (intOf i).toNat)
    case atStart => exact HST.out
    case round =>
      clear HST
      obtain ⟨k, g, cap, hk9, rfl, rfl, ho, hb⟩ := hrel
      by_cases hlt : k < t.kids.length
      · obtain ⟨b1, o1, rfl, hbl, hc1⟩ := (hk.below hb).get (by omega)
        obtain ⟨B1, e1, d0, d1, d2, d3, hk1⟩ := hc1 k hlt
        have hbx : Below wr.heap.size wr (wr.alloc (.cells #[.int .i64 (fmAt t.kids k).op, .int .i64 (fmAt t.kids k).fa, .int .i64 (fmAt t.kids k).fb, .slice B1 (fmAt t.kids k).kids.length e1] 34)) := (Below.refl _ _).alloc (Nat.le_refl _) _
        have hct := ih k hlt _ (wr.alloc (.cells #[.int .i64 (fmAt t.kids k).op, .int .i64 (fmAt t.kids k).fa, .int .i64 (fmAt t.kids k).fb, .slice B1 (fmAt t.kids k).kids.length e1] 34)) ⟨B1, e1, rfl, hk1.below hbx⟩
        have hnl := namesFm_len (fmAt t.kids k)
        have hki := HKI.out k hlt
        have hrt := HRT.out k
        have hil : (W0 ++ rawFms (t.kids.take k)).length ≤ 4194304 := by rw [List.length_append]; omega
        have hnl2 : (namesFm (fmAt t.kids k)).length ≤ 4194304 := by omega
        have hnx : Hid ((W0 ++ rawFms (t.kids.take k)) ++ namesFm (fmAt t.kids k) = W0 ++ rawFms (t.kids.take (k + 1))) := Lib.hid (by rw [HNX.out k hlt, List.append_assoc])
        generalize hL2 : W0 ++ rawFms (t.kids.take (k + 1)) = L2 at hnx
        have HL2 := Lib.hid hL2
        clear hL2
        generalize W0 ++ rawFms (t.kids.take k) = L1 at *
        generalize namesFm (fmAt t.kids k) = N1 at *
        generalize fmAt t.kids k = u at *
        have hs0 := hb.size
        have hoa := ho.alloc (.cells #[.int .i64 u.op, .int .i64 u.fa, .int .i64 u.fb, .slice B1 u.kids.length e1] 34)
        have hba := hb.alloc hb.size (.cells #[.int .i64 u.op, .int .i64 u.fa, .int .i64 u.fb, .slice B1 u.kids.length e1] 34)
        clear hc1
        go_wp2_with (first
          | (go_at_call 22; refine hct.mono ?_; rintro e w4 ⟨g4, cap4, rfl, ho4, hb4⟩; have hob := own_below hoa hb4; have hbb := hba.trans (hb4.mono hba.size); have HN := Lib.hid (ints_news (ints_own ho4)); have HL := Lib.hid (icells_len N1); have hs4 : w.heap.size + 1 ≤ w4.heap.size := (by have h1 := hb4.size; simp at h1; omega))
          | (at_builtin; refine wpList_append_own _ rfl (.tmp 22) (.tmp 24) 26 rfl (w.heap.size + 1) 3 i0 (.int .i64 0) 1 8 Try.underlying26 hi0 hz0 hz1 HS.out rfl (by decide) _ L1.length _ rfl hob ⟨g4, 0, none⟩ N1.length cap4 (icells N1) rfl (by rw [HL.out, Nat.mul_one]) HN.out (icells_one N1) ?c3 ?c4 ?c5 ?_))
        case c3 => unfold maxLen; omega
        case c4 => omega
        case c5 => exact hs4
        intro v5 w5 ho5 hg5 hnn
        have hb5 : Below w.heap.size w w5 := below_own hbb hob (Nat.le_succ _) (by omega) hg5
        have hln : L1.length + N1.length = L2.length := by rw [← hnx.out, List.length_append]
        have hcl : icells L1 ++ icells N1 = icells L2 := by rw [← hnx.out]; simp [icells]
        rw [hln, hcl] at ho5
        obtain ⟨g5, cap5, rfl⟩ : ∃ g cap, v5 = .slice (some ⟨g, 0, none⟩) L2.length cap := by
          rcases ho5.2 with ⟨e, _⟩ | ⟨g, cap, cur, e, _⟩
          · exact absurd e (by simpa using hnn)
          · exact ⟨g, cap, e⟩
        have HO5 := Lib.hid ho5
        clear hct hoa hob ho hb hba hbb hb4 ho4 ho5 hk1 d0 d1 d2 d3 hbx hg5 hnn hln hcl HN HL
        go_wp2
        refine ⟨⟨k + 1, g5, cap5, by omega, by go_num, by rw [HL2.out], by rw [HL2.out]; exact HO5.out, hb5⟩, ?_⟩
        simp only [intOf]
        omega
      · have e : k = t.kids.length := by omega
        subst e
        rw [List.take_length] at ho ⊢
        have hzl : (W0 ++ rawFms t.kids).length ≤ 1099511627776 := by rw [List.length_append]; omega
        generalize W0 ++ rawFms t.kids = Z at *
        have hasc := ascending_any (w.heap.size + 1) g cap Z wr ho hzl
        have hbw := fun (w6 : World) (hg6 : wr.grownBy w6 (some g)) => (below_own hb ho (Nat.le_succ _) hb.size hg6)
        clear ho hb hk
        go_wp2_with (go_at_call 45; refine hasc.mono ?_; rintro e w6 ⟨rfl, ho6, hg6⟩)
        have hpost : InsPost w.heap.size (insAll [] Z) w (.returned (.slice (some ⟨g, 0, none⟩) (insAll [] Z).length cap)) w6 := ⟨g, cap, rfl, own_le ho6 (Nat.le_succ _), hbw w6 hg6⟩
        clear hasc hbw ho6 hg6
        go_wp2
        go_ret
        exact hpost

  · have hop : (t.op == 2) = false := by simp [h2]
    have how : Hid (ownF t.op t.fb = []) := Lib.hid (by simp [ownF, h2])
    generalize ownF t.op t.fb = W0 at *
    clear h2
    have hi0' : Hid (W0 ++ rawFms (t.kids.take 0) = []) := Lib.hid (by rw [how.out]; rfl)
    have HST : Hid (∃ (k g cap : Nat), k ≤ t.kids.length ∧ Value.int .i64 0 = .int .i64 k ∧ Value.slice (some ⟨w.heap.size + 1, 0, none⟩) 0 0 = .slice (some ⟨g, 0, none⟩) (W0 ++ rawFms (t.kids.take k)).length cap ∧ ((w.alloc (.cells #[.int .i64 t.op, .int .i64 t.fa, .int .i64 t.fb, .slice B t.kids.length e] 34)).alloc (.cells #[] 3)).ownsRow (w.heap.size + 1) 3 1 (Value.slice (some ⟨w.heap.size + 1, 0, none⟩) 0 0) (W0 ++ rawFms (t.kids.take k)).length (icells (W0 ++ rawFms (t.kids.take k))) ∧ Below w.heap.size w ((w.alloc (.cells #[.int .i64 t.op, .int .i64 t.fa, .int .i64 t.fb, .slice B t.kids.length e] 34)).alloc (.cells #[] 3))) := Lib.hid ⟨0, w.heap.size + 1, 0, Nat.zero_le _, rfl, by rw [hi0'.out]; rfl, by rw [hi0'.out]; exact ho0, hb1⟩
    clear ho0 hb1 hi0'
    go_enter Try.func22, Try.ntmps22
    go_wp2
    go_loopw [3, 5, 18] (fun v3 _ i wr => ∃ (k g cap : Nat), k ≤ t.kids.length ∧ i = .int .i64 k ∧ v3 = .slice (some ⟨g, 0, none⟩) (W0 ++ rawFms (t.kids.take k)).length cap ∧ wr.ownsRow (w.heap.size + 1) 3 1 v3 (W0 ++ rawFms (t.kids.take k)).length (icells (W0 ++ rawFms (t.kids.take k))) ∧ Below w.heap.size w wr) (fun _ _ i _ => t.kids.length - (intOf i).toNat)
    case atStart => exact HST.out
    case round =>
      clear HST
      obtain ⟨k, g, cap, hk9, rfl, rfl, ho, hb⟩ := hrel
      by_cases hlt : k < t.kids.length
      · obtain ⟨b1, o1, rfl, hbl, hc1⟩ := (hk.below hb).get (by omega)
        obtain ⟨B1, e1, d0, d1, d2, d3, hk1⟩ := hc1 k hlt
        have hbx : Below wr.heap.size wr (wr.alloc (.cells #[.int .i64 (fmAt t.kids k).op, .int .i64 (fmAt t.kids k).fa, .int .i64 (fmAt t.kids k).fb, .slice B1 (fmAt t.kids k).kids.length e1] 34)) := (Below.refl _ _).alloc (Nat.le_refl _) _
        have hct := ih k hlt _ (wr.alloc (.cells #[.int .i64 (fmAt t.kids k).op, .int .i64 (fmAt t.kids k).fa, .int .i64 (fmAt t.kids k).fb, .slice B1 (fmAt t.kids k).kids.length e1] 34)) ⟨B1, e1, rfl, hk1.below hbx⟩
        have hnl := namesFm_len (fmAt t.kids k)
        have hki := HKI.out k hlt
        have hrt := HRT.out k
        have hil : (W0 ++ rawFms (t.kids.take k)).length ≤ 4194304 := by rw [List.length_append]; omega
        have hnl2 : (namesFm (fmAt t.kids k)).length ≤ 4194304 := by omega
        have hnx : Hid ((W0 ++ rawFms (t.kids.take k)) ++ namesFm (fmAt t.kids k) = W0 ++ rawFms (t.kids.take (k + 1))) := Lib.hid (by rw [HNX.out k hlt, List.append_assoc])
        generalize hL2 : W0 ++ rawFms (t.kids.take (k + 1)) = L2 at hnx
        have HL2 := Lib.hid hL2
        clear hL2
        generalize W0 ++ rawFms (t.kids.take k) = L1 at *
        generalize namesFm (fmAt t.kids k) = N1 at *
        generalize fmAt t.kids k = u at *
        have hs0 := hb.size
        have hoa := ho.alloc (.cells #[.int .i64 u.op, .int .i64 u.fa, .int .i64 u.fb, .slice B1 u.kids.length e1] 34)
        have hba := hb.alloc hb.size (.cells #[.int .i64 u.op, .int .i64 u.fa, .int .i64 u.fb, .slice B1 u.kids.length e1] 34)
        clear hc1
        go_wp2_with (first
          | (go_at_call 22; refine hct.mono ?_; rintro e w4 ⟨g4, cap4, rfl, ho4, hb4⟩; have hob := own_below hoa hb4; have hbb := hba.trans (hb4.mono hba.size); have HN := Lib.hid (ints_news (ints_own ho4)); have HL := Lib.hid (icells_len N1); have hs4 : w.heap.size + 1 ≤ w4.heap.size := (by have h1 := hb4.size; simp at h1; omega))
          | (at_builtin; refine wpList_append_own _ rfl (.tmp 22) (.tmp 24) 26 rfl (w.heap.size + 1) 3 i0 (.int .i64 0) 1 8 Try.underlying26 hi0 hz0 hz1 HS.out rfl (by decide) _ L1.length _ rfl hob ⟨g4, 0, none⟩ N1.length cap4 (icells N1) rfl (by rw [HL.out, Nat.mul_one]) HN.out (icells_one N1) ?c3 ?c4 ?c5 ?_))
        case c3 => unfold maxLen; omega
        case c4 => omega
        case c5 => exact hs4
        intro v5 w5 ho5 hg5 hnn
        have hb5 : Below w.heap.size w w5 := below_own hbb hob (Nat.le_succ _) (by omega) hg5
        have hln : L1.length + N1.length = L2.length := by rw [← hnx.out, List.length_append]
        have hcl : icells L1 ++ icells N1 = icells L2 := by rw [← hnx.out]; simp [icells]
        rw [hln, hcl] at ho5
        obtain ⟨g5, cap5, rfl⟩ : ∃ g cap, v5 = .slice (some ⟨g, 0, none⟩) L2.length cap := by
          rcases ho5.2 with ⟨e, _⟩ | ⟨g, cap, cur, e, _⟩
          · exact absurd e (by simpa using hnn)
          · exact ⟨g, cap, e⟩
        have HO5 := Lib.hid ho5
        clear hct hoa hob ho hb hba hbb hb4 ho4 ho5 hk1 d0 d1 d2 d3 hbx hg5 hnn hln hcl HN HL
        go_wp2
        refine ⟨⟨k + 1, g5, cap5, by omega, by go_num, by rw [HL2.out], by rw [HL2.out]; exact HO5.out, hb5⟩, ?_⟩
        simp only [intOf]
        omega
      · have e : k = t.kids.length := by omega
        subst e
        rw [List.take_length] at ho ⊢
        have hzl : (W0 ++ rawFms t.kids).length ≤ 1099511627776 := by rw [List.length_append]; omega
        generalize W0 ++ rawFms t.kids = Z at *
        have hasc := ascending_any (w.heap.size + 1) g cap Z wr ho hzl
        have hbw := fun (w6 : World) (hg6 : wr.grownBy w6 (some g)) => (below_own hb ho (Nat.le_succ _) hb.size hg6)
        clear ho hb hk
        go_wp2_with (go_at_call 45; refine hasc.mono ?_; rintro e w6 ⟨rfl, ho6, hg6⟩)
        have hpost : InsPost w.heap.size (insAll [] Z) w (.returned (.slice (some ⟨g, 0, none⟩) (insAll [] Z).length cap)) w6 := ⟨g, cap, rfl, own_le ho6 (Nat.le_succ _), hbw w6 hg6⟩
        clear hasc hbw ho6 hg6
        go_wp2
        go_ret
        exact hpost


theorem kids_le (t : Fm) : t.kids.length + 1 ≤ szFm t := by
  have h1 := szFm_eq t
  have h2 := szFms_cnt t.kids
  omega
theorem kid_less {t : Fm} {i : Nat} (h : i < t.kids.length) : szFm (fmAt t.kids i) < szFm t := by
  have h1 := szFm_eq t
  have h2 := szFm_at h
  omega

/-- The atoms that a formula names, in the program. -/
theorem atomsIn_any : ∀ (n : Nat) (t : Fm), szFm t ≤ n → n ≤ 1048577 → NamesC 22 t
  | 0, t, h, _ => by have := kids_le t; omega
  | n + 1, t, h, hn => atomsIn_step t (by omega) (by have := kids_le t; omega) fun i hi => atomsIn_any n (fmAt t.kids i) (by have := kid_less hi; omega) (by omega)
/-- The same, in the model. -/
theorem l6Names_any : ∀ (n : Nat) (t : Fm), szFm t ≤ n → n ≤ 1048577 → NamesC 15 t
  | 0, t, h, _ => by have := kids_le t; omega
  | n + 1, t, h, hn => l6Names_step t (by omega) (by have := kids_le t; omega) fun i hi => l6Names_any n (fmAt t.kids i) (by have := kid_less hi; omega) (by omega)

theorem fmRow4 {w : World} {g : Nat} {a b c d : Value} {T : TypeId} (h : w.heap[g]? = some (.cells #[a, b, c, d] T (0, 0))) : w.cell? ⟨g, 0, none⟩ = some a ∧ w.cell? ⟨g, 1, none⟩ = some b ∧ w.cell? ⟨g, 2, none⟩ = some c ∧ w.cell? ⟨g, 3, none⟩ = some d := by
  refine ⟨?_, ?_, ?_, ?_⟩ <;> rw [cell_of_row w g _ _ _ _ h] <;> rfl
/-- Whether a value is a formula of a width. -/
def isFmB (z : Int) (t : Fm) : Bool := fwB 6 z t && decide ((namesFm t).length ≤ 3)

set_option maxRecDepth 100000 in
set_option maxHeartbeats 2000000 in
theorem isFormula_impl (t : Fm) (z : Int) (x : Value) (w : World) (hc : cntFm t ≤ 1048576) (hx : FmIn w x t) :
    Calls Try.prog 21 #[x, .int .i64 z] w (BoolP (isFmB z t) w) := by
  have hf := fitFm_of t hc
  have hX := hx
  obtain ⟨B, e, rfl, hk⟩ := hx
  have hb0 : Below w.heap.size w (w.alloc (.cells #[.int .i64 t.op, .int .i64 t.fa, .int .i64 t.fb, .slice B t.kids.length e] 34)) := (Below.refl _ _).alloc (Nat.le_refl _) _
  have k0 := heap_alloc_new w (.cells #[.int .i64 t.op, .int .i64 t.fa, .int .i64 t.fb, .slice B t.kids.length e] 34)
  have hwt := within_any 6 (Nat.le_refl _) 6 rfl t z _ _ hf (hX.below hb0)
  have hat := fun W (h : Below w.heap.size w W) => atomsIn_any 1048577 t (by have := szFm_cnt t; omega) (Nat.le_refl _) _ W (hX.below h)
  have HN := Lib.hid (namesFm_len t)
  have hsz := szFm_cnt t
  have hlen : (namesFm t).length ≤ 1048577 := by have := HN.out; omega
  unfold isFmB
  generalize fwB 6 z t = r at *
  generalize namesFm t = N1 at *
  have HB0 := Lib.hid hb0
  clear HN hsz hf hX hk hc
  cases r with
  | false =>
    go_enter Try.func21, Try.ntmps21
    go_wp2_with (go_at_call 44; refine hwt.mono ?_; rintro e w2 ⟨rfl, hb2⟩; have hb3 := HB0.out.trans (hb2.mono HB0.out.size))
    go_ret
    exact ⟨rfl, hb3⟩
  | true =>
    go_enter Try.func21, Try.ntmps21
    go_wp2_with (go_at_call 44; refine hwt.mono ?_; rintro e w2 ⟨rfl, hb2⟩; have hb3 := HB0.out.trans (hb2.mono HB0.out.size); have k2 := (hb2.block _ (OrbK.box_lt k0)).trans k0; obtain ⟨m0, m1, m2, m3⟩ := fmRow4 k2)
    refine (hat _ hb3).mono ?_
    rintro e w4 ⟨g4, cap4, rfl, ho4, hb4⟩
    have hb5 := hb3.trans (hb4.mono hb3.size)
    clear hat ho4 hb4 hb3 hb2 k2 k0 m0 m1 m2 m3 hwt hb0
    go_wp2
    go_ret
    exact ⟨bool_end (by rw [Bool.eq_iff_iff]; simp; omega), hb5⟩
end Go.Proofs.Ythjkogighppeaaa
end

section
namespace Go.Proofs.Ythjkogighppeaaa
open Go.RowKit Go.Sort
set_option linter.unusedVariables false

theorem alone_none {P : Fm → Bool} {n : Int} {t : Fm} (hP : ∀ u, P u = false) (hn : 1 ≤ n) : aloneB P n t = false := by
  unfold aloneB
  by_cases h : (t.kids.length : Int) = n
  · rw [show t.kids.all P = false from allF_no (k := 0) (by omega) (hP _)]; simp
  · simp [h]
theorem fw_wide {d : Nat} {z : Int} (h : 4 < z) (u : Fm) : fwB d z u = false := by
  cases d with
  | zero => rfl
  | succ d => exact fw_no (by simp [widB]; omega)
theorem fw_same {d : Nat} {z' n : Int} {t : Fm} (hn : 1 ≤ n) : aloneB (fwB d z') n t = (decide (1 < d + 1) && decide (z' ≤ 4) && aloneB (fwB d z') n t) := by
  by_cases h1 : d = 0
  · subst h1
    rw [alone_none (P := fwB 0 z') (fun u => rfl) hn]; simp
  · by_cases h2 : z' ≤ 4
    · simp [h2]; omega
    · rw [alone_none (P := fwB d z') (fun u => fw_wide (by omega) u) hn]; simp
theorem fw_is {d : Nat} {z z' n o a b : Int} {ks : List Fm} (h0 : 0 ≤ z) (h4 : z ≤ 4)
    (h : (o = 3 ∧ n = 1 ∧ z' = z) ∨ (o = 4 ∧ n = 2 ∧ z' = z) ∨ (o = 5 ∧ n = 2 ∧ z' = z) ∨ (o = 6 ∧ n = 1 ∧ z' = z + 1) ∨ (o = 7 ∧ n = 1 ∧ z' = z + 1)) :
    fwB d z (.mk o a b ks) = (decide (1 < d) && decide (z' ≤ 4) && aloneB (fwB (d - 1) z') n (.mk o a b ks)) := by
  cases d with
  | zero => rfl
  | succ d =>
    rw [fw_yes (widB_iff.2 ⟨h0, h4⟩), Nat.add_sub_cancel]
    rcases h with ⟨rfl, rfl, rfl⟩ | ⟨rfl, rfl, rfl⟩ | ⟨rfl, rfl, rfl⟩ | ⟨rfl, rfl, rfl⟩ | ⟨rfl, rfl, rfl⟩
    all_goals exact (by simp only [Int.reduceEq, if_true, if_false]; exact fw_same (by decide))
theorem fw_none {d : Nat} {z z' n o a b : Int} {ks : List Fm} (h0 : 0 ≤ z) (h4 : z ≤ 4)
    (h : (o = 3 ∧ n = 1 ∧ z' = z) ∨ (o = 4 ∧ n = 2 ∧ z' = z) ∨ (o = 5 ∧ n = 2 ∧ z' = z) ∨ (o = 6 ∧ n = 1 ∧ z' = z + 1) ∨ (o = 7 ∧ n = 1 ∧ z' = z + 1))
    (hn : (ks.length : Int) ≠ n ∨ a ≠ 0 ∨ b ≠ 0 ∨ d ≤ 1 ∨ 4 < z' ∨ ks.all (fwB (d - 1) z') = false) : fwB d z (.mk o a b ks) = false := by
  rw [fw_is h0 h4 h]
  unfold aloneB
  simp only [Fm.fa, Fm.fb, Fm.kids]
  rcases hn with hn | hn | hn | hn | hn | hn
  · simp [hn]
  · simp [hn]
  · simp [hn]
  · have : ¬ 1 < d := by omega
    simp [this]
  · have : ¬ z' ≤ 4 := by omega
    simp [this]
  · simp [hn]
theorem fw_some {d : Nat} {z z' n o : Int} {ks : List Fm} (h0 : 0 ≤ z) (h4 : z ≤ 4)
    (h : (o = 3 ∧ n = 1 ∧ z' = z) ∨ (o = 4 ∧ n = 2 ∧ z' = z) ∨ (o = 5 ∧ n = 2 ∧ z' = z) ∨ (o = 6 ∧ n = 1 ∧ z' = z + 1) ∨ (o = 7 ∧ n = 1 ∧ z' = z + 1))
    (hl : (ks.length : Int) = n) (hd : 1 < d) (hz : z' ≤ 4) (ha : ks.all (fwB (d - 1) z') = true) : fwB d z (.mk o 0 0 ks) = true := by
  rw [fw_is h0 h4 h]
  unfold aloneB
  simp only [Fm.fa, Fm.fb, Fm.kids]
  simp [hl, hd, hz, ha]
theorem fw_leaf {d : Nat} {z a b : Int} {ks : List Fm} (h0 : 0 ≤ z) (h4 : z ≤ 4) : fwB d z (.mk 1 a b ks) = ((placeB a z && placeB b z) && decide (ks.length = 0) && decide (0 < d)) := by
  cases d with
  | zero => simp [fwB]
  | succ d => rw [fw_yes (widB_iff.2 ⟨h0, h4⟩)]; simp [leafB, Fm.kids]
theorem fw_leaf2 {d : Nat} {z a b : Int} {ks : List Fm} (h0 : 0 ≤ z) (h4 : z ≤ 4) : fwB d z (.mk 2 a b ks) = ((placeB a z && atomB b) && decide (ks.length = 0) && decide (0 < d)) := by
  cases d with
  | zero => simp [fwB]
  | succ d => rw [fw_yes (widB_iff.2 ⟨h0, h4⟩)]; simp [leafB, Fm.kids]
theorem fw_other {d : Nat} {z o a b : Int} {ks : List Fm} (h0 : 0 ≤ z) (h4 : z ≤ 4) (h1 : o ≠ 1) (h2 : o ≠ 2) (h3 : o ≠ 3) (h5 : o ≠ 4) (h6 : o ≠ 5) (h7 : o ≠ 6) (h8 : o ≠ 7) : fwB d z (.mk o a b ks) = false := by
  cases d with
  | zero => simp [fwB]
  | succ d => rw [fw_yes (widB_iff.2 ⟨h0, h4⟩)]; simp [h1, h2, h3, h5, h6, h7, h8]

/-- The contract that is handed down. -/
def RightC (d : Nat) : Prop := ∀ (D : Int), D = d → ∀ (t : Fm) (z : Int) (x : Value) (w : World), 0 ≤ z → z ≤ 4 → FitFm t → FmIn w x t → Calls Try.prog 38 #[x, .int .i64 z, .int .i64 D] w (BoolP (fwB d z t) w)

set_option maxRecDepth 100000 in
set_option maxHeartbeats 4000000 in
theorem right_leaf1 (d : Nat) (hd : d ≤ 6) (D : Int) (hD : D = d) (z a b : Int) (B : Option Addr) (e : Nat) (ks : List Fm) (w : World) (h0 : 0 ≤ z) (h4 : z ≤ 4) :
    Calls Try.prog 38 #[.agg #[.int .i64 1, .int .i64 a, .int .i64 b, .slice B ks.length e], .int .i64 z, .int .i64 D] w (BoolP (fwB d z (.mk 1 a b ks)) w) := by
  have hb0 : Below w.heap.size w (w.alloc (.cells #[.int .i64 1, .int .i64 a, .int .i64 b, .slice B ks.length e] 34)) := (Below.refl _ _).alloc (Nat.le_refl _) _
  have hpa := fun W => l1In_any a 0 (z - 1) W
  have hpb := fun W => l1In_any b 0 (z - 1) W
  have ea : decide ((0 : Int) ≤ a ∧ a ≤ z - 1) = placeB a z := by unfold placeB; congr 1; rw [eq_iff_iff]; constructor <;> (intro h; omega)
  rw [ea] at hpa
  have eb : decide ((0 : Int) ≤ b ∧ b ≤ z - 1) = placeB b z := by unfold placeB; congr 1; rw [eq_iff_iff]; constructor <;> (intro h; omega)
  rw [eb] at hpb
  have hn := Lib.hid (fw_leaf (d := d) (a := a) (b := b) (ks := ks) h0 h4)
  rw [hn.out]
  clear hn ea eb
  have hdd : decide (0 < d) = decide (0 < D) := by rw [decide_eq_decide]; omega
  rw [hdd]
  clear hdd
  have hD0 : 0 ≤ D := by omega
  have hD6 : D ≤ 6 := by omega
  clear hD hd
  generalize placeB a z = p1 at *
  generalize placeB b z = p2 at *
  cases p1 with
  | false =>
    go_enter Try.func38, Try.ntmps38
    go_wp2_with (go_at_call 37; refine (hpa _).mono ?_; rintro e w2 ⟨rfl, rfl⟩)
    go_ret
    exact ⟨rfl, hb0⟩
  | true =>
    cases p2 with
    | false =>
      go_enter Try.func38, Try.ntmps38
      go_wp2_with (first
        | (go_at_call_of 37 a; refine (hpa _).mono ?_; rintro e w2 ⟨rfl, rfl⟩)
        | (go_at_call_of 37 b; refine (hpb _).mono ?_; rintro e w2 ⟨rfl, rfl⟩))
      go_ret
      exact ⟨rfl, hb0⟩
    | true =>
      by_cases hk : ks.length = 0
      · rw [hk] at hb0 ⊢
        go_enter Try.func38, Try.ntmps38
        go_wp2_with (first
          | (go_at_call_of 37 a; refine (hpa _).mono ?_; rintro e w2 ⟨rfl, rfl⟩)
          | (go_at_call_of 37 b; refine (hpb _).mono ?_; rintro e w2 ⟨rfl, rfl⟩))
        go_ret
        exact ⟨bool_end (by first | rfl | (rw [Bool.eq_iff_iff]; simp) | (simp; omega)), hb0⟩
      · have hk2 : ¬ ((ks.length : Int) = 0) := by omega
        go_enter Try.func38, Try.ntmps38
        go_wp2_with (first
          | (go_at_call_of 37 a; refine (hpa _).mono ?_; rintro e w2 ⟨rfl, rfl⟩)
          | (go_at_call_of 37 b; refine (hpb _).mono ?_; rintro e w2 ⟨rfl, rfl⟩))
        go_ret
        exact ⟨bool_end (by simp [hk]), hb0⟩

set_option maxRecDepth 100000 in
set_option maxHeartbeats 4000000 in
theorem right_leaf2 (d : Nat) (hd : d ≤ 6) (D : Int) (hD : D = d) (z a b : Int) (B : Option Addr) (e : Nat) (ks : List Fm) (w : World) (h0 : 0 ≤ z) (h4 : z ≤ 4) :
    Calls Try.prog 38 #[.agg #[.int .i64 2, .int .i64 a, .int .i64 b, .slice B ks.length e], .int .i64 z, .int .i64 D] w (BoolP (fwB d z (.mk 2 a b ks)) w) := by
  have hb0 : Below w.heap.size w (w.alloc (.cells #[.int .i64 2, .int .i64 a, .int .i64 b, .slice B ks.length e] 34)) := (Below.refl _ _).alloc (Nat.le_refl _) _
  have hpa := fun W => l1In_any a 0 (z - 1) W
  have hpb := fun W => l1Atom_any b W
  have ea : decide ((0 : Int) ≤ a ∧ a ≤ z - 1) = placeB a z := by unfold placeB; congr 1; rw [eq_iff_iff]; constructor <;> (intro h; omega)
  rw [ea] at hpa
  have hn := Lib.hid (fw_leaf2 (d := d) (a := a) (b := b) (ks := ks) h0 h4)
  rw [hn.out]
  clear hn ea 
  have hdd : decide (0 < d) = decide (0 < D) := by rw [decide_eq_decide]; omega
  rw [hdd]
  clear hdd
  have hD0 : 0 ≤ D := by omega
  have hD6 : D ≤ 6 := by omega
  clear hD hd
  generalize placeB a z = p1 at *
  generalize atomB b = p2 at *
  cases p1 with
  | false =>
    go_enter Try.func38, Try.ntmps38
    go_wp2_with (go_at_call 37; refine (hpa _).mono ?_; rintro e w2 ⟨rfl, rfl⟩)
    go_ret
    exact ⟨rfl, hb0⟩
  | true =>
    cases p2 with
    | false =>
      go_enter Try.func38, Try.ntmps38
      go_wp2_with (first
        | (go_at_call_of 37 a; refine (hpa _).mono ?_; rintro e w2 ⟨rfl, rfl⟩)
        | (go_at_call 57; refine (hpb _).mono ?_; rintro e w2 ⟨rfl, rfl⟩))
      go_ret
      exact ⟨rfl, hb0⟩
    | true =>
      by_cases hk : ks.length = 0
      · rw [hk] at hb0 ⊢
        go_enter Try.func38, Try.ntmps38
        go_wp2_with (first
          | (go_at_call_of 37 a; refine (hpa _).mono ?_; rintro e w2 ⟨rfl, rfl⟩)
          | (go_at_call 57; refine (hpb _).mono ?_; rintro e w2 ⟨rfl, rfl⟩))
        go_ret
        exact ⟨bool_end (by first | rfl | (rw [Bool.eq_iff_iff]; simp) | (simp; omega)), hb0⟩
      · have hk2 : ¬ ((ks.length : Int) = 0) := by omega
        go_enter Try.func38, Try.ntmps38
        go_wp2_with (first
          | (go_at_call_of 37 a; refine (hpa _).mono ?_; rintro e w2 ⟨rfl, rfl⟩)
          | (go_at_call 57; refine (hpb _).mono ?_; rintro e w2 ⟨rfl, rfl⟩))
        go_ret
        exact ⟨bool_end (by simp [hk]), hb0⟩

set_option maxRecDepth 100000 in
set_option maxHeartbeats 8000000 in
theorem right_kids3 (d : Nat) (hd : d ≤ 6) (ih : ∀ d', d' + 1 = d → RightC d') (D : Int) (hD : D = d) (z a b : Int) (B : Option Addr) (e : Nat) (ks : List Fm) (w : World) (h0 : 0 ≤ z) (h4 : z ≤ 4) (hf : FitFms ks) (hk : FmsIn w (.slice B ks.length e) ks) :
    Calls Try.prog 38 #[.agg #[.int .i64 3, .int .i64 a, .int .i64 b, .slice B ks.length e], .int .i64 z, .int .i64 D] w (BoolP (fwB d z (.mk 3 a b ks)) w) := by
  have hb0 : Below w.heap.size w (w.alloc (.cells #[.int .i64 3, .int .i64 a, .int .i64 b, .slice B ks.length e] 34)) := (Below.refl _ _).alloc (Nat.le_refl _) _
  have hD0 : 0 ≤ D := by omega
  have hD6 : D ≤ 6 := by omega
  by_cases hl : (ks.length : Int) = 1
  · have hkn : ks.length = 1 := by omega
    by_cases ha : a = 0
    · by_cases hb : b = 0
      · by_cases hd1 : D ≤ 1
        · have hn := Lib.hid (fw_none (d := d) (a := a) (b := b) (ks := ks) (n := 1) (z' := z) h0 h4 (.inl ⟨rfl, rfl, rfl⟩) (.inr (.inr (.inr (.inl (by omega))))))
          rw [hn.out]
          subst ha hb
          rw [hkn] at hb0 ⊢
          clear hk hf ih hn hD hl hkn
          go_enter Try.func38, Try.ntmps38
          go_wp2
          go_ret
          exact ⟨rfl, hb0⟩
        · by_cases hm : z ≤ 4
          · subst ha hb
            have hih := ih (d - 1) (by omega) (D - 1) (by omega)
            have hyes := Lib.hid (fun (h : ks.all (fwB (d - 1) z) = true) => fw_some (d := d) (ks := ks) (n := 1) (z' := z) h0 h4 (.inl ⟨rfl, rfl, rfl⟩) (by omega) (by omega) hm h)
            have hno := Lib.hid (fun (h : ks.all (fwB (d - 1) z) = false) => fw_none (d := d) (a := 0) (b := 0) (ks := ks) (n := 1) (z' := z) h0 h4 (.inl ⟨rfl, rfl, rfl⟩) (.inr (.inr (.inr (.inr (.inr h))))))
            have hd2 : 1 < D := by omega
            have hfa := Lib.hid (fun i (h : i < ks.length) => fitFms_at hf h)
            have hk2 := hk
            generalize fwB d z (.mk 3 0 0 ks) = RES at *
            generalize d - 1 = dd at *
            have HB0 := Lib.hid hb0
            clear hD hd hd1 ih hf hb0 hk
            have hkz : Value.slice B ks.length e = Value.slice B 1 e := by rw [hkn]
            have hli : Hid ((ks.length : Int) = 1) := hl
            have hlk : Hid (ks.length = 1) := hkn
            rw [hkz] at hk2 HB0 ⊢
            clear hkz hl hkn
            go_enter Try.func38, Try.ntmps38
            go_wp2
            go_loopw [10, 100] (fun _ i wr => ∃ k : Nat, k ≤ 1 ∧ i = .int .i64 k ∧ Hid (∀ j, j < k → fwB dd z (fmAt ks j) = true) ∧ Below w.heap.size w wr) (fun _ i _ => 1 - (intOf i).toNat)
            case atStart => exact ⟨0, Nat.zero_le _, rfl, Lib.hid (fun j hj => absurd hj (by omega)), HB0.out⟩
            case round =>
              obtain ⟨k, hkl, rfl, hq, hb⟩ := hrel
              by_cases hlt : k < 1
              · obtain ⟨b1, o1, rfl, hbl, hc1⟩ := (hk2.below hb).get (by have := hlk.out; omega)
                obtain ⟨B1, e1, d0, d1, d2, d3, hk1⟩ := hc1 k (by have := hlk.out; omega)
                have hfk := hfa.out k (by have := hlk.out; omega)
                have hbx : Below wr.heap.size wr (wr.alloc (.cells #[.int .i64 (fmAt ks k).op, .int .i64 (fmAt ks k).fa, .int .i64 (fmAt ks k).fb, .slice B1 (fmAt ks k).kids.length e1] 34)) := (Below.refl _ _).alloc (Nat.le_refl _) _
                have hct := hih (fmAt ks k) z _ (wr.alloc (.cells #[.int .i64 (fmAt ks k).op, .int .i64 (fmAt ks k).fa, .int .i64 (fmAt ks k).fb, .slice B1 (fmAt ks k).kids.length e1] 34)) (by omega) hm hfk ⟨B1, e1, rfl, hk1.below hbx⟩
                have hqs := Lib.hid (fun (h : fwB dd z (fmAt ks k) = true) => (show ∀ j, j < k + 1 → fwB dd z (fmAt ks j) = true from fun j hj => by
                  by_cases e : j = k
                  · rw [e]; exact h
                  · exact hq.out j (by omega)))
                have hqn := Lib.hid (fun (h : fwB dd z (fmAt ks k) = false) => hno.out (allF_no (by have := hlk.out; omega) h))
                have hba := hb.alloc hb.size (.cells #[.int .i64 (fmAt ks k).op, .int .i64 (fmAt ks k).fa, .int .i64 (fmAt ks k).fb, .slice B1 (fmAt ks k).kids.length e1] 34)
                generalize fwB dd z (fmAt ks k) = r at *
                generalize fmAt ks k = u at *
                clear hc1 hk1 hbx hfk hq
                cases r with
                | false =>
                  have hre := hqn.out rfl
                  clear hqs hqn
                  go_wp2_with (go_at_call 38; refine hct.mono ?_; rintro e w4 ⟨rfl, hb4⟩; have hb5 := hba.trans (hb4.mono hba.size))
                  go_ret
                  exact ⟨bool_end hre.symm, hb5⟩
                | true =>
                  have hqq := Lib.hid (hqs.out rfl)
                  clear hqs hqn
                  go_wp2_with (go_at_call 38; refine hct.mono ?_; rintro e w4 ⟨rfl, hb4⟩; have hb5 := hba.trans (hb4.mono hba.size))
                  clear hct hb4 hba hb d0 d1 d2 d3
                  refine ⟨⟨k + 1, by omega, by go_num, hqq, hb5⟩, ?_⟩
                  simp only [intOf]
                  omega
              · have e : k = 1 := by omega
                subst e
                have hre := hyes.out (allF_yes fun j hj => hq.out j (by have := hlk.out; omega))
                clear hq hk2 hih
                go_wp2
                go_ret
                exact ⟨bool_end hre.symm, hb⟩
          · have hn := Lib.hid (fw_none (d := d) (a := a) (b := b) (ks := ks) (n := 1) (z' := z) h0 h4 (.inl ⟨rfl, rfl, rfl⟩) (.inr (.inr (.inr (.inr (.inl (by omega)))))))
            rw [hn.out]
            subst ha hb
            rw [hkn] at hb0 ⊢
            have hm2 : 4 < z := by omega
            have hd2 : 1 < D := by omega
            clear hk hf ih hn hD hl hkn hd hm hd1
            omega
            
            
            
      · have hn := Lib.hid (fw_none (d := d) (a := a) (b := b) (ks := ks) (n := 1) (z' := z) h0 h4 (.inl ⟨rfl, rfl, rfl⟩) (.inr (.inr (.inl hb))))
        rw [hn.out]
        have hbb : (b != 0) = true := by simp [hb]
        subst ha
        rw [hkn] at hb0 ⊢
        clear hk hf ih hn hD hl hkn
        go_enter Try.func38, Try.ntmps38
        go_wp2
        go_ret
        exact ⟨rfl, hb0⟩
    · have hn := Lib.hid (fw_none (d := d) (a := a) (b := b) (ks := ks) (n := 1) (z' := z) h0 h4 (.inl ⟨rfl, rfl, rfl⟩) (.inr (.inl ha)))
      rw [hn.out]
      have haa : (a != 0) = true := by simp [ha]
      rw [hkn] at hb0 ⊢
      clear hk hf ih hn hD hl hkn
      go_enter Try.func38, Try.ntmps38
      go_wp2
      go_ret
      exact ⟨rfl, hb0⟩
  · have hn := Lib.hid (fw_none (d := d) (a := a) (b := b) (ks := ks) (n := 1) (z' := z) h0 h4 (.inl ⟨rfl, rfl, rfl⟩) (.inl hl))
    rw [hn.out]
    have hll : ((ks.length : Int) != 1) = true := by simp [hl]
    clear hk hf ih hn hD
    go_enter Try.func38, Try.ntmps38
    go_wp2
    go_ret
    exact ⟨rfl, hb0⟩

set_option maxRecDepth 100000 in
set_option maxHeartbeats 8000000 in
theorem right_kids4 (d : Nat) (hd : d ≤ 6) (ih : ∀ d', d' + 1 = d → RightC d') (D : Int) (hD : D = d) (z a b : Int) (B : Option Addr) (e : Nat) (ks : List Fm) (w : World) (h0 : 0 ≤ z) (h4 : z ≤ 4) (hf : FitFms ks) (hk : FmsIn w (.slice B ks.length e) ks) :
    Calls Try.prog 38 #[.agg #[.int .i64 4, .int .i64 a, .int .i64 b, .slice B ks.length e], .int .i64 z, .int .i64 D] w (BoolP (fwB d z (.mk 4 a b ks)) w) := by
  have hb0 : Below w.heap.size w (w.alloc (.cells #[.int .i64 4, .int .i64 a, .int .i64 b, .slice B ks.length e] 34)) := (Below.refl _ _).alloc (Nat.le_refl _) _
  have hD0 : 0 ≤ D := by omega
  have hD6 : D ≤ 6 := by omega
  by_cases hl : (ks.length : Int) = 2
  · have hkn : ks.length = 2 := by omega
    by_cases ha : a = 0
    · by_cases hb : b = 0
      · by_cases hd1 : D ≤ 1
        · have hn := Lib.hid (fw_none (d := d) (a := a) (b := b) (ks := ks) (n := 2) (z' := z) h0 h4 (.inr (.inl ⟨rfl, rfl, rfl⟩)) (.inr (.inr (.inr (.inl (by omega))))))
          rw [hn.out]
          subst ha hb
          rw [hkn] at hb0 ⊢
          clear hk hf ih hn hD hl hkn
          go_enter Try.func38, Try.ntmps38
          go_wp2
          go_ret
          exact ⟨rfl, hb0⟩
        · by_cases hm : z ≤ 4
          · subst ha hb
            have hih := ih (d - 1) (by omega) (D - 1) (by omega)
            have hyes := Lib.hid (fun (h : ks.all (fwB (d - 1) z) = true) => fw_some (d := d) (ks := ks) (n := 2) (z' := z) h0 h4 (.inr (.inl ⟨rfl, rfl, rfl⟩)) (by omega) (by omega) hm h)
            have hno := Lib.hid (fun (h : ks.all (fwB (d - 1) z) = false) => fw_none (d := d) (a := 0) (b := 0) (ks := ks) (n := 2) (z' := z) h0 h4 (.inr (.inl ⟨rfl, rfl, rfl⟩)) (.inr (.inr (.inr (.inr (.inr h))))))
            have hd2 : 1 < D := by omega
            have hfa := Lib.hid (fun i (h : i < ks.length) => fitFms_at hf h)
            have hk2 := hk
            generalize fwB d z (.mk 4 0 0 ks) = RES at *
            generalize d - 1 = dd at *
            have HB0 := Lib.hid hb0
            clear hD hd hd1 ih hf hb0 hk
            have hkz : Value.slice B ks.length e = Value.slice B 2 e := by rw [hkn]
            have hli : Hid ((ks.length : Int) = 2) := hl
            have hlk : Hid (ks.length = 2) := hkn
            rw [hkz] at hk2 HB0 ⊢
            clear hkz hl hkn
            go_enter Try.func38, Try.ntmps38
            go_wp2
            go_loopw [10, 100] (fun _ i wr => ∃ k : Nat, k ≤ 2 ∧ i = .int .i64 k ∧ Hid (∀ j, j < k → fwB dd z (fmAt ks j) = true) ∧ Below w.heap.size w wr) (fun _ i _ => 2 - (intOf i).toNat)
            case atStart => exact ⟨0, Nat.zero_le _, rfl, Lib.hid (fun j hj => absurd hj (by omega)), HB0.out⟩
            case round =>
              obtain ⟨k, hkl, rfl, hq, hb⟩ := hrel
              by_cases hlt : k < 2
              · obtain ⟨b1, o1, rfl, hbl, hc1⟩ := (hk2.below hb).get (by have := hlk.out; omega)
                obtain ⟨B1, e1, d0, d1, d2, d3, hk1⟩ := hc1 k (by have := hlk.out; omega)
                have hfk := hfa.out k (by have := hlk.out; omega)
                have hbx : Below wr.heap.size wr (wr.alloc (.cells #[.int .i64 (fmAt ks k).op, .int .i64 (fmAt ks k).fa, .int .i64 (fmAt ks k).fb, .slice B1 (fmAt ks k).kids.length e1] 34)) := (Below.refl _ _).alloc (Nat.le_refl _) _
                have hct := hih (fmAt ks k) z _ (wr.alloc (.cells #[.int .i64 (fmAt ks k).op, .int .i64 (fmAt ks k).fa, .int .i64 (fmAt ks k).fb, .slice B1 (fmAt ks k).kids.length e1] 34)) (by omega) hm hfk ⟨B1, e1, rfl, hk1.below hbx⟩
                have hqs := Lib.hid (fun (h : fwB dd z (fmAt ks k) = true) => (show ∀ j, j < k + 1 → fwB dd z (fmAt ks j) = true from fun j hj => by
                  by_cases e : j = k
                  · rw [e]; exact h
                  · exact hq.out j (by omega)))
                have hqn := Lib.hid (fun (h : fwB dd z (fmAt ks k) = false) => hno.out (allF_no (by have := hlk.out; omega) h))
                have hba := hb.alloc hb.size (.cells #[.int .i64 (fmAt ks k).op, .int .i64 (fmAt ks k).fa, .int .i64 (fmAt ks k).fb, .slice B1 (fmAt ks k).kids.length e1] 34)
                generalize fwB dd z (fmAt ks k) = r at *
                generalize fmAt ks k = u at *
                clear hc1 hk1 hbx hfk hq
                cases r with
                | false =>
                  have hre := hqn.out rfl
                  clear hqs hqn
                  go_wp2_with (go_at_call 38; refine hct.mono ?_; rintro e w4 ⟨rfl, hb4⟩; have hb5 := hba.trans (hb4.mono hba.size))
                  go_ret
                  exact ⟨bool_end hre.symm, hb5⟩
                | true =>
                  have hqq := Lib.hid (hqs.out rfl)
                  clear hqs hqn
                  go_wp2_with (go_at_call 38; refine hct.mono ?_; rintro e w4 ⟨rfl, hb4⟩; have hb5 := hba.trans (hb4.mono hba.size))
                  clear hct hb4 hba hb d0 d1 d2 d3
                  refine ⟨⟨k + 1, by omega, by go_num, hqq, hb5⟩, ?_⟩
                  simp only [intOf]
                  omega
              · have e : k = 2 := by omega
                subst e
                have hre := hyes.out (allF_yes fun j hj => hq.out j (by have := hlk.out; omega))
                clear hq hk2 hih
                go_wp2
                go_ret
                exact ⟨bool_end hre.symm, hb⟩
          · have hn := Lib.hid (fw_none (d := d) (a := a) (b := b) (ks := ks) (n := 2) (z' := z) h0 h4 (.inr (.inl ⟨rfl, rfl, rfl⟩)) (.inr (.inr (.inr (.inr (.inl (by omega)))))))
            rw [hn.out]
            subst ha hb
            rw [hkn] at hb0 ⊢
            have hm2 : 4 < z := by omega
            have hd2 : 1 < D := by omega
            clear hk hf ih hn hD hl hkn hd hm hd1
            omega
            
            
            
      · have hn := Lib.hid (fw_none (d := d) (a := a) (b := b) (ks := ks) (n := 2) (z' := z) h0 h4 (.inr (.inl ⟨rfl, rfl, rfl⟩)) (.inr (.inr (.inl hb))))
        rw [hn.out]
        have hbb : (b != 0) = true := by simp [hb]
        subst ha
        rw [hkn] at hb0 ⊢
        clear hk hf ih hn hD hl hkn
        go_enter Try.func38, Try.ntmps38
        go_wp2
        go_ret
        exact ⟨rfl, hb0⟩
    · have hn := Lib.hid (fw_none (d := d) (a := a) (b := b) (ks := ks) (n := 2) (z' := z) h0 h4 (.inr (.inl ⟨rfl, rfl, rfl⟩)) (.inr (.inl ha)))
      rw [hn.out]
      have haa : (a != 0) = true := by simp [ha]
      rw [hkn] at hb0 ⊢
      clear hk hf ih hn hD hl hkn
      go_enter Try.func38, Try.ntmps38
      go_wp2
      go_ret
      exact ⟨rfl, hb0⟩
  · have hn := Lib.hid (fw_none (d := d) (a := a) (b := b) (ks := ks) (n := 2) (z' := z) h0 h4 (.inr (.inl ⟨rfl, rfl, rfl⟩)) (.inl hl))
    rw [hn.out]
    have hll : ((ks.length : Int) != 2) = true := by simp [hl]
    clear hk hf ih hn hD
    go_enter Try.func38, Try.ntmps38
    go_wp2
    go_ret
    exact ⟨rfl, hb0⟩

set_option maxRecDepth 100000 in
set_option maxHeartbeats 8000000 in
theorem right_kids5 (d : Nat) (hd : d ≤ 6) (ih : ∀ d', d' + 1 = d → RightC d') (D : Int) (hD : D = d) (z a b : Int) (B : Option Addr) (e : Nat) (ks : List Fm) (w : World) (h0 : 0 ≤ z) (h4 : z ≤ 4) (hf : FitFms ks) (hk : FmsIn w (.slice B ks.length e) ks) :
    Calls Try.prog 38 #[.agg #[.int .i64 5, .int .i64 a, .int .i64 b, .slice B ks.length e], .int .i64 z, .int .i64 D] w (BoolP (fwB d z (.mk 5 a b ks)) w) := by
  have hb0 : Below w.heap.size w (w.alloc (.cells #[.int .i64 5, .int .i64 a, .int .i64 b, .slice B ks.length e] 34)) := (Below.refl _ _).alloc (Nat.le_refl _) _
  have hD0 : 0 ≤ D := by omega
  have hD6 : D ≤ 6 := by omega
  by_cases hl : (ks.length : Int) = 2
  · have hkn : ks.length = 2 := by omega
    by_cases ha : a = 0
    · by_cases hb : b = 0
      · by_cases hd1 : D ≤ 1
        · have hn := Lib.hid (fw_none (d := d) (a := a) (b := b) (ks := ks) (n := 2) (z' := z) h0 h4 (.inr (.inr (.inl ⟨rfl, rfl, rfl⟩))) (.inr (.inr (.inr (.inl (by omega))))))
          rw [hn.out]
          subst ha hb
          rw [hkn] at hb0 ⊢
          clear hk hf ih hn hD hl hkn
          go_enter Try.func38, Try.ntmps38
          go_wp2
          go_ret
          exact ⟨rfl, hb0⟩
        · by_cases hm : z ≤ 4
          · subst ha hb
            have hih := ih (d - 1) (by omega) (D - 1) (by omega)
            have hyes := Lib.hid (fun (h : ks.all (fwB (d - 1) z) = true) => fw_some (d := d) (ks := ks) (n := 2) (z' := z) h0 h4 (.inr (.inr (.inl ⟨rfl, rfl, rfl⟩))) (by omega) (by omega) hm h)
            have hno := Lib.hid (fun (h : ks.all (fwB (d - 1) z) = false) => fw_none (d := d) (a := 0) (b := 0) (ks := ks) (n := 2) (z' := z) h0 h4 (.inr (.inr (.inl ⟨rfl, rfl, rfl⟩))) (.inr (.inr (.inr (.inr (.inr h))))))
            have hd2 : 1 < D := by omega
            have hfa := Lib.hid (fun i (h : i < ks.length) => fitFms_at hf h)
            have hk2 := hk
            generalize fwB d z (.mk 5 0 0 ks) = RES at *
            generalize d - 1 = dd at *
            have HB0 := Lib.hid hb0
            clear hD hd hd1 ih hf hb0 hk
            have hkz : Value.slice B ks.length e = Value.slice B 2 e := by rw [hkn]
            have hli : Hid ((ks.length : Int) = 2) := hl
            have hlk : Hid (ks.length = 2) := hkn
            rw [hkz] at hk2 HB0 ⊢
            clear hkz hl hkn
            go_enter Try.func38, Try.ntmps38
            go_wp2
            go_loopw [10, 100] (fun _ i wr => ∃ k : Nat, k ≤ 2 ∧ i = .int .i64 k ∧ Hid (∀ j, j < k → fwB dd z (fmAt ks j) = true) ∧ Below w.heap.size w wr) (fun _ i _ => 2 - (intOf i).toNat)
            case atStart => exact ⟨0, Nat.zero_le _, rfl, Lib.hid (fun j hj => absurd hj (by omega)), HB0.out⟩
            case round =>
              obtain ⟨k, hkl, rfl, hq, hb⟩ := hrel
              by_cases hlt : k < 2
              · obtain ⟨b1, o1, rfl, hbl, hc1⟩ := (hk2.below hb).get (by have := hlk.out; omega)
                obtain ⟨B1, e1, d0, d1, d2, d3, hk1⟩ := hc1 k (by have := hlk.out; omega)
                have hfk := hfa.out k (by have := hlk.out; omega)
                have hbx : Below wr.heap.size wr (wr.alloc (.cells #[.int .i64 (fmAt ks k).op, .int .i64 (fmAt ks k).fa, .int .i64 (fmAt ks k).fb, .slice B1 (fmAt ks k).kids.length e1] 34)) := (Below.refl _ _).alloc (Nat.le_refl _) _
                have hct := hih (fmAt ks k) z _ (wr.alloc (.cells #[.int .i64 (fmAt ks k).op, .int .i64 (fmAt ks k).fa, .int .i64 (fmAt ks k).fb, .slice B1 (fmAt ks k).kids.length e1] 34)) (by omega) hm hfk ⟨B1, e1, rfl, hk1.below hbx⟩
                have hqs := Lib.hid (fun (h : fwB dd z (fmAt ks k) = true) => (show ∀ j, j < k + 1 → fwB dd z (fmAt ks j) = true from fun j hj => by
                  by_cases e : j = k
                  · rw [e]; exact h
                  · exact hq.out j (by omega)))
                have hqn := Lib.hid (fun (h : fwB dd z (fmAt ks k) = false) => hno.out (allF_no (by have := hlk.out; omega) h))
                have hba := hb.alloc hb.size (.cells #[.int .i64 (fmAt ks k).op, .int .i64 (fmAt ks k).fa, .int .i64 (fmAt ks k).fb, .slice B1 (fmAt ks k).kids.length e1] 34)
                generalize fwB dd z (fmAt ks k) = r at *
                generalize fmAt ks k = u at *
                clear hc1 hk1 hbx hfk hq
                cases r with
                | false =>
                  have hre := hqn.out rfl
                  clear hqs hqn
                  go_wp2_with (go_at_call 38; refine hct.mono ?_; rintro e w4 ⟨rfl, hb4⟩; have hb5 := hba.trans (hb4.mono hba.size))
                  go_ret
                  exact ⟨bool_end hre.symm, hb5⟩
                | true =>
                  have hqq := Lib.hid (hqs.out rfl)
                  clear hqs hqn
                  go_wp2_with (go_at_call 38; refine hct.mono ?_; rintro e w4 ⟨rfl, hb4⟩; have hb5 := hba.trans (hb4.mono hba.size))
                  clear hct hb4 hba hb d0 d1 d2 d3
                  refine ⟨⟨k + 1, by omega, by go_num, hqq, hb5⟩, ?_⟩
                  simp only [intOf]
                  omega
              · have e : k = 2 := by omega
                subst e
                have hre := hyes.out (allF_yes fun j hj => hq.out j (by have := hlk.out; omega))
                clear hq hk2 hih
                go_wp2
                go_ret
                exact ⟨bool_end hre.symm, hb⟩
          · have hn := Lib.hid (fw_none (d := d) (a := a) (b := b) (ks := ks) (n := 2) (z' := z) h0 h4 (.inr (.inr (.inl ⟨rfl, rfl, rfl⟩))) (.inr (.inr (.inr (.inr (.inl (by omega)))))))
            rw [hn.out]
            subst ha hb
            rw [hkn] at hb0 ⊢
            have hm2 : 4 < z := by omega
            have hd2 : 1 < D := by omega
            clear hk hf ih hn hD hl hkn hd hm hd1
            omega
            
            
            
      · have hn := Lib.hid (fw_none (d := d) (a := a) (b := b) (ks := ks) (n := 2) (z' := z) h0 h4 (.inr (.inr (.inl ⟨rfl, rfl, rfl⟩))) (.inr (.inr (.inl hb))))
        rw [hn.out]
        have hbb : (b != 0) = true := by simp [hb]
        subst ha
        rw [hkn] at hb0 ⊢
        clear hk hf ih hn hD hl hkn
        go_enter Try.func38, Try.ntmps38
        go_wp2
        go_ret
        exact ⟨rfl, hb0⟩
    · have hn := Lib.hid (fw_none (d := d) (a := a) (b := b) (ks := ks) (n := 2) (z' := z) h0 h4 (.inr (.inr (.inl ⟨rfl, rfl, rfl⟩))) (.inr (.inl ha)))
      rw [hn.out]
      have haa : (a != 0) = true := by simp [ha]
      rw [hkn] at hb0 ⊢
      clear hk hf ih hn hD hl hkn
      go_enter Try.func38, Try.ntmps38
      go_wp2
      go_ret
      exact ⟨rfl, hb0⟩
  · have hn := Lib.hid (fw_none (d := d) (a := a) (b := b) (ks := ks) (n := 2) (z' := z) h0 h4 (.inr (.inr (.inl ⟨rfl, rfl, rfl⟩))) (.inl hl))
    rw [hn.out]
    have hll : ((ks.length : Int) != 2) = true := by simp [hl]
    clear hk hf ih hn hD
    go_enter Try.func38, Try.ntmps38
    go_wp2
    go_ret
    exact ⟨rfl, hb0⟩

set_option maxRecDepth 100000 in
set_option maxHeartbeats 8000000 in
theorem right_kids6 (d : Nat) (hd : d ≤ 6) (ih : ∀ d', d' + 1 = d → RightC d') (D : Int) (hD : D = d) (z a b : Int) (B : Option Addr) (e : Nat) (ks : List Fm) (w : World) (h0 : 0 ≤ z) (h4 : z ≤ 4) (hf : FitFms ks) (hk : FmsIn w (.slice B ks.length e) ks) :
    Calls Try.prog 38 #[.agg #[.int .i64 6, .int .i64 a, .int .i64 b, .slice B ks.length e], .int .i64 z, .int .i64 D] w (BoolP (fwB d z (.mk 6 a b ks)) w) := by
  have hb0 : Below w.heap.size w (w.alloc (.cells #[.int .i64 6, .int .i64 a, .int .i64 b, .slice B ks.length e] 34)) := (Below.refl _ _).alloc (Nat.le_refl _) _
  have hD0 : 0 ≤ D := by omega
  have hD6 : D ≤ 6 := by omega
  by_cases hl : (ks.length : Int) = 1
  · have hkn : ks.length = 1 := by omega
    by_cases ha : a = 0
    · by_cases hb : b = 0
      · by_cases hd1 : D ≤ 1
        · have hn := Lib.hid (fw_none (d := d) (a := a) (b := b) (ks := ks) (n := 1) (z' := (z + 1)) h0 h4 (.inr (.inr (.inr (.inl ⟨rfl, rfl, rfl⟩)))) (.inr (.inr (.inr (.inl (by omega))))))
          rw [hn.out]
          subst ha hb
          rw [hkn] at hb0 ⊢
          clear hk hf ih hn hD hl hkn
          go_enter Try.func38, Try.ntmps38
          go_wp2
          go_ret
          exact ⟨rfl, hb0⟩
        · by_cases hm : (z + 1) ≤ 4
          · subst ha hb
            have hih := ih (d - 1) (by omega) (D - 1) (by omega)
            have hyes := Lib.hid (fun (h : ks.all (fwB (d - 1) (z + 1)) = true) => fw_some (d := d) (ks := ks) (n := 1) (z' := (z + 1)) h0 h4 (.inr (.inr (.inr (.inl ⟨rfl, rfl, rfl⟩)))) (by omega) (by omega) hm h)
            have hno := Lib.hid (fun (h : ks.all (fwB (d - 1) (z + 1)) = false) => fw_none (d := d) (a := 0) (b := 0) (ks := ks) (n := 1) (z' := (z + 1)) h0 h4 (.inr (.inr (.inr (.inl ⟨rfl, rfl, rfl⟩)))) (.inr (.inr (.inr (.inr (.inr h))))))
            have hd2 : 1 < D := by omega
            have hfa := Lib.hid (fun i (h : i < ks.length) => fitFms_at hf h)
            have hk2 := hk
            generalize fwB d z (.mk 6 0 0 ks) = RES at *
            generalize d - 1 = dd at *
            have HB0 := Lib.hid hb0
            clear hD hd hd1 ih hf hb0 hk
            have hkz : Value.slice B ks.length e = Value.slice B 1 e := by rw [hkn]
            have hli : Hid ((ks.length : Int) = 1) := hl
            have hlk : Hid (ks.length = 1) := hkn
            rw [hkz] at hk2 HB0 ⊢
            clear hkz hl hkn
            go_enter Try.func38, Try.ntmps38
            go_wp2
            go_loopw [10, 100] (fun _ i wr => ∃ k : Nat, k ≤ 1 ∧ i = .int .i64 k ∧ Hid (∀ j, j < k → fwB dd (z + 1) (fmAt ks j) = true) ∧ Below w.heap.size w wr) (fun _ i _ => 1 - (intOf i).toNat)
            case atStart => exact ⟨0, Nat.zero_le _, rfl, Lib.hid (fun j hj => absurd hj (by omega)), HB0.out⟩
            case round =>
              obtain ⟨k, hkl, rfl, hq, hb⟩ := hrel
              by_cases hlt : k < 1
              · obtain ⟨b1, o1, rfl, hbl, hc1⟩ := (hk2.below hb).get (by have := hlk.out; omega)
                obtain ⟨B1, e1, d0, d1, d2, d3, hk1⟩ := hc1 k (by have := hlk.out; omega)
                have hfk := hfa.out k (by have := hlk.out; omega)
                have hbx : Below wr.heap.size wr (wr.alloc (.cells #[.int .i64 (fmAt ks k).op, .int .i64 (fmAt ks k).fa, .int .i64 (fmAt ks k).fb, .slice B1 (fmAt ks k).kids.length e1] 34)) := (Below.refl _ _).alloc (Nat.le_refl _) _
                have hct := hih (fmAt ks k) (z + 1) _ (wr.alloc (.cells #[.int .i64 (fmAt ks k).op, .int .i64 (fmAt ks k).fa, .int .i64 (fmAt ks k).fb, .slice B1 (fmAt ks k).kids.length e1] 34)) (by omega) hm hfk ⟨B1, e1, rfl, hk1.below hbx⟩
                have hqs := Lib.hid (fun (h : fwB dd (z + 1) (fmAt ks k) = true) => (show ∀ j, j < k + 1 → fwB dd (z + 1) (fmAt ks j) = true from fun j hj => by
                  by_cases e : j = k
                  · rw [e]; exact h
                  · exact hq.out j (by omega)))
                have hqn := Lib.hid (fun (h : fwB dd (z + 1) (fmAt ks k) = false) => hno.out (allF_no (by have := hlk.out; omega) h))
                have hba := hb.alloc hb.size (.cells #[.int .i64 (fmAt ks k).op, .int .i64 (fmAt ks k).fa, .int .i64 (fmAt ks k).fb, .slice B1 (fmAt ks k).kids.length e1] 34)
                generalize fwB dd (z + 1) (fmAt ks k) = r at *
                generalize fmAt ks k = u at *
                clear hc1 hk1 hbx hfk hq
                cases r with
                | false =>
                  have hre := hqn.out rfl
                  clear hqs hqn
                  go_wp2_with (go_at_call 38; refine hct.mono ?_; rintro e w4 ⟨rfl, hb4⟩; have hb5 := hba.trans (hb4.mono hba.size))
                  go_ret
                  exact ⟨bool_end hre.symm, hb5⟩
                | true =>
                  have hqq := Lib.hid (hqs.out rfl)
                  clear hqs hqn
                  go_wp2_with (go_at_call 38; refine hct.mono ?_; rintro e w4 ⟨rfl, hb4⟩; have hb5 := hba.trans (hb4.mono hba.size))
                  clear hct hb4 hba hb d0 d1 d2 d3
                  refine ⟨⟨k + 1, by omega, by go_num, hqq, hb5⟩, ?_⟩
                  simp only [intOf]
                  omega
              · have e : k = 1 := by omega
                subst e
                have hre := hyes.out (allF_yes fun j hj => hq.out j (by have := hlk.out; omega))
                clear hq hk2 hih
                go_wp2
                go_ret
                exact ⟨bool_end hre.symm, hb⟩
          · have hn := Lib.hid (fw_none (d := d) (a := a) (b := b) (ks := ks) (n := 1) (z' := (z + 1)) h0 h4 (.inr (.inr (.inr (.inl ⟨rfl, rfl, rfl⟩)))) (.inr (.inr (.inr (.inr (.inl (by omega)))))))
            rw [hn.out]
            subst ha hb
            rw [hkn] at hb0 ⊢
            have hm2 : 4 < (z + 1) := by omega
            have hd2 : 1 < D := by omega
            clear hk hf ih hn hD hl hkn hd hm hd1
            go_enter Try.func38, Try.ntmps38
            go_wp2
            go_ret
            exact ⟨rfl, hb0⟩
      · have hn := Lib.hid (fw_none (d := d) (a := a) (b := b) (ks := ks) (n := 1) (z' := (z + 1)) h0 h4 (.inr (.inr (.inr (.inl ⟨rfl, rfl, rfl⟩)))) (.inr (.inr (.inl hb))))
        rw [hn.out]
        have hbb : (b != 0) = true := by simp [hb]
        subst ha
        rw [hkn] at hb0 ⊢
        clear hk hf ih hn hD hl hkn
        go_enter Try.func38, Try.ntmps38
        go_wp2
        go_ret
        exact ⟨rfl, hb0⟩
    · have hn := Lib.hid (fw_none (d := d) (a := a) (b := b) (ks := ks) (n := 1) (z' := (z + 1)) h0 h4 (.inr (.inr (.inr (.inl ⟨rfl, rfl, rfl⟩)))) (.inr (.inl ha)))
      rw [hn.out]
      have haa : (a != 0) = true := by simp [ha]
      rw [hkn] at hb0 ⊢
      clear hk hf ih hn hD hl hkn
      go_enter Try.func38, Try.ntmps38
      go_wp2
      go_ret
      exact ⟨rfl, hb0⟩
  · have hn := Lib.hid (fw_none (d := d) (a := a) (b := b) (ks := ks) (n := 1) (z' := (z + 1)) h0 h4 (.inr (.inr (.inr (.inl ⟨rfl, rfl, rfl⟩)))) (.inl hl))
    rw [hn.out]
    have hll : ((ks.length : Int) != 1) = true := by simp [hl]
    clear hk hf ih hn hD
    go_enter Try.func38, Try.ntmps38
    go_wp2
    go_ret
    exact ⟨rfl, hb0⟩

set_option maxRecDepth 100000 in
set_option maxHeartbeats 8000000 in
theorem right_kids7 (d : Nat) (hd : d ≤ 6) (ih : ∀ d', d' + 1 = d → RightC d') (D : Int) (hD : D = d) (z a b : Int) (B : Option Addr) (e : Nat) (ks : List Fm) (w : World) (h0 : 0 ≤ z) (h4 : z ≤ 4) (hf : FitFms ks) (hk : FmsIn w (.slice B ks.length e) ks) :
    Calls Try.prog 38 #[.agg #[.int .i64 7, .int .i64 a, .int .i64 b, .slice B ks.length e], .int .i64 z, .int .i64 D] w (BoolP (fwB d z (.mk 7 a b ks)) w) := by
  have hb0 : Below w.heap.size w (w.alloc (.cells #[.int .i64 7, .int .i64 a, .int .i64 b, .slice B ks.length e] 34)) := (Below.refl _ _).alloc (Nat.le_refl _) _
  have hD0 : 0 ≤ D := by omega
  have hD6 : D ≤ 6 := by omega
  by_cases hl : (ks.length : Int) = 1
  · have hkn : ks.length = 1 := by omega
    by_cases ha : a = 0
    · by_cases hb : b = 0
      · by_cases hd1 : D ≤ 1
        · have hn := Lib.hid (fw_none (d := d) (a := a) (b := b) (ks := ks) (n := 1) (z' := (z + 1)) h0 h4 (.inr (.inr (.inr (.inr ⟨rfl, rfl, rfl⟩)))) (.inr (.inr (.inr (.inl (by omega))))))
          rw [hn.out]
          subst ha hb
          rw [hkn] at hb0 ⊢
          clear hk hf ih hn hD hl hkn
          go_enter Try.func38, Try.ntmps38
          go_wp2
          go_ret
          exact ⟨rfl, hb0⟩
        · by_cases hm : (z + 1) ≤ 4
          · subst ha hb
            have hih := ih (d - 1) (by omega) (D - 1) (by omega)
            have hyes := Lib.hid (fun (h : ks.all (fwB (d - 1) (z + 1)) = true) => fw_some (d := d) (ks := ks) (n := 1) (z' := (z + 1)) h0 h4 (.inr (.inr (.inr (.inr ⟨rfl, rfl, rfl⟩)))) (by omega) (by omega) hm h)
            have hno := Lib.hid (fun (h : ks.all (fwB (d - 1) (z + 1)) = false) => fw_none (d := d) (a := 0) (b := 0) (ks := ks) (n := 1) (z' := (z + 1)) h0 h4 (.inr (.inr (.inr (.inr ⟨rfl, rfl, rfl⟩)))) (.inr (.inr (.inr (.inr (.inr h))))))
            have hd2 : 1 < D := by omega
            have hfa := Lib.hid (fun i (h : i < ks.length) => fitFms_at hf h)
            have hk2 := hk
            generalize fwB d z (.mk 7 0 0 ks) = RES at *
            generalize d - 1 = dd at *
            have HB0 := Lib.hid hb0
            clear hD hd hd1 ih hf hb0 hk
            have hkz : Value.slice B ks.length e = Value.slice B 1 e := by rw [hkn]
            have hli : Hid ((ks.length : Int) = 1) := hl
            have hlk : Hid (ks.length = 1) := hkn
            rw [hkz] at hk2 HB0 ⊢
            clear hkz hl hkn
            go_enter Try.func38, Try.ntmps38
            go_wp2
            go_loopw [10, 100] (fun _ i wr => ∃ k : Nat, k ≤ 1 ∧ i = .int .i64 k ∧ Hid (∀ j, j < k → fwB dd (z + 1) (fmAt ks j) = true) ∧ Below w.heap.size w wr) (fun _ i _ => 1 - (intOf i).toNat)
            case atStart => exact ⟨0, Nat.zero_le _, rfl, Lib.hid (fun j hj => absurd hj (by omega)), HB0.out⟩
            case round =>
              obtain ⟨k, hkl, rfl, hq, hb⟩ := hrel
              by_cases hlt : k < 1
              · obtain ⟨b1, o1, rfl, hbl, hc1⟩ := (hk2.below hb).get (by have := hlk.out; omega)
                obtain ⟨B1, e1, d0, d1, d2, d3, hk1⟩ := hc1 k (by have := hlk.out; omega)
                have hfk := hfa.out k (by have := hlk.out; omega)
                have hbx : Below wr.heap.size wr (wr.alloc (.cells #[.int .i64 (fmAt ks k).op, .int .i64 (fmAt ks k).fa, .int .i64 (fmAt ks k).fb, .slice B1 (fmAt ks k).kids.length e1] 34)) := (Below.refl _ _).alloc (Nat.le_refl _) _
                have hct := hih (fmAt ks k) (z + 1) _ (wr.alloc (.cells #[.int .i64 (fmAt ks k).op, .int .i64 (fmAt ks k).fa, .int .i64 (fmAt ks k).fb, .slice B1 (fmAt ks k).kids.length e1] 34)) (by omega) hm hfk ⟨B1, e1, rfl, hk1.below hbx⟩
                have hqs := Lib.hid (fun (h : fwB dd (z + 1) (fmAt ks k) = true) => (show ∀ j, j < k + 1 → fwB dd (z + 1) (fmAt ks j) = true from fun j hj => by
                  by_cases e : j = k
                  · rw [e]; exact h
                  · exact hq.out j (by omega)))
                have hqn := Lib.hid (fun (h : fwB dd (z + 1) (fmAt ks k) = false) => hno.out (allF_no (by have := hlk.out; omega) h))
                have hba := hb.alloc hb.size (.cells #[.int .i64 (fmAt ks k).op, .int .i64 (fmAt ks k).fa, .int .i64 (fmAt ks k).fb, .slice B1 (fmAt ks k).kids.length e1] 34)
                generalize fwB dd (z + 1) (fmAt ks k) = r at *
                generalize fmAt ks k = u at *
                clear hc1 hk1 hbx hfk hq
                cases r with
                | false =>
                  have hre := hqn.out rfl
                  clear hqs hqn
                  go_wp2_with (go_at_call 38; refine hct.mono ?_; rintro e w4 ⟨rfl, hb4⟩; have hb5 := hba.trans (hb4.mono hba.size))
                  go_ret
                  exact ⟨bool_end hre.symm, hb5⟩
                | true =>
                  have hqq := Lib.hid (hqs.out rfl)
                  clear hqs hqn
                  go_wp2_with (go_at_call 38; refine hct.mono ?_; rintro e w4 ⟨rfl, hb4⟩; have hb5 := hba.trans (hb4.mono hba.size))
                  clear hct hb4 hba hb d0 d1 d2 d3
                  refine ⟨⟨k + 1, by omega, by go_num, hqq, hb5⟩, ?_⟩
                  simp only [intOf]
                  omega
              · have e : k = 1 := by omega
                subst e
                have hre := hyes.out (allF_yes fun j hj => hq.out j (by have := hlk.out; omega))
                clear hq hk2 hih
                go_wp2
                go_ret
                exact ⟨bool_end hre.symm, hb⟩
          · have hn := Lib.hid (fw_none (d := d) (a := a) (b := b) (ks := ks) (n := 1) (z' := (z + 1)) h0 h4 (.inr (.inr (.inr (.inr ⟨rfl, rfl, rfl⟩)))) (.inr (.inr (.inr (.inr (.inl (by omega)))))))
            rw [hn.out]
            subst ha hb
            rw [hkn] at hb0 ⊢
            have hm2 : 4 < (z + 1) := by omega
            have hd2 : 1 < D := by omega
            clear hk hf ih hn hD hl hkn hd hm hd1
            go_enter Try.func38, Try.ntmps38
            go_wp2
            go_ret
            exact ⟨rfl, hb0⟩
      · have hn := Lib.hid (fw_none (d := d) (a := a) (b := b) (ks := ks) (n := 1) (z' := (z + 1)) h0 h4 (.inr (.inr (.inr (.inr ⟨rfl, rfl, rfl⟩)))) (.inr (.inr (.inl hb))))
        rw [hn.out]
        have hbb : (b != 0) = true := by simp [hb]
        subst ha
        rw [hkn] at hb0 ⊢
        clear hk hf ih hn hD hl hkn
        go_enter Try.func38, Try.ntmps38
        go_wp2
        go_ret
        exact ⟨rfl, hb0⟩
    · have hn := Lib.hid (fw_none (d := d) (a := a) (b := b) (ks := ks) (n := 1) (z' := (z + 1)) h0 h4 (.inr (.inr (.inr (.inr ⟨rfl, rfl, rfl⟩)))) (.inr (.inl ha)))
      rw [hn.out]
      have haa : (a != 0) = true := by simp [ha]
      rw [hkn] at hb0 ⊢
      clear hk hf ih hn hD hl hkn
      go_enter Try.func38, Try.ntmps38
      go_wp2
      go_ret
      exact ⟨rfl, hb0⟩
  · have hn := Lib.hid (fw_none (d := d) (a := a) (b := b) (ks := ks) (n := 1) (z' := (z + 1)) h0 h4 (.inr (.inr (.inr (.inr ⟨rfl, rfl, rfl⟩)))) (.inl hl))
    rw [hn.out]
    have hll : ((ks.length : Int) != 1) = true := by simp [hl]
    clear hk hf ih hn hD
    go_enter Try.func38, Try.ntmps38
    go_wp2
    go_ret
    exact ⟨rfl, hb0⟩

set_option maxRecDepth 100000 in
set_option maxHeartbeats 4000000 in
theorem right_other (d : Nat) (hd : d ≤ 6) (D : Int) (hD : D = d) (z o a b : Int) (B : Option Addr) (e : Nat) (ks : List Fm) (w : World) (h0 : 0 ≤ z) (h4 : z ≤ 4) (h1 : o ≠ 1) (h2 : o ≠ 2) (h3 : o ≠ 3) (h5 : o ≠ 4) (h6 : o ≠ 5) (h7 : o ≠ 6) (h8 : o ≠ 7) :
    Calls Try.prog 38 #[.agg #[.int .i64 o, .int .i64 a, .int .i64 b, .slice B ks.length e], .int .i64 z, .int .i64 D] w (BoolP (fwB d z (.mk o a b ks)) w) := by
  have hb0 : Below w.heap.size w (w.alloc (.cells #[.int .i64 o, .int .i64 a, .int .i64 b, .slice B ks.length e] 34)) := (Below.refl _ _).alloc (Nat.le_refl _) _
  rw [fw_other h0 h4 h1 h2 h3 h5 h6 h7 h8]
  have e1 : (o == 1) = false := by simp [h1]
  have e2 : (o == 2) = false := by simp [h2]
  have e3 : (o == 3) = false := by simp [h3]
  have e4 : (o == 4) = false := by simp [h5]
  have e5 : (o == 5) = false := by simp [h6]
  have e6 : (o == 6) = false := by simp [h7]
  have e7 : (o == 7) = false := by simp [h8]
  clear h1 h2 h3 h5 h6 h7 h8 hD
  go_enter Try.func38, Try.ntmps38
  go_wp2
  go_ret
  exact ⟨rfl, hb0⟩

theorem right_step (d : Nat) (hd : d ≤ 6) (ih : ∀ d', d' + 1 = d → RightC d') : RightC d := by
  intro D hD t z x w h0 h4 hf hx
  obtain ⟨B, e, rfl, hk⟩ := hx
  have hfk := ((fitFm_eq t).1 hf).2
  cases t with
  | mk o a b ks =>
    simp only [Fm.op, Fm.fa, Fm.fb, Fm.kids] at hk hfk ⊢
    by_cases h1 : o = 1
    · subst h1; exact right_leaf1 d hd D hD z a b B e ks w h0 h4
    by_cases h2 : o = 2
    · subst h2; exact right_leaf2 d hd D hD z a b B e ks w h0 h4
    by_cases h3 : o = 3
    · subst h3; exact right_kids3 d hd ih D hD z a b B e ks w h0 h4 hfk hk
    by_cases h5 : o = 4
    · subst h5; exact right_kids4 d hd ih D hD z a b B e ks w h0 h4 hfk hk
    by_cases h6 : o = 5
    · subst h6; exact right_kids5 d hd ih D hD z a b B e ks w h0 h4 hfk hk
    by_cases h7 : o = 6
    · subst h7; exact right_kids6 d hd ih D hD z a b B e ks w h0 h4 hfk hk
    by_cases h8 : o = 7
    · subst h8; exact right_kids7 d hd ih D hD z a b B e ks w h0 h4 hfk hk
    exact right_other d hd D hD z o a b B e ks w h0 h4 h1 h2 h3 h5 h6 h7 h8
theorem right_any : ∀ d : Nat, d ≤ 6 → RightC d
  | 0, h => right_step 0 h fun d' e => by omega
  | d + 1, h => right_step (d + 1) h fun d' e => by
    have e2 : d' = d := by omega
    subst e2
    exact right_any d' (by omega)

set_option maxRecDepth 100000 in
set_option maxHeartbeats 2000000 in
theorem isFormula_spec (t : Fm) (z : Int) (x : Value) (w : World) (hc : cntFm t ≤ 1048576) (hx : FmIn w x t) :
    Calls Try.prog 14 #[x, .int .i64 z] w (BoolP (isFmB z t) w) := by
  have hf := fitFm_of t hc
  have hX := hx
  obtain ⟨B, e, rfl, hk⟩ := hx
  have hb0 : Below w.heap.size w (w.alloc (.cells #[.int .i64 t.op, .int .i64 t.fa, .int .i64 t.fb, .slice B t.kids.length e] 34)) := (Below.refl _ _).alloc (Nat.le_refl _) _
  have k0 := heap_alloc_new w (.cells #[.int .i64 t.op, .int .i64 t.fa, .int .i64 t.fb, .slice B t.kids.length e] 34)
  have hwi := fun W => l1In_any z 0 4 W
  have hwe : decide ((0 : Int) ≤ z ∧ z ≤ 4) = widB z := rfl
  cases hw : widB z with
  | false =>
    have hn : Hid (isFmB z t = false) := Lib.hid (by unfold isFmB; rw [fw_no (d := 5) hw]; rfl)
    rw [hwe, hw] at hwi
    rw [hn.out]
    clear hX hk hn hw hwe hf hc k0
    go_enter Try.func14, Try.ntmps14
    go_wp2_with (go_at_call 37; refine (hwi _).mono ?_; rintro e w2 ⟨rfl, rfl⟩)
    go_ret
    exact ⟨rfl, hb0⟩
  | true =>
    have hz := widB_iff.1 hw
    rw [hwe, hw] at hwi
    have hwt := right_any 6 (Nat.le_refl _) 6 rfl t z _ _ hz.1 hz.2 hf (hX.below hb0)
    have hat := fun W (h : Below w.heap.size w W) => l6Names_any 1048577 t (by have := szFm_cnt t; omega) (Nat.le_refl _) _ W (hX.below h)
    have HN := Lib.hid (namesFm_len t)
    have hsz := szFm_cnt t
    have hlen : (namesFm t).length ≤ 1048577 := by have := HN.out; omega
    unfold isFmB
    generalize fwB 6 z t = r at *
    generalize namesFm t = N1 at *
    have HB0 := Lib.hid hb0
    obtain ⟨m0, m1, m2, m3⟩ := fmRow4 k0
    clear HN hsz hf hX hk hc hw hwe hz
    cases r with
    | false =>
      go_enter Try.func14, Try.ntmps14
      go_wp2_with (first
        | (go_at_call 37; refine (hwi _).mono ?_; rintro e w2 ⟨rfl, rfl⟩)
        | (go_at_call 38; refine hwt.mono ?_; rintro e w3 ⟨rfl, hb2⟩; have hb3 := HB0.out.trans (hb2.mono HB0.out.size)))
      go_ret
      exact ⟨rfl, hb3⟩
    | true =>
      go_enter Try.func14, Try.ntmps14
      go_wp2_with (first
        | (go_at_call 37; refine (hwi _).mono ?_; rintro e w2 ⟨rfl, rfl⟩)
        | (go_at_call 38; refine hwt.mono ?_; rintro e w3 ⟨rfl, hb2⟩; have hb3 := HB0.out.trans (hb2.mono HB0.out.size); have k2 := (hb2.block _ (OrbK.box_lt k0)).trans k0; clear m0 m1 m2 m3; obtain ⟨m0, m1, m2, m3⟩ := fmRow4 k2))
      refine (hat _ hb3).mono ?_
      rintro e w4 ⟨g4, cap4, rfl, ho4, hb4⟩
      have hb5 := hb3.trans (hb4.mono hb3.size)
      clear hat ho4 hb4 hb3 hb2 k2 k0 m0 m1 m2 m3 hwt hb0
      go_wp2
      go_ret
      exact ⟨bool_end (by rw [Bool.eq_iff_iff]; simp; omega), hb5⟩
end Go.Proofs.Ythjkogighppeaaa
end

