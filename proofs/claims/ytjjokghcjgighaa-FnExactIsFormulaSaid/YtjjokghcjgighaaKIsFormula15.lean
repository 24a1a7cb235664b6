/-
  The atoms that a formula names, in the program, as contracts; whether a value is a formula.
-/
import Derived.Test.YtjjokghcjgighaaKIsFormula12
import Derived.Test.YtjjokghcjgighaaKIsFormula14
import Derived.Test.YtjjokghcjgighaaKIsFormula11
namespace Go.Proofs.Ytjjokghcjgighaa
open Go.RowKit Go.Sort
set_option linter.unusedVariables false

set_option maxRecDepth 100000 in
set_option maxHeartbeats 8000000 in
theorem atomsIn_step (t : Fm) (hsz : szFm t ≤ 2097152) (hkl : t.kids.length ≤ 1048576) (ih : ∀ i, i < t.kids.length → NamesC 62 (fmAt t.kids i)) : NamesC 62 t := by
  obtain ⟨i0, hi0, hz0, hz1, hz2⟩ := info_parts int_infoM
  have HS := Lib.hid hz2
  clear hz2
  intro x w hx
  obtain ⟨B, e, rfl, hk⟩ := hx
  have hnm : Hid (namesFm t = insAll [] (ownF t.op t.fb ++ rawFms t.kids)) := Lib.hid (by unfold namesFm; rw [rawFm_eq])
  have hrl := rawFms_len t.kids
  have hse := szFm_eq t
  have hol := ownF_len t.op t.fb
  have HRT := Lib.hid (rawFms_take t.kids)
  have hrl2 : (rawFms t.kids).length ≤ 2097152 := by omega
  have hb1 : Below w.heap.size w ((w.alloc (.cells #[.int .i64 t.op, .int .i64 t.fa, .int .i64 t.fb, .slice B t.kids.length e] 51)).alloc (.cells #[] 3)) := ((Below.refl _ _).alloc (Nat.le_refl _) _).alloc (by simp) _
  have ho0 : ((w.alloc (.cells #[.int .i64 t.op, .int .i64 t.fa, .int .i64 t.fb, .slice B t.kids.length e] 51)).alloc (.cells #[] 3)).ownsRow (w.heap.size + 1) 3 1 (.slice (some ⟨w.heap.size + 1, 0, none⟩) 0 0) 0 [] := by
    have h := World.ownsRow_lit (w.alloc (.cells #[.int .i64 t.op, .int .i64 t.fa, .int .i64 t.fb, .slice B t.kids.length e] 51)) (e := 3) (size := 1) (base := w.heap.size + 1) #[] 0 (by simp) (by decide) rfl
    simpa using h
  have HKI := Lib.hid (fun i (hi : i < t.kids.length) => (show szFm (fmAt t.kids i) ≤ 2097152 from by have := szFm_at hi; omega))
  have HNX := Lib.hid (fun k (hk : k < t.kids.length) => rawFms_next hk)
  rw [show (namesFm t) = insAll [] (ownF t.op t.fb ++ rawFms t.kids) from hnm.out]
  clear hnm hrl hse hsz
  by_cases h2 : t.op = 2
  · have hop : (t.op == 2) = true := by simp [h2]
    have how : Hid (ownF t.op t.fb = [t.fb]) := Lib.hid (by simp [ownF, h2])
    generalize ownF t.op t.fb = W0 at *
    clear h2
    have hb2 := hb1.alloc hb1.size (.cells #[.int .i64 t.fb] 3)
    have ho1 := ho0.alloc (.cells #[.int .i64 t.fb] 3)
    have hbx : (((w.alloc (.cells #[.int .i64 t.op, .int .i64 t.fa, .int .i64 t.fb, .slice B t.kids.length e] 51)).alloc (.cells #[] 3)).alloc (.cells #[.int .i64 t.fb] 3)).cell? ⟨w.heap.size, 3, none⟩ = some (.slice B t.kids.length e) := by
      rw [(((Below.refl ((w.alloc (.cells #[.int .i64 t.op, .int .i64 t.fa, .int .i64 t.fb, .slice B t.kids.length e] 51)).alloc (.cells #[] 3)).heap.size ((w.alloc (.cells #[.int .i64 t.op, .int .i64 t.fa, .int .i64 t.fb, .slice B t.kids.length e] 51)).alloc (.cells #[] 3))).alloc (Nat.le_refl _) (.cells #[.int .i64 t.fb] 3)).cell (p := ⟨w.heap.size, 3, none⟩) (by simp; omega))]
      exact new_cell3 _ _ _ _ _ _ _
    have hsz9 : w.heap.size + 1 ≤ (((w.alloc (.cells #[.int .i64 t.op, .int .i64 t.fa, .int .i64 t.fb, .slice B t.kids.length e] 51)).alloc (.cells #[] 3)).alloc (.cells #[.int .i64 t.fb] 3)).heap.size := by simp
    have hcell : (((w.alloc (.cells #[.int .i64 t.op, .int .i64 t.fa, .int .i64 t.fb, .slice B t.kids.length e] 51)).alloc (.cells #[] 3)).alloc (.cells #[.int .i64 t.fb] 3)).cell? ⟨w.heap.size + 1 + 1, 0, none⟩ = some (.int .i64 t.fb) := (new_cell _ _ _ (w.heap.size + 1 + 1) (by simp))
    have HC := Lib.hid (one_cell hcell)
    have hsz3 : w.heap.size ≤ (((w.alloc (.cells #[.int .i64 t.op, .int .i64 t.fa, .int .i64 t.fb, .slice B t.kids.length e] 51)).alloc (.cells #[] 3)).alloc (.cells #[.int .i64 t.fb] 3)).heap.size := hb2.size
    clear ho0 hcell
    go_enter Try.func62, Try.ntmps62
    go_wp2_with (at_builtin; refine wpList_append_lies _ rfl (.tmp 10) (.tmp 13) 22 rfl (w.heap.size + 1) 3 i0 (.int .i64 0) 1 8 Try.underlying22 hi0 hz0 hz1 HS.out rfl (by decide) _ 0 _ rfl ho1 ⟨w.heap.size + 1 + 1, 0, none⟩ 1 1 [.int .i64 t.fb] rfl rfl HC.out (int_one _) (by decide) ?c3 ?c4 ?c5 _ rfl ?_)
    case c3 => unfold maxLen; omega
    case c4 => omega
    case c5 => first | exact hsz9 | omega | (simp <;> omega)
    intro g0 cap0 w3 ho3 hg3 _ _
    have hby : Below (w.heap.size + 1) _ w3 := below_own ((Below.refl _ _)) ho1 (Nat.le_refl _) hsz9 hg3
    have hb3 : Below w.heap.size w w3 := hb2.trans (hby.mono (Nat.le_succ _))
    have hbc := hby.cell (p := ⟨w.heap.size, 3, none⟩) (Nat.lt_succ_self _)
    rw [hbx] at hbc
    clear hb2 ho1 HC hsz3 hg3 hbx hby hsz9 hb1
    have hi0' : Hid (W0 ++ rawFms (t.kids.take 0) = [t.fb]) := Lib.hid (by rw [how.out]; rfl)
    have HST : Hid (∃ (k g cap : Nat), k ≤ t.kids.length ∧ Value.int .i64 0 = .int .i64 k ∧ Value.slice (some ⟨g0, 0, none⟩) 1 cap0 = .slice (some ⟨g, 0, none⟩) (W0 ++ rawFms (t.kids.take k)).length cap ∧ w3.ownsRow (w.heap.size + 1) 3 1 (Value.slice (some ⟨g0, 0, none⟩) 1 cap0) (W0 ++ rawFms (t.kids.take k)).length (icells (W0 ++ rawFms (t.kids.take k))) ∧ Below w.heap.size w w3) := Lib.hid ⟨0, g0, cap0, Nat.zero_le _, rfl, by rw [hi0'.out]; rfl, by rw [hi0'.out]; exact ho3, hb3⟩
    clear ho3 hb3 hi0'
    go_wp2
    go_loopw [3, 5, 18] (fun v3 _ i wr => ∃ (k g cap : Nat), k ≤ t.kids.length ∧ i = .int .i64 k ∧ v3 = .slice (some ⟨g, 0, none⟩) (W0 ++ rawFms (t.kids.take k)).length cap ∧ wr.ownsRow (w.heap.size + 1) 3 1 v3 (W0 ++ rawFms (t.kids.take k)).length (icells (W0 ++ rawFms (t.kids.take k))) ∧ Below w.heap.size w wr) (fun _ _ i _ => t.kids.length - (intOf i).toNat)
    case atStart => exact HST.out
    case round =>
      clear HST
      obtain ⟨k, g, cap, hk9, rfl, rfl, ho, hb⟩ := hrel
      by_cases hlt : k < t.kids.length
      · obtain ⟨b1, o1, rfl, hbl, hc1⟩ := (hk.below hb).get (by omega)
        obtain ⟨B1, e1, d0, d1, d2, d3, hk1⟩ := hc1 k hlt
        have hbx : Below wr.heap.size wr (wr.alloc (.cells #[.int .i64 (fmAt t.kids k).op, .int .i64 (fmAt t.kids k).fa, .int .i64 (fmAt t.kids k).fb, .slice B1 (fmAt t.kids k).kids.length e1] 51)) := (Below.refl _ _).alloc (Nat.le_refl _) _
        have hct := ih k hlt _ (wr.alloc (.cells #[.int .i64 (fmAt t.kids k).op, .int .i64 (fmAt t.kids k).fa, .int .i64 (fmAt t.kids k).fb, .slice B1 (fmAt t.kids k).kids.length e1] 51)) ⟨B1, e1, rfl, hk1.below hbx⟩
        have hnl := namesFm_len (fmAt t.kids k)
        have hki := HKI.out k hlt
        have hrt := HRT.out k
        have hil : (W0 ++ rawFms (t.kids.take k)).length ≤ 4194304 := by rw [List.length_append]; omega
        have hnl2 : (namesFm (fmAt t.kids k)).length ≤ 4194304 := by omega
        have hnx : Hid ((W0 ++ rawFms (t.kids.take k)) ++ namesFm (fmAt t.kids k) = W0 ++ rawFms (t.kids.take (k + 1))) := Lib.hid (by rw [HNX.out k hlt, List.append_assoc])
        generalize hL2 : W0 ++ rawFms (t.kids.take (k + 1)) = L2 at hnx
        have HL2 := Lib.hid hL2
        clear hL2
        generalize W0 ++ rawFms (t.kids.take k) = L1 at *
        generalize namesFm (fmAt t.kids k) = N1 at *
        generalize fmAt t.kids k = u at *
        have hs0 := hb.size
        have hoa := ho.alloc (.cells #[.int .i64 u.op, .int .i64 u.fa, .int .i64 u.fb, .slice B1 u.kids.length e1] 51)
        have hba := hb.alloc hb.size (.cells #[.int .i64 u.op, .int .i64 u.fa, .int .i64 u.fb, .slice B1 u.kids.length e1] 51)
        clear hc1
        go_wp2_with (first
          | (go_at_call 62; refine hct.mono ?_; rintro e w4 ⟨g4, cap4, rfl, ho4, hb4⟩; have hob := own_below hoa hb4; have hbb := hba.trans (hb4.mono hba.size); have HN := Lib.hid (ints_news (ints_own ho4)); have HL := Lib.hid (icells_len N1); have hs4 : w.heap.size + 1 ≤ w4.heap.size := (by have h1 := hb4.size; simp at h1; omega))
          | (at_builtin; refine wpList_append_own _ rfl (.tmp 22) (.tmp 24) 22 rfl (w.heap.size + 1) 3 i0 (.int .i64 0) 1 8 Try.underlying22 hi0 hz0 hz1 HS.out rfl (by decide) _ L1.length _ rfl hob ⟨g4, 0, none⟩ N1.length cap4 (icells N1) rfl (by rw [HL.out, Nat.mul_one]) HN.out (icells_one N1) ?c3 ?c4 ?c5 ?_))
        case c3 => unfold maxLen; omega
        case c4 => omega
        case c5 => exact hs4
        intro v5 w5 ho5 hg5 hnn
        have hb5 : Below w.heap.size w w5 := below_own hbb hob (Nat.le_succ _) (by omega) hg5
        have hln : L1.length + N1.length = L2.length := by rw [← hnx.out, List.length_append]
        have hcl : icells L1 ++ icells N1 = icells L2 := by rw [← hnx.out]; simp [icells]
        rw [hln, hcl] at ho5
        obtain ⟨g5, cap5, rfl⟩ : ∃ g cap, v5 = .slice (some ⟨g, 0, none⟩) L2.length cap := by
          rcases ho5.2 with ⟨e, _⟩ | ⟨g, cap, cur, e, _⟩
          · exact absurd e (by simpa using hnn)
          · exact ⟨g, cap, e⟩
        have HO5 := Lib.hid ho5
        clear hct hoa hob ho hb hba hbb hb4 ho4 ho5 hk1 d0 d1 d2 d3 hbx hg5 hnn hln hcl HN HL
        go_wp2
        refine ⟨⟨k + 1, g5, cap5, by omega, by go_num, by rw [HL2.out], by rw [HL2.out]; exact HO5.out, hb5⟩, ?_⟩
        simp only [intOf]
        omega
      · have e : k = t.kids.length := by omega
        subst e
        rw [List.take_length] at ho ⊢
        have hzl : (W0 ++ rawFms t.kids).length ≤ 1099511627776 := by rw [List.length_append]; omega
        generalize W0 ++ rawFms t.kids = Z at *
        have hasc := ascending_any (w.heap.size + 1) g cap Z wr ho hzl
        have hbw := fun (w6 : World) (hg6 : wr.grownBy w6 (some g)) => (below_own hb ho (Nat.le_succ _) hb.size hg6)
        clear ho hb hk
        go_wp2_with (go_at_call 80; refine hasc.mono ?_; rintro e w6 ⟨rfl, ho6, hg6⟩)
        have hpost : InsPost w.heap.size (insAll [] Z) w (.returned (.slice (some ⟨g, 0, none⟩) (insAll [] Z).length cap)) w6 := ⟨g, cap, rfl, own_le ho6 (Nat.le_succ _), hbw w6 hg6⟩
        clear hasc hbw ho6 hg6
        go_wp2
        go_ret
        exact hpost

  · have hop : (t.op == 2) = false := by simp [h2]
    have how : Hid (ownF t.op t.fb = []) := Lib.hid (by simp [ownF, h2])
    generalize ownF t.op t.fb = W0 at *
    clear h2
    have hi0' : Hid (W0 ++ rawFms (t.kids.take 0) = []) := Lib.hid (by rw [how.out]; rfl)
    have HST : Hid (∃ (k g cap : Nat), k ≤ t.kids.length ∧ Value.int .i64 0 = .int .i64 k ∧ Value.slice (some ⟨w.heap.size + 1, 0, none⟩) 0 0 = .slice (some ⟨g, 0, none⟩) (W0 ++ rawFms (t.kids.take k)).length cap ∧ ((w.alloc (.cells #[.int .i64 t.op, .int .i64 t.fa, .int .i64 t.fb, .slice B t.kids.length e] 51)).alloc (.cells #[] 3)).ownsRow (w.heap.size + 1) 3 1 (Value.slice (some ⟨w.heap.size + 1, 0, none⟩) 0 0) (W0 ++ rawFms (t.kids.take k)).length (icells (W0 ++ rawFms (t.kids.take k))) ∧ Below w.heap.size w ((w.alloc (.cells #[.int .i64 t.op, .int .i64 t.fa, .int .i64 t.fb, .slice B t.kids.length e] 51)).alloc (.cells #[] 3))) := Lib.hid ⟨0, w.heap.size + 1, 0, Nat.zero_le _, rfl, by rw [hi0'.out]; rfl, by rw [hi0'.out]; exact ho0, hb1⟩
    clear ho0 hb1 hi0'
    go_enter Try.func62, Try.ntmps62
    go_wp2
    go_loopw [3, 5, 18] (fun v3 _ i wr => ∃ (k g cap : Nat), k ≤ t.kids.length ∧ i = .int .i64 k ∧ v3 = .slice (some ⟨g, 0, none⟩) (W0 ++ rawFms (t.kids.take k)).length cap ∧ wr.ownsRow (w.heap.size + 1) 3 1 v3 (W0 ++ rawFms (t.kids.take k)).length (icells (W0 ++ rawFms (t.kids.take k))) ∧ Below w.heap.size w wr) (fun _ _ i _ => t.kids.length - (intOf i).toNat)
    case atStart => exact HST.out
    case round =>
      clear HST
      obtain ⟨k, g, cap, hk9, rfl, rfl, ho, hb⟩ := hrel
      by_cases hlt : k < t.kids.length
      · obtain ⟨b1, o1, rfl, hbl, hc1⟩ := (hk.below hb).get (by omega)
        obtain ⟨B1, e1, d0, d1, d2, d3, hk1⟩ := hc1 k hlt
        have hbx : Below wr.heap.size wr (wr.alloc (.cells #[.int .i64 (fmAt t.kids k).op, .int .i64 (fmAt t.kids k).fa, .int .i64 (fmAt t.kids k).fb, .slice B1 (fmAt t.kids k).kids.length e1] 51)) := (Below.refl _ _).alloc (Nat.le_refl _) _
        have hct := ih k hlt _ (wr.alloc (.cells #[.int .i64 (fmAt t.kids k).op, .int .i64 (fmAt t.kids k).fa, .int .i64 (fmAt t.kids k).fb, .slice B1 (fmAt t.kids k).kids.length e1] 51)) ⟨B1, e1, rfl, hk1.below hbx⟩
        have hnl := namesFm_len (fmAt t.kids k)
        have hki := HKI.out k hlt
        have hrt := HRT.out k
        have hil : (W0 ++ rawFms (t.kids.take k)).length ≤ 4194304 := by rw [List.length_append]; omega
        have hnl2 : (namesFm (fmAt t.kids k)).length ≤ 4194304 := by omega
        have hnx : Hid ((W0 ++ rawFms (t.kids.take k)) ++ namesFm (fmAt t.kids k) = W0 ++ rawFms (t.kids.take (k + 1))) := Lib.hid (by rw [HNX.out k hlt, List.append_assoc])
        generalize hL2 : W0 ++ rawFms (t.kids.take (k + 1)) = L2 at hnx
        have HL2 := Lib.hid hL2
        clear hL2
        generalize W0 ++ rawFms (t.kids.take k) = L1 at *
        generalize namesFm (fmAt t.kids k) = N1 at *
        generalize fmAt t.kids k = u at *
        have hs0 := hb.size
        have hoa := ho.alloc (.cells #[.int .i64 u.op, .int .i64 u.fa, .int .i64 u.fb, .slice B1 u.kids.length e1] 51)
        have hba := hb.alloc hb.size (.cells #[.int .i64 u.op, .int .i64 u.fa, .int .i64 u.fb, .slice B1 u.kids.length e1] 51)
        clear hc1
        go_wp2_with (first
          | (go_at_call 62; refine hct.mono ?_; rintro e w4 ⟨g4, cap4, rfl, ho4, hb4⟩; have hob := own_below hoa hb4; have hbb := hba.trans (hb4.mono hba.size); have HN := Lib.hid (ints_news (ints_own ho4)); have HL := Lib.hid (icells_len N1); have hs4 : w.heap.size + 1 ≤ w4.heap.size := (by have h1 := hb4.size; simp at h1; omega))
          | (at_builtin; refine wpList_append_own _ rfl (.tmp 22) (.tmp 24) 22 rfl (w.heap.size + 1) 3 i0 (.int .i64 0) 1 8 Try.underlying22 hi0 hz0 hz1 HS.out rfl (by decide) _ L1.length _ rfl hob ⟨g4, 0, none⟩ N1.length cap4 (icells N1) rfl (by rw [HL.out, Nat.mul_one]) HN.out (icells_one N1) ?c3 ?c4 ?c5 ?_))
        case c3 => unfold maxLen; omega
        case c4 => omega
        case c5 => exact hs4
        intro v5 w5 ho5 hg5 hnn
        have hb5 : Below w.heap.size w w5 := below_own hbb hob (Nat.le_succ _) (by omega) hg5
        have hln : L1.length + N1.length = L2.length := by rw [← hnx.out, List.length_append]
        have hcl : icells L1 ++ icells N1 = icells L2 := by rw [← hnx.out]; simp [icells]
        rw [hln, hcl] at ho5
        obtain ⟨g5, cap5, rfl⟩ : ∃ g cap, v5 = .slice (some ⟨g, 0, none⟩) L2.length cap := by
          rcases ho5.2 with ⟨e, _⟩ | ⟨g, cap, cur, e, _⟩
          · exact absurd e (by simpa using hnn)
          · exact ⟨g, cap, e⟩
        have HO5 := Lib.hid ho5
        clear hct hoa hob ho hb hba hbb hb4 ho4 ho5 hk1 d0 d1 d2 d3 hbx hg5 hnn hln hcl HN HL
        go_wp2
        refine ⟨⟨k + 1, g5, cap5, by omega, by go_num, by rw [HL2.out], by rw [HL2.out]; exact HO5.out, hb5⟩, ?_⟩
        simp only [intOf]
        omega
      · have e : k = t.kids.length := by omega
        subst e
        rw [List.take_length] at ho ⊢
        have hzl : (W0 ++ rawFms t.kids).length ≤ 1099511627776 := by rw [List.length_append]; omega
        generalize W0 ++ rawFms t.kids = Z at *
        have hasc := ascending_any (w.heap.size + 1) g cap Z wr ho hzl
        have hbw := fun (w6 : World) (hg6 : wr.grownBy w6 (some g)) => (below_own hb ho (Nat.le_succ _) hb.size hg6)
        clear ho hb hk
        go_wp2_with (go_at_call 80; refine hasc.mono ?_; rintro e w6 ⟨rfl, ho6, hg6⟩)
        have hpost : InsPost w.heap.size (insAll [] Z) w (.returned (.slice (some ⟨g, 0, none⟩) (insAll [] Z).length cap)) w6 := ⟨g, cap, rfl, own_le ho6 (Nat.le_succ _), hbw w6 hg6⟩
        clear hasc hbw ho6 hg6
        go_wp2
        go_ret
        exact hpost


theorem kids_le (t : Fm) : t.kids.length + 1 ≤ szFm t := by
  have h1 := szFm_eq t
  have h2 := szFms_cnt t.kids
  omega
theorem kid_less {t : Fm} {i : Nat} (h : i < t.kids.length) : szFm (fmAt t.kids i) < szFm t := by
  have h1 := szFm_eq t
  have h2 := szFm_at h
  omega

/-- The atoms that a formula names, in the program. -/
theorem atomsIn_any : ∀ (n : Nat) (t : Fm), szFm t ≤ n → n ≤ 1048577 → NamesC 62 t
  | 0, t, h, _ => by have := kids_le t; omega
  | n + 1, t, h, hn => atomsIn_step t (by omega) (by have := kids_le t; omega) fun i hi => atomsIn_any n (fmAt t.kids i) (by have := kid_less hi; omega) (by omega)
/-- The same, in the model. -/
theorem l6Names_any : ∀ (n : Nat) (t : Fm), szFm t ≤ n → n ≤ 1048577 → NamesC 59 t
  | 0, t, h, _ => by have := kids_le t; omega
  | n + 1, t, h, hn => l6Names_step t (by omega) (by have := kids_le t; omega) fun i hi => l6Names_any n (fmAt t.kids i) (by have := kid_less hi; omega) (by omega)

theorem fmRow4 {w : World} {g : Nat} {a b c d : Value} {T : TypeId} (h : w.heap[g]? = some (.cells #[a, b, c, d] T (0, 0))) : w.cell? ⟨g, 0, none⟩ = some a ∧ w.cell? ⟨g, 1, none⟩ = some b ∧ w.cell? ⟨g, 2, none⟩ = some c ∧ w.cell? ⟨g, 3, none⟩ = some d := by
  refine ⟨?_, ?_, ?_, ?_⟩ <;> rw [cell_of_row w g _ _ _ _ h] <;> rfl
/-- Whether a value is a formula of a width. -/
def isFmB (z : Int) (t : Fm) : Bool := fwB 6 z t && decide ((namesFm t).length ≤ 3)

set_option maxRecDepth 100000 in
set_option maxHeartbeats 2000000 in
theorem isFormula_impl (t : Fm) (z : Int) (x : Value) (w : World) (hc : cntFm t ≤ 1048576) (hx : FmIn w x t) :
    Calls Try.prog 33 #[x, .int .i64 z] w (BoolP (isFmB z t) w) := by
  have hf := fitFm_of t hc
  have hX := hx
  obtain ⟨B, e, rfl, hk⟩ := hx
  have hb0 : Below w.heap.size w (w.alloc (.cells #[.int .i64 t.op, .int .i64 t.fa, .int .i64 t.fb, .slice B t.kids.length e] 51)) := (Below.refl _ _).alloc (Nat.le_refl _) _
  have k0 := heap_alloc_new w (.cells #[.int .i64 t.op, .int .i64 t.fa, .int .i64 t.fb, .slice B t.kids.length e] 51)
  have hwt := within_any 6 (Nat.le_refl _) 6 rfl t z _ _ hf (hX.below hb0)
  have hat := fun W (h : Below w.heap.size w W) => atomsIn_any 1048577 t (by have := szFm_cnt t; omega) (Nat.le_refl _) _ W (hX.below h)
  have HN := Lib.hid (namesFm_len t)
  have hsz := szFm_cnt t
  have hlen : (namesFm t).length ≤ 1048577 := by have := HN.out; omega
  unfold isFmB
  generalize fwB 6 z t = r at *
  generalize namesFm t = N1 at *
  have HB0 := Lib.hid hb0
  clear HN hsz hf hX hk hc
  cases r with
  | false =>
    go_enter Try.func33, Try.ntmps33
    go_wp2_with (go_at_call 61; refine hwt.mono ?_; rintro e w2 ⟨rfl, hb2⟩; have hb3 := HB0.out.trans (hb2.mono HB0.out.size))
    go_ret
    exact ⟨rfl, hb3⟩
  | true =>
    go_enter Try.func33, Try.ntmps33
    go_wp2_with (go_at_call 61; refine hwt.mono ?_; rintro e w2 ⟨rfl, hb2⟩; have hb3 := HB0.out.trans (hb2.mono HB0.out.size); have k2 := (hb2.block _ (OrbK.box_lt k0)).trans k0; obtain ⟨m0, m1, m2, m3⟩ := fmRow4 k2)
    refine (hat _ hb3).mono ?_
    rintro e w4 ⟨g4, cap4, rfl, ho4, hb4⟩
    have hb5 := hb3.trans (hb4.mono hb3.size)
    clear hat ho4 hb4 hb3 hb2 k2 k0 m0 m1 m2 m3 hwt hb0
    go_wp2
    go_ret
    exact ⟨bool_end (by rw [Bool.eq_iff_iff]; simp; omega), hb5⟩
end Go.Proofs.Ytjjokghcjgighaa
