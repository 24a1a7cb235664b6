/-
  All atoms of a term in the model, as a contract.
-/
import Derived.Test.YtnomidnjglbedaaKAtomsOf15
namespace Go.Proofs.Ytnomidnjglbedaa
open Go.RowKit Go.Sort

set_option maxRecDepth 100000 in
set_option maxHeartbeats 8000000 in
theorem l2Atoms_step (t : Tm) (x : Value) (w : World) (hx : TmIn w x t) (hs : shapeB t = true) (hsz : szT t ≤ 60) (hcc : cntT t ≤ 1048576)
    (ih : ∀ i, i < t.kids.length → ∀ (w' : World) (y : Value), TmIn w' y (tmAt t.kids i) → Calls Try.prog 73 #[y] w' (InsPost w'.heap.size (atU (tmAt t.kids i)) w')) :
    Calls Try.prog 73 #[x] w (InsPost w.heap.size (atU t) w) := by
  obtain ⟨i0, hi0, hz0, hz1, hz2⟩ := info_parts int_infoM
  have HS := Lib.hid hz2
  clear hz2
  obtain ⟨A, c, kv, rfl, hp, hk⟩ := hx
  obtain ⟨B, d, rfl⟩ := hk.form
  have hbig : szT t + cntT t ≤ 1048636 := by omega
  have hr : Hid (∀ k, t.kids.length ≤ k → atK t k = atU t) := Lib.hid (fun k h => atK_all h)
  rw [szT_eq] at hsz
  rw [cntT_eq] at hcc
  have hkl : t.kids.length ≤ 60 := by have := len_szTs t.kids; omega
  have hb0 : Below w.heap.size w (w.alloc (.cells #[.int .i64 t.op, .int .i64 t.num, .slice A t.perm.length c, .slice B t.kids.length d] 31)) := (Below.refl _ _).alloc (Nat.le_refl _) _
  have hla := l1Atoms_any A none c 0 t.perm [] _ (hp.below hb0) (fun h => absurd h (by simp)) (by omega) (by simp)
  clear hp
  go_enter Try.func73, Try.ntmps73
  go_wp2_with fail
  refine hla.mono ?_
  rintro e w1 ⟨v, rfl, ⟨g, cap, rfl, hcap, ho⟩, hb1⟩
  obtain ⟨b0, b1, b2, b3⟩ := box4 hb1
  clear hla
  by_cases hop1 : t.op = 1
  · have hX : Hid (atomsL t.perm [] = []) := perm_named hs (.inl hop1)
    have hst0 : Hid (atK t 0 = [t.num]) := atK_named (.inl hop1)
    rw [hX.out] at ho hcap ⊢
    have ho2 := ho.alloc (.cells #[.int .i64 t.num] 3)
    have hb2 := hb1.alloc hb1.size (.cells #[.int .i64 t.num] 3)
    have hcell : (w1.alloc (.cells #[.int .i64 t.num] 3)).cell? ⟨w1.heap.size, 0, none⟩ = some (.int .i64 t.num) := by simp
    have HC := Lib.hid (one_cell hcell)
    have hsz1 := hb1.size
    rw [hop1] at b0
    clear hX hcell ho hop1 hs
    go_wp2_with (at_builtin; refine wpList_append_own _ rfl (.tmp 19) (.tmp 22) 36 rfl (w.alloc (.cells #[.int .i64 t.op, .int .i64 t.num, .slice A t.perm.length c, .slice B t.kids.length d] 31)).heap.size 3 i0 (.int .i64 0) 1 8 Try.underlying36 hi0 hz0 hz1 HS.out rfl (by decide) _ 0 _ rfl ho2 ⟨w1.heap.size, 0, none⟩ 1 1 [.int .i64 t.num] rfl rfl HC.out (int_one _) ?c3 ?c4 ?c5 ?_)
    case c3 => unfold maxLen; omega
    case c4 => omega
    case c5 => exact hb2.size
    intro v2 w2 ho3 hg3 _
    have hb3 := below_own hb2 ho2 (Nat.le_refl _) hb2.size hg3
    obtain ⟨g6, cap6, rfl⟩ := own_row_form ho3 (by omega)
    have hcap6 : 1 ≤ cap6 := by
      rcases ho3.2 with ⟨h', _⟩ | ⟨g', cap', cur, h', _, _, hn, _⟩
      · simp at h'
      · simp only [Value.slice.injEq] at h'
        omega
    have hst : OwnI w2 w.heap.size (.slice (some ⟨g6, 0, none⟩) (0 + 1) cap6) (atK t 0) := by
      rw [hst0.out]
      exact ⟨g6, cap6, rfl, hcap6, own_le ho3 (by simp)⟩
    obtain ⟨b0, b1, b2, b3⟩ := box4 hb3
    have hs1 := hb0.trans (hb3.mono hb0.size)
    clear ho2 hb2 HC hsz1 ho3 hg3 hb3 hcap6 hst0 hb1 hb0
    go_wp2
    go_loopw [3, 27] (fun v i wr => ∃ k : Nat, k ≤ t.kids.length ∧ i = .int .i64 k ∧ OwnI wr w.heap.size v (atK t k) ∧ Below w.heap.size w wr) (fun _ i _ => t.kids.length - (intOf i).toNat)
    case atStart => exact ⟨0, Nat.zero_le _, rfl, hst, hs1⟩
    case round =>
      clear hst hs1 b0 b1 b2 b3
      obtain ⟨k, hk', rfl, ⟨g, cap, rfl, hcap, ho⟩, hb⟩ := hrel
      by_cases hlt : k < t.kids.length
      · obtain ⟨b, off, rfl, hbl, hget⟩ := (hk.below hb).get (by omega)
        obtain ⟨A1, c1, kv1, d0, d1, d2, d3, hp1, hk1⟩ := hget k hlt
        obtain ⟨B1, e1, rfl⟩ := hk1.form
        have hbx : Below wr.heap.size wr (wr.alloc (.cells #[.int .i64 (tmAt t.kids k).op, .int .i64 (tmAt t.kids k).num, .slice A1 (tmAt t.kids k).perm.length c1, .slice B1 (tmAt t.kids k).kids.length e1] 31)) := (Below.refl _ _).alloc (Nat.le_refl _) _
        have hct := ih k hlt _ _ ⟨A1, c1, _, rfl, hp1.below hbx, hk1.below hbx⟩
        have hb2 := hb.trans (hbx.mono hb.size)
        have hnx := Lib.hid (atK_next hlt)
        have hlK := Nat.le_trans (atK_len t k) hbig
        have hlL : (atU (tmAt t.kids k)).length ≤ 1048636 := by
          have h1 := atU_len (tmAt t.kids k)
          have h2 := szT_at hlt
          have h3 := cntT_at hlt
          omega
        have hKa := Lib.hid (asc_atK t k)
        have hox := own_below ho hbx
        generalize tmAt t.kids k = u at d0 d1 d2 d3 hct hbx hb2 hnx hlL hox
        generalize atK t k = X at hnx hlK hKa hcap ho hox ⊢
        generalize atU u = Y at hct hnx hlL
        clear hget hp1 hk1 hbl hbx hb ih hk ho hr
        go_wp2_with fail
        refine hct.mono ?_
        rintro e w2 hpost
        obtain ⟨v2, rfl, ⟨g2, cap2, rfl, _, ho2⟩, hb3⟩ := insPost_own hpost
        have hia : IntsAt w2 (some ⟨g2, 0, none⟩) Y := by
          obtain ⟨A, c, e, h⟩ := own_intsAt ho2
          simp only [Value.slice.injEq] at e
          rw [e.1]
          exact h
        have hbs := hb2.trans (hb3.mono hb2.size)
        have hst2 : OwnI w2 w.heap.size (.slice (some ⟨g, 0, none⟩) X.length cap) (insAll X (Y.take 0)) := ⟨g, cap, rfl, hcap, own_below hox hb3⟩
        generalize X.length = N at hst2 ⊢
        clear hct hb2 hb3 d0 d1 d2 d3 hpost ho2 hox hcap
        go_wp2
        go_loopw [3, 34] (fun v i wr => ∃ j : Nat, j ≤ Y.length ∧ i = .int .i64 j ∧ OwnI wr w.heap.size v (insAll X (Y.take j)) ∧ Below w.heap.size w wr ∧ Below w2.heap.size w2 wr) (fun _ i _ => Y.length - (intOf i).toNat)
        case atStart => exact ⟨0, Nat.zero_le _, rfl, hst2, hbs, Below.refl _ _⟩
        case round =>
          clear hst2 hbs
          obtain ⟨j, hj, rfl, ⟨g3, cap3, rfl, hcap3, ho3⟩, hb4, hb5⟩ := hrel
          by_cases hlj : j < Y.length
          · obtain ⟨b4, o4, hbo, hlt4, hc4⟩ := hia.below hb5 (by omega)
            simp only [Option.some.injEq, Addr.mk.injEq] at hbo
            obtain ⟨rfl, rfl, _⟩ := hbo
            have d4 := hc4 j hlj
            rw [Nat.zero_add] at d4
            have hlen := length_insAll X (Y.take j)
            rw [List.length_take] at hlen
            have hins := l1Insert_any w.heap.size g3 cap3 _ (itAt Y j) _ ho3 hcap3 (by omega) (asc_insAll _ _ hKa.out)
            have hnext : Hid (insAll X (Y.take (j + 1)) = insL (insAll X (Y.take j)) (itAt Y j)) := insAll_next X hlj
            generalize insAll X (Y.take j) = Z at hins hnext hlen hcap3 ⊢
            generalize itAt Y j = a at d4 hins hnext
            clear ho3 hc4 hia hlen
            go_wp2_with fail
            refine hins.mono ?_
            rintro e w6 hpost
            obtain ⟨v6, rfl, hv6, hb6⟩ := insPost_own hpost
            rw [← hnext.out] at hv6
            have hb7 := hb4.trans (hb6.mono hb4.size)
            have hb8 := hb5.trans (hb6.mono hb5.size)
            clear hpost hins hnext hb4 hb5 hb6 d4
            go_wp2_with fail
            refine ⟨⟨j + 1, by omega, by go_num, hv6, hb7, hb8⟩, ?_⟩
            simp only [intOf]
            omega
          · have hov2 : OwnI wr w.heap.size (.slice (some ⟨g3, 0, none⟩) (insAll X (Y.take j)).length cap3) (atK t (k + 1)) := by
              rw [← hnx.out, List.take_of_length_le (show Y.length ≤ j by omega)] at *
              exact ⟨g3, cap3, rfl, hcap3, ho3⟩
            generalize (insAll X (Y.take j)).length = M at hov2 ⊢
            clear ho3 hcap3 hia hb5 hnx hKa
            go_wp2
            refine ⟨⟨k + 1, by omega, by go_num, hov2, hb4⟩, ?_⟩
            simp only [intOf]
            omega
      · have hpost : InsPost w.heap.size (atU t) w (.returned (.slice (some ⟨g, 0, none⟩) (atK t k).length cap)) wr := by
          rw [hr.out k (by omega)] at ho hcap ⊢
          exact ⟨g, cap, rfl, ho, hb⟩
        clear ih hk hb ho hcap hr
        go_wp2
        go_ret
        exact hpost
  · by_cases hop3 : t.op = 3
    · have hX : Hid (atomsL t.perm [] = []) := perm_named hs (.inr hop3)
      have hst0 : Hid (atK t 0 = [t.num]) := atK_named (.inr hop3)
      rw [hX.out] at ho hcap ⊢
      have ho2 := ho.alloc (.cells #[.int .i64 t.num] 3)
      have hb2 := hb1.alloc hb1.size (.cells #[.int .i64 t.num] 3)
      have hcell : (w1.alloc (.cells #[.int .i64 t.num] 3)).cell? ⟨w1.heap.size, 0, none⟩ = some (.int .i64 t.num) := by simp
      have HC := Lib.hid (one_cell hcell)
      have hsz1 := hb1.size
      rw [hop3] at b0
      clear hX hcell ho hop3 hop1 hs
      go_wp2_with (at_builtin; refine wpList_append_own _ rfl (.tmp 19) (.tmp 22) 36 rfl (w.alloc (.cells #[.int .i64 t.op, .int .i64 t.num, .slice A t.perm.length c, .slice B t.kids.length d] 31)).heap.size 3 i0 (.int .i64 0) 1 8 Try.underlying36 hi0 hz0 hz1 HS.out rfl (by decide) _ 0 _ rfl ho2 ⟨w1.heap.size, 0, none⟩ 1 1 [.int .i64 t.num] rfl rfl HC.out (int_one _) ?c3 ?c4 ?c5 ?_)
      case c3 => unfold maxLen; omega
      case c4 => omega
      case c5 => exact hb2.size
      intro v2 w2 ho3 hg3 _
      have hb3 := below_own hb2 ho2 (Nat.le_refl _) hb2.size hg3
      obtain ⟨g6, cap6, rfl⟩ := own_row_form ho3 (by omega)
      have hcap6 : 1 ≤ cap6 := by
        rcases ho3.2 with ⟨h', _⟩ | ⟨g', cap', cur, h', _, _, hn, _⟩
        · simp at h'
        · simp only [Value.slice.injEq] at h'
          omega
      have hst : OwnI w2 w.heap.size (.slice (some ⟨g6, 0, none⟩) (0 + 1) cap6) (atK t 0) := by
        rw [hst0.out]
        exact ⟨g6, cap6, rfl, hcap6, own_le ho3 (by simp)⟩
      obtain ⟨b0, b1, b2, b3⟩ := box4 hb3
      have hs1 := hb0.trans (hb3.mono hb0.size)
      clear ho2 hb2 HC hsz1 ho3 hg3 hb3 hcap6 hst0 hb1 hb0
      go_wp2
      go_loopw [3, 27] (fun v i wr => ∃ k : Nat, k ≤ t.kids.length ∧ i = .int .i64 k ∧ OwnI wr w.heap.size v (atK t k) ∧ Below w.heap.size w wr) (fun _ i _ => t.kids.length - (intOf i).toNat)
      case atStart => exact ⟨0, Nat.zero_le _, rfl, hst, hs1⟩
      case round =>
        clear hst hs1 b0 b1 b2 b3
        obtain ⟨k, hk', rfl, ⟨g, cap, rfl, hcap, ho⟩, hb⟩ := hrel
        by_cases hlt : k < t.kids.length
        · obtain ⟨b, off, rfl, hbl, hget⟩ := (hk.below hb).get (by omega)
          obtain ⟨A1, c1, kv1, d0, d1, d2, d3, hp1, hk1⟩ := hget k hlt
          obtain ⟨B1, e1, rfl⟩ := hk1.form
          have hbx : Below wr.heap.size wr (wr.alloc (.cells #[.int .i64 (tmAt t.kids k).op, .int .i64 (tmAt t.kids k).num, .slice A1 (tmAt t.kids k).perm.length c1, .slice B1 (tmAt t.kids k).kids.length e1] 31)) := (Below.refl _ _).alloc (Nat.le_refl _) _
          have hct := ih k hlt _ _ ⟨A1, c1, _, rfl, hp1.below hbx, hk1.below hbx⟩
          have hb2 := hb.trans (hbx.mono hb.size)
          have hnx := Lib.hid (atK_next hlt)
          have hlK := Nat.le_trans (atK_len t k) hbig
          have hlL : (atU (tmAt t.kids k)).length ≤ 1048636 := by
            have h1 := atU_len (tmAt t.kids k)
            have h2 := szT_at hlt
            have h3 := cntT_at hlt
            omega
          have hKa := Lib.hid (asc_atK t k)
          have hox := own_below ho hbx
          generalize tmAt t.kids k = u at d0 d1 d2 d3 hct hbx hb2 hnx hlL hox
          generalize atK t k = X at hnx hlK hKa hcap ho hox ⊢
          generalize atU u = Y at hct hnx hlL
          clear hget hp1 hk1 hbl hbx hb ih hk ho hr
          go_wp2_with fail
          refine hct.mono ?_
          rintro e w2 hpost
          obtain ⟨v2, rfl, ⟨g2, cap2, rfl, _, ho2⟩, hb3⟩ := insPost_own hpost
          have hia : IntsAt w2 (some ⟨g2, 0, none⟩) Y := by
            obtain ⟨A, c, e, h⟩ := own_intsAt ho2
            simp only [Value.slice.injEq] at e
            rw [e.1]
            exact h
          have hbs := hb2.trans (hb3.mono hb2.size)
          have hst2 : OwnI w2 w.heap.size (.slice (some ⟨g, 0, none⟩) X.length cap) (insAll X (Y.take 0)) := ⟨g, cap, rfl, hcap, own_below hox hb3⟩
          generalize X.length = N at hst2 ⊢
          clear hct hb2 hb3 d0 d1 d2 d3 hpost ho2 hox hcap
          go_wp2
          go_loopw [3, 34] (fun v i wr => ∃ j : Nat, j ≤ Y.length ∧ i = .int .i64 j ∧ OwnI wr w.heap.size v (insAll X (Y.take j)) ∧ Below w.heap.size w wr ∧ Below w2.heap.size w2 wr) (fun _ i _ => Y.length - (intOf i).toNat)
          case atStart => exact ⟨0, Nat.zero_le _, rfl, hst2, hbs, Below.refl _ _⟩
          case round =>
            clear hst2 hbs
            obtain ⟨j, hj, rfl, ⟨g3, cap3, rfl, hcap3, ho3⟩, hb4, hb5⟩ := hrel
            by_cases hlj : j < Y.length
            · obtain ⟨b4, o4, hbo, hlt4, hc4⟩ := hia.below hb5 (by omega)
              simp only [Option.some.injEq, Addr.mk.injEq] at hbo
              obtain ⟨rfl, rfl, _⟩ := hbo
              have d4 := hc4 j hlj
              rw [Nat.zero_add] at d4
              have hlen := length_insAll X (Y.take j)
              rw [List.length_take] at hlen
              have hins := l1Insert_any w.heap.size g3 cap3 _ (itAt Y j) _ ho3 hcap3 (by omega) (asc_insAll _ _ hKa.out)
              have hnext : Hid (insAll X (Y.take (j + 1)) = insL (insAll X (Y.take j)) (itAt Y j)) := insAll_next X hlj
              generalize insAll X (Y.take j) = Z at hins hnext hlen hcap3 ⊢
              generalize itAt Y j = a at d4 hins hnext
              clear ho3 hc4 hia hlen
              go_wp2_with fail
              refine hins.mono ?_
              rintro e w6 hpost
              obtain ⟨v6, rfl, hv6, hb6⟩ := insPost_own hpost
              rw [← hnext.out] at hv6
              have hb7 := hb4.trans (hb6.mono hb4.size)
              have hb8 := hb5.trans (hb6.mono hb5.size)
              clear hpost hins hnext hb4 hb5 hb6 d4
              go_wp2_with fail
              refine ⟨⟨j + 1, by omega, by go_num, hv6, hb7, hb8⟩, ?_⟩
              simp only [intOf]
              omega
            · have hov2 : OwnI wr w.heap.size (.slice (some ⟨g3, 0, none⟩) (insAll X (Y.take j)).length cap3) (atK t (k + 1)) := by
                rw [← hnx.out, List.take_of_length_le (show Y.length ≤ j by omega)] at *
                exact ⟨g3, cap3, rfl, hcap3, ho3⟩
              generalize (insAll X (Y.take j)).length = M at hov2 ⊢
              clear ho3 hcap3 hia hb5 hnx hKa
              go_wp2
              refine ⟨⟨k + 1, by omega, by go_num, hov2, hb4⟩, ?_⟩
              simp only [intOf]
              omega
        · have hpost : InsPost w.heap.size (atU t) w (.returned (.slice (some ⟨g, 0, none⟩) (atK t k).length cap)) wr := by
            rw [hr.out k (by omega)] at ho hcap ⊢
            exact ⟨g, cap, rfl, ho, hb⟩
          clear ih hk hb ho hcap hr
          go_wp2
          go_ret
          exact hpost
    · have hst0 : Hid (atK t 0 = atomsL t.perm []) := atK_else hs hop1 hop3
      have hst : OwnI w1 w.heap.size (.slice (some ⟨g, 0, none⟩) (atomsL t.perm []).length cap) (atK t 0) := by
        rw [hst0.out]
        exact ⟨g, cap, rfl, hcap, own_le ho (by simp)⟩
      have hs1 := hb0.trans (hb1.mono hb0.size)
      have k1 : (t.op == 1) = false := by simp [hop1]
      have k3 : (t.op == 3) = false := by simp [hop3]
      generalize (atomsL t.perm []).length = N0 at hst ⊢
      generalize t.op = o at b0 k1 k3
      clear hop1 hop3 hst0 ho hcap hb1 hs hb0
      go_wp2
      go_loopw [3, 27] (fun v i wr => ∃ k : Nat, k ≤ t.kids.length ∧ i = .int .i64 k ∧ OwnI wr w.heap.size v (atK t k) ∧ Below w.heap.size w wr) (fun _ i _ => t.kids.length - (intOf i).toNat)
      case atStart => exact ⟨0, Nat.zero_le _, rfl, hst, hs1⟩
      case round =>
        clear hst hs1 b0 b1 b2 b3
        obtain ⟨k, hk', rfl, ⟨g, cap, rfl, hcap, ho⟩, hb⟩ := hrel
        by_cases hlt : k < t.kids.length
        · obtain ⟨b, off, rfl, hbl, hget⟩ := (hk.below hb).get (by omega)
          obtain ⟨A1, c1, kv1, d0, d1, d2, d3, hp1, hk1⟩ := hget k hlt
          obtain ⟨B1, e1, rfl⟩ := hk1.form
          have hbx : Below wr.heap.size wr (wr.alloc (.cells #[.int .i64 (tmAt t.kids k).op, .int .i64 (tmAt t.kids k).num, .slice A1 (tmAt t.kids k).perm.length c1, .slice B1 (tmAt t.kids k).kids.length e1] 31)) := (Below.refl _ _).alloc (Nat.le_refl _) _
          have hct := ih k hlt _ _ ⟨A1, c1, _, rfl, hp1.below hbx, hk1.below hbx⟩
          have hb2 := hb.trans (hbx.mono hb.size)
          have hnx := Lib.hid (atK_next hlt)
          have hlK := Nat.le_trans (atK_len t k) hbig
          have hlL : (atU (tmAt t.kids k)).length ≤ 1048636 := by
            have h1 := atU_len (tmAt t.kids k)
            have h2 := szT_at hlt
            have h3 := cntT_at hlt
            omega
          have hKa := Lib.hid (asc_atK t k)
          have hox := own_below ho hbx
          generalize tmAt t.kids k = u at d0 d1 d2 d3 hct hbx hb2 hnx hlL hox
          generalize atK t k = X at hnx hlK hKa hcap ho hox ⊢
          generalize atU u = Y at hct hnx hlL
          clear hget hp1 hk1 hbl hbx hb ih hk ho hr
          go_wp2_with fail
          refine hct.mono ?_
          rintro e w2 hpost
          obtain ⟨v2, rfl, ⟨g2, cap2, rfl, _, ho2⟩, hb3⟩ := insPost_own hpost
          have hia : IntsAt w2 (some ⟨g2, 0, none⟩) Y := by
            obtain ⟨A, c, e, h⟩ := own_intsAt ho2
            simp only [Value.slice.injEq] at e
            rw [e.1]
            exact h
          have hbs := hb2.trans (hb3.mono hb2.size)
          have hst2 : OwnI w2 w.heap.size (.slice (some ⟨g, 0, none⟩) X.length cap) (insAll X (Y.take 0)) := ⟨g, cap, rfl, hcap, own_below hox hb3⟩
          generalize X.length = N at hst2 ⊢
          clear hct hb2 hb3 d0 d1 d2 d3 hpost ho2 hox hcap
          go_wp2
          go_loopw [3, 34] (fun v i wr => ∃ j : Nat, j ≤ Y.length ∧ i = .int .i64 j ∧ OwnI wr w.heap.size v (insAll X (Y.take j)) ∧ Below w.heap.size w wr ∧ Below w2.heap.size w2 wr) (fun _ i _ => Y.length - (intOf i).toNat)
          case atStart => exact ⟨0, Nat.zero_le _, rfl, hst2, hbs, Below.refl _ _⟩
          case round =>
            clear hst2 hbs
            obtain ⟨j, hj, rfl, ⟨g3, cap3, rfl, hcap3, ho3⟩, hb4, hb5⟩ := hrel
            by_cases hlj : j < Y.length
            · obtain ⟨b4, o4, hbo, hlt4, hc4⟩ := hia.below hb5 (by omega)
              simp only [Option.some.injEq, Addr.mk.injEq] at hbo
              obtain ⟨rfl, rfl, _⟩ := hbo
              have d4 := hc4 j hlj
              rw [Nat.zero_add] at d4
              have hlen := length_insAll X (Y.take j)
              rw [List.length_take] at hlen
              have hins := l1Insert_any w.heap.size g3 cap3 _ (itAt Y j) _ ho3 hcap3 (by omega) (asc_insAll _ _ hKa.out)
              have hnext : Hid (insAll X (Y.take (j + 1)) = insL (insAll X (Y.take j)) (itAt Y j)) := insAll_next X hlj
              generalize insAll X (Y.take j) = Z at hins hnext hlen hcap3 ⊢
              generalize itAt Y j = a at d4 hins hnext
              clear ho3 hc4 hia hlen
              go_wp2_with fail
              refine hins.mono ?_
              rintro e w6 hpost
              obtain ⟨v6, rfl, hv6, hb6⟩ := insPost_own hpost
              rw [← hnext.out] at hv6
              have hb7 := hb4.trans (hb6.mono hb4.size)
              have hb8 := hb5.trans (hb6.mono hb5.size)
              clear hpost hins hnext hb4 hb5 hb6 d4
              go_wp2_with fail
              refine ⟨⟨j + 1, by omega, by go_num, hv6, hb7, hb8⟩, ?_⟩
              simp only [intOf]
              omega
            · have hov2 : OwnI wr w.heap.size (.slice (some ⟨g3, 0, none⟩) (insAll X (Y.take j)).length cap3) (atK t (k + 1)) := by
                rw [← hnx.out, List.take_of_length_le (show Y.length ≤ j by omega)] at *
                exact ⟨g3, cap3, rfl, hcap3, ho3⟩
              generalize (insAll X (Y.take j)).length = M at hov2 ⊢
              clear ho3 hcap3 hia hb5 hnx hKa
              go_wp2
              refine ⟨⟨k + 1, by omega, by go_num, hov2, hb4⟩, ?_⟩
              simp only [intOf]
              omega
        · have hpost : InsPost w.heap.size (atU t) w (.returned (.slice (some ⟨g, 0, none⟩) (atK t k).length cap)) wr := by
            rw [hr.out k (by omega)] at ho hcap ⊢
            exact ⟨g, cap, rfl, ho, hb⟩
          clear ih hk hb ho hcap hr
          go_wp2
          go_ret
          exact hpost

theorem l2Atoms_all : ∀ (N : Nat) (t : Tm), szT t ≤ N → N ≤ 60 → goodT t = true → cntT t ≤ 1048576 → ∀ (w : World) (x : Value), TmIn w x t → Calls Try.prog 73 #[x] w (InsPost w.heap.size (atU t) w) := by
  intro N
  induction N with
  | zero => intro t hN; rw [szT_eq] at hN; omega
  | succ N ih =>
    intro t hN h60 hg hc w x hx
    rw [goodT_eq, Bool.and_eq_true] at hg
    refine l2Atoms_step t x w hx hg.1 (by omega) hc fun i hi w' y hy => ?_
    have h3 := szT_at hi
    have h4 := cntT_at hi
    rw [szT_eq] at hN
    rw [cntT_eq] at hc
    exact ih _ (by omega) (by omega) (goodTs_at hg.2 hi) (by omega) w' y hy

set_option maxRecDepth 100000 in
theorem atoms_spec (t : Tm) (x : Value) (w : World) (hx : TmIn w x t) (hc : cntT t ≤ 1048576) :
    Calls Try.prog 22 #[x] w (InsPost w.heap.size (atomsT t) w) := by
  have hgd := fun W hW => isTerm_spec t x W hW hc
  have hx' := hx
  obtain ⟨A, c, kv, rfl, hp, hk⟩ := hx
  obtain ⟨B, d, rfl⟩ := hk.form
  have hb0 : Below w.heap.size w (w.alloc (.cells #[.int .i64 t.op, .int .i64 t.num, .slice A t.perm.length c, .slice B t.kids.length d] 31)) := (Below.refl _ _).alloc (Nat.le_refl _) _
  have hg0 := hgd _ (hx'.below hb0)
  clear hgd hp hk
  by_cases h1 : isTermB t = true
  · have hr := Lib.hid (atomsT_yes h1)
    have hat := fun (W : World) (y : Value) (hW : TmIn W y t) => l2Atoms_all (szT t) t (Nat.le_refl _) (term_size h1) (term_good h1) hc W y hW
    rw [h1] at hg0
    clear h1
    go_enter Try.func22, Try.ntmps22
    go_wp2_with fail
    refine hg0.mono ?_
    rintro e w1 ⟨rfl, hb1⟩
    obtain ⟨b0, b1, b2, b3⟩ := box4 hb1
    have hs1 := hb0.trans (hb1.mono hb0.size)
    have hat1 := hat w1 _ (hx'.below hs1)
    rw [← hr.out] at hat1
    clear hg0 hb0 hb1 hat hx' hr
    go_wp2_with fail
    refine hat1.mono ?_
    rintro e w2 ⟨g, cap, rfl, ho, hb2⟩
    have hpost : InsPost w.heap.size (atomsT t) w (.returned (.slice (some ⟨g, 0, none⟩) (atomsT t).length cap)) w2 := ⟨g, cap, rfl, own_le ho hs1.size, hs1.trans (hb2.mono hs1.size)⟩
    clear hat1 hs1 hb2 ho b0 b1 b2 b3
    go_wp2
    go_ret
    exact hpost
  · have h1' : isTermB t = false := by simpa using h1
    have hr := Lib.hid (atomsT_no h1')
    rw [h1'] at hg0
    clear h1 h1' hx'
    go_enter Try.func22, Try.ntmps22
    go_wp2_with fail
    refine hg0.mono ?_
    rintro e w1 ⟨rfl, hb1⟩
    have hs1 := hb0.trans (hb1.mono hb0.size)
    have hpost : InsPost w.heap.size (atomsT t) w (.returned (.slice (some ⟨w1.heap.size, 0, none⟩) 0 0)) (w1.alloc (.cells #[] 3)) := by
      rw [hr.out]
      exact ⟨_, _, rfl, own_le (World.ownsRow_lit w1 #[] 0 (Nat.le_refl _) (by decide) rfl) hs1.size, hs1.alloc hs1.size _⟩
    clear hg0 hb0 hb1 hr hs1
    go_wp2
    go_ret
    exact hpost

end Go.Proofs.Ytnomidnjglbedaa
