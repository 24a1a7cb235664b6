/-
  The free atoms of a term: plain words, and in the model as a contract.
-/
import Derived.Test.YtbfkfklaplgebaaKIsFreshFor13
import Derived.Test.YtbfkfklaplgebaaKIsFreshFor7
namespace Go.Proofs.Ytbfkfklaplgebaa
open Go.RowKit Go.Sort

/-- Whether an atom that is free in a kid is free in the node, too. -/
def keepB (o n a : Int) : Bool := !(decide (o = 3) && decide (a = n))
mutual
/-- The free atoms, ascending. -/
def freeT : Tm → List Int
  | .mk o n _ ks => insAll (if o = 1 then [n] else []) ((freeTs ks).filter (keepB o n))
def freeTs : List Tm → List Int
  | [] => []
  | t :: r => freeT t ++ freeTs r
end
theorem freeTs_append : ∀ a b : List Tm, freeTs (a ++ b) = freeTs a ++ freeTs b
  | [], b => by simp [freeTs]
  | t :: r, b => by rw [List.cons_append, freeTs, freeTs, freeTs_append r b, List.append_assoc]
mutual
theorem freeT_len : ∀ t : Tm, (freeT t).length ≤ szT t
  | .mk o n p ks => by
    have h1 := length_insAll (if o = 1 then [n] else []) ((freeTs ks).filter (keepB o n))
    have h2 := List.length_filter_le (keepB o n) (freeTs ks)
    have h3 := freeTs_len ks
    have h4 : (if o = 1 then [n] else [] : List Int).length ≤ 1 := by split <;> simp
    rw [freeT, szT]
    omega
theorem freeTs_len : ∀ ts : List Tm, (freeTs ts).length ≤ szTs ts
  | [] => by simp [freeTs]
  | t :: r => by
    have h1 := freeT_len t
    have h2 := freeTs_len r
    rw [freeTs, List.length_append, szTs]
    omega
end
/-- .. of a node and its first kids. -/
def frK (t : Tm) (k : Nat) : List Int := insAll (if t.op = 1 then [t.num] else []) ((freeTs (t.kids.take k)).filter (keepB t.op t.num))
theorem asc_frK (t : Tm) (k : Nat) : AscP (frK t k) := by
  refine asc_insAll _ _ ?_
  split
  · exact List.pairwise_singleton _ _
  · exact List.Pairwise.nil
theorem frK_zero1 {t : Tm} (h : t.op = 1) : frK t 0 = [t.num] := by simp [frK, freeTs, h, insAll]
theorem frK_zero {t : Tm} (h : ¬ t.op = 1) : frK t 0 = [] := by simp [frK, freeTs, h, insAll]
theorem frK_all {t : Tm} {k : Nat} (h : t.kids.length ≤ k) : frK t k = freeT t := by
  rw [frK, List.take_of_length_le h]
  cases t with
  | mk o n p ks => rw [freeT]; rfl
theorem frK_next {t : Tm} {k : Nat} (h : k < t.kids.length) : insAll (frK t k) ((freeT (tmAt t.kids k)).filter (keepB t.op t.num)) = frK t (k + 1) := by
  rw [frK, frK, tm_take_next h, freeTs_append, List.filter_append]
  unfold insAll
  rw [List.foldl_append]
  simp [freeTs]
theorem frK_len (t : Tm) (k : Nat) : (frK t k).length ≤ szT t := by
  have h1 := length_insAll (if t.op = 1 then [t.num] else []) ((freeTs (t.kids.take k)).filter (keepB t.op t.num))
  have h2 := List.length_filter_le (keepB t.op t.num) (freeTs (t.kids.take k))
  have h3 := freeTs_len (t.kids.take k)
  have h4 : (if t.op = 1 then [t.num] else [] : List Int).length ≤ 1 := by split <;> simp
  have h5 := szTs_take t.kids k
  rw [szT_eq]
  unfold frK
  omega
theorem fstep_yes {X Y : List Int} {kp : Int → Bool} {j : Nat} (h : j < Y.length) (hk : kp (itAt Y j) = true) : insAll X ((Y.take (j + 1)).filter kp) = insL (insAll X ((Y.take j).filter kp)) (itAt Y j) := by
  rw [itake_next h, List.filter_append]
  unfold insAll
  rw [List.foldl_append]
  simp [List.filter, hk]
theorem fstep_no {X Y : List Int} {kp : Int → Bool} {j : Nat} (h : j < Y.length) (hk : kp (itAt Y j) = false) : insAll X ((Y.take (j + 1)).filter kp) = insAll X ((Y.take j).filter kp) := by
  rw [itake_next h, List.filter_append]
  simp [List.filter, hk]

set_option maxRecDepth 100000 in
set_option maxHeartbeats 8000000 in
theorem l2Free_step (t : Tm) (x : Value) (w : World) (hx : TmIn w x t) (hsz : szT t ≤ 60)
    (ih : ∀ i, i < t.kids.length → ∀ (w' : World) (y : Value), TmIn w' y (tmAt t.kids i) → Calls Try.prog 45 #[y] w' (InsPost w'.heap.size (freeT (tmAt t.kids i)) w')) :
    Calls Try.prog 45 #[x] w (InsPost w.heap.size (freeT t) w) := by
  obtain ⟨i0, hi0, hz0, hz1, hz2⟩ := info_parts int_infoM
  have HS := Lib.hid hz2
  clear hz2
  obtain ⟨A, c, kv, rfl, hp, hk⟩ := hx
  obtain ⟨B, d, rfl⟩ := hk.form
  have hr : Hid (∀ k, t.kids.length ≤ k → frK t k = freeT t) := Lib.hid (fun k h => frK_all h)
  rw [szT_eq] at hsz
  have hkl : t.kids.length ≤ 60 := by have := len_szTs t.kids; omega
  have hb0 : Below w.heap.size w (w.alloc (.cells #[.int .i64 t.op, .int .i64 t.num, .slice A t.perm.length c, .slice B t.kids.length d] 31)) := (Below.refl _ _).alloc (Nat.le_refl _) _
  have hbA : Below (w.alloc (.cells #[.int .i64 t.op, .int .i64 t.num, .slice A t.perm.length c, .slice B t.kids.length d] 31)).heap.size (w.alloc (.cells #[.int .i64 t.op, .int .i64 t.num, .slice A t.perm.length c, .slice B t.kids.length d] 31)) ((w.alloc (.cells #[.int .i64 t.op, .int .i64 t.num, .slice A t.perm.length c, .slice B t.kids.length d] 31)).alloc (.cells #[] 3)) := (Below.refl _ _).alloc (Nat.le_refl _) _
  have ho0 : ((w.alloc (.cells #[.int .i64 t.op, .int .i64 t.num, .slice A t.perm.length c, .slice B t.kids.length d] 31)).alloc (.cells #[] 3)).ownsRow (w.alloc (.cells #[.int .i64 t.op, .int .i64 t.num, .slice A t.perm.length c, .slice B t.kids.length d] 31)).heap.size 3 1 (.slice (some ⟨w.heap.size + 1, 0, none⟩) 0 0) 0 [] := by
    have h9 := World.ownsRow_lit (base := (w.alloc (.cells #[.int .i64 t.op, .int .i64 t.num, .slice A t.perm.length c, .slice B t.kids.length d] 31)).heap.size) (e := 3) (size := 1) (w.alloc (.cells #[.int .i64 t.op, .int .i64 t.num, .slice A t.perm.length c, .slice B t.kids.length d] 31)) #[] 0 (Nat.le_refl _) (by decide) rfl
    rw [World.size_alloc] at h9 ⊢
    exact h9
  clear hp
  go_enter Try.func45, Try.ntmps45
  by_cases hop1 : t.op = 1
  · have HKP : Hid (∀ a, keepB t.op t.num a = true) := Lib.hid (fun a => by rw [keepB, hop1]; rfl)
    have hst0 : Hid (frK t 0 = [t.num]) := frK_zero1 hop1
    have HOP := Lib.hid hop1
    have ho2 := ho0.alloc (.cells #[.int .i64 t.num] 3)
    have hb2 := hbA.alloc hbA.size (.cells #[.int .i64 t.num] 3)
    have hcell : (((w.alloc (.cells #[.int .i64 t.op, .int .i64 t.num, .slice A t.perm.length c, .slice B t.kids.length d] 31)).alloc (.cells #[] 3)).alloc (.cells #[.int .i64 t.num] 3)).cell? ⟨w.heap.size + 2, 0, none⟩ = some (.int .i64 t.num) := by
      have h9 := heap_alloc_new ((w.alloc (.cells #[.int .i64 t.op, .int .i64 t.num, .slice A t.perm.length c, .slice B t.kids.length d] 31)).alloc (.cells #[] 3)) (.cells #[.int .i64 t.num] 3)
      rw [World.size_alloc, World.size_alloc] at h9
      rw [cell_of_row _ _ _ _ _ _ h9]; rfl
    have HC := Lib.hid (one_cell hcell)
    have q1 : (t.op == 1) = true := by simp [hop1]
    clear hcell ho0 hbA hop1
    go_wp2_with (at_builtin; refine wpList_append_own _ rfl (.tmp 12) (.tmp 15) 41 rfl (w.alloc (.cells #[.int .i64 t.op, .int .i64 t.num, .slice A t.perm.length c, .slice B t.kids.length d] 31)).heap.size 3 i0 (.int .i64 0) 1 8 Try.underlying41 hi0 hz0 hz1 HS.out rfl (by decide) _ 0 _ rfl ho2 ⟨w.heap.size + 2, 0, none⟩ 1 1 [.int .i64 t.num] rfl rfl HC.out (int_one _) ?c3 ?c4 ?c5 ?_)
    case c3 => unfold maxLen; omega
    case c4 => omega
    case c5 => exact hb2.size
    intro v2 w2 ho3 hg3 _
    have hbw0 := below_own hb2 ho2 (Nat.le_refl _) hb2.size hg3
    obtain ⟨g6, cap6, rfl⟩ := own_row_form ho3 (by omega)
    have hcap6 : 1 ≤ cap6 := by
      rcases ho3.2 with ⟨h', _⟩ | ⟨g', cap', cur, h', _, _, hn, _⟩
      · simp at h'
      · simp only [Value.slice.injEq] at h'
        omega
    have hst : OwnI w2 w.heap.size (.slice (some ⟨g6, 0, none⟩) (0 + 1) cap6) (frK t 0) := by
      rw [hst0.out]
      exact ⟨g6, cap6, rfl, hcap6, own_le ho3 (by simp)⟩
    obtain ⟨b0, b1, b2, b3⟩ := box4 hbw0
    clear ho2 hb2 HC ho3 hg3 hcap6 hst0 q1
    go_wp2
    go_loopw [3, 20] (fun v i wr => ∃ k : Nat, k ≤ t.kids.length ∧ i = .int .i64 k ∧ OwnI wr w.heap.size v (frK t k) ∧ Below (w.alloc (.cells #[.int .i64 t.op, .int .i64 t.num, .slice A t.perm.length c, .slice B t.kids.length d] 31)).heap.size (w.alloc (.cells #[.int .i64 t.op, .int .i64 t.num, .slice A t.perm.length c, .slice B t.kids.length d] 31)) wr) (fun _ i _ => t.kids.length - (intOf i).toNat)
    case atStart => exact ⟨0, Nat.zero_le _, rfl, hst, hbw0⟩
    case round =>
      clear hst b0 b1 b2 b3 hbw0
      obtain ⟨k, hk', rfl, ⟨g, cap, rfl, hcap, ho⟩, hbw⟩ := hrel
      have hb := hb0.trans (hbw.mono hb0.size)
      by_cases hlt : k < t.kids.length
      · obtain ⟨b, off, rfl, hbl, hget⟩ := (hk.below hb).get (by omega)
        obtain ⟨A1, c1, kv1, d0, d1, d2, d3, hp1, hk1⟩ := hget k hlt
        obtain ⟨B1, e1, rfl⟩ := hk1.form
        have hbx : Below wr.heap.size wr (wr.alloc (.cells #[.int .i64 (tmAt t.kids k).op, .int .i64 (tmAt t.kids k).num, .slice A1 (tmAt t.kids k).perm.length c1, .slice B1 (tmAt t.kids k).kids.length e1] 31)) := (Below.refl _ _).alloc (Nat.le_refl _) _
        have hct := ih k hlt _ _ ⟨A1, c1, _, rfl, hp1.below hbx, hk1.below hbx⟩
        have hb2 := hbw.trans (hbx.mono hbw.size)
        have hnx := Lib.hid (frK_next hlt)
        have hlK := frK_len t k
        rw [szT_eq] at hlK
        have hlL : (freeT (tmAt t.kids k)).length ≤ 60 := by
          have h1 := freeT_len (tmAt t.kids k)
          have h2 := szT_at hlt
          omega
        have hKa := Lib.hid (asc_frK t k)
        have hkp := HKP.out
        have hox := own_below ho hbx
        generalize tmAt t.kids k = u at d0 d1 d2 d3 hct hbx hb2 hnx hlL hox
        generalize frK t k = X at hnx hlK hKa hcap ho hox ⊢
        generalize freeT u = Y at hct hnx hlL
        generalize keepB t.op t.num = kp at hnx hkp
        clear HKP
        have HKP := Lib.hid hkp
        clear hget hp1 hk1 hbl hbx hb hbw ih hk ho hr hkp
        go_wp2_with fail
        refine hct.mono ?_
        rintro e w2 hpost
        obtain ⟨v2, rfl, ⟨g2, cap2, rfl, _, ho2⟩, hb3⟩ := insPost_own hpost
        have hia : IntsAt w2 (some ⟨g2, 0, none⟩) Y := by
          obtain ⟨A, c, e, h⟩ := own_intsAt ho2
          simp only [Value.slice.injEq] at e
          rw [e.1]
          exact h
        have hbs := hb2.trans (hb3.mono hb2.size)
        have hst2 : OwnI w2 w.heap.size (.slice (some ⟨g, 0, none⟩) X.length cap) (insAll X ((Y.take 0).filter kp)) := ⟨g, cap, rfl, hcap, own_below hox hb3⟩
        have hXN : Hid (X.length ≤ 60) := by show X.length ≤ 60; omega
        generalize X.length = N at hst2 ⊢
        clear hlK
        clear hct hb2 hb3 d0 d1 d2 d3 hpost ho2 hox hcap
        go_wp2
        go_loopw [3, 27] (fun v i wr => ∃ j : Nat, j ≤ Y.length ∧ i = .int .i64 j ∧ OwnI wr w.heap.size v (insAll X ((Y.take j).filter kp)) ∧ Below (w.alloc (.cells #[.int .i64 t.op, .int .i64 t.num, .slice A t.perm.length c, .slice (some ⟨b, off, none⟩) t.kids.length d] 31)).heap.size (w.alloc (.cells #[.int .i64 t.op, .int .i64 t.num, .slice A t.perm.length c, .slice (some ⟨b, off, none⟩) t.kids.length d] 31)) wr ∧ Below w2.heap.size w2 wr) (fun _ i _ => Y.length - (intOf i).toNat)
        case atStart => exact ⟨0, Nat.zero_le _, rfl, hst2, hbs, Below.refl _ _⟩
        case round =>
          clear hst2 hbs
          obtain ⟨j, hj, rfl, ⟨g3, cap3, rfl, hcap3, ho3⟩, hb4, hb5⟩ := hrel
          obtain ⟨b0, b1, b2, b3⟩ := box4 hb4
          by_cases hlj : j < Y.length
          · obtain ⟨b4, o4, hbo, hlt4, hc4⟩ := hia.below hb5 (by omega)
            simp only [Option.some.injEq, Addr.mk.injEq] at hbo
            obtain ⟨rfl, rfl, _⟩ := hbo
            have d4 := hc4 j hlj
            rw [Nat.zero_add] at d4
            have hlen0 := length_insAll X ((Y.take j).filter kp)
            have hlen1 := List.length_filter_le kp (Y.take j)
            rw [List.length_take] at hlen1
            have hlen : (insAll X ((Y.take j).filter kp)).length ≤ 120 := by have := hXN.out; omega
            clear hlen0 hlen1
            have hins := l1Insert_any w.heap.size g3 cap3 _ (itAt Y j) _ ho3 hcap3 (by omega) (asc_insAll _ _ hKa.out)
            have hkt := HKP.out (itAt Y j)
            have hnext : Hid (insAll X ((Y.take (j + 1)).filter kp) = insL (insAll X ((Y.take j).filter kp)) (itAt Y j)) := fstep_yes hlj hkt
            generalize insAll X ((Y.take j).filter kp) = Z at hins hnext hlen hcap3 ⊢
            generalize itAt Y j = a at d4 hins hnext
            rw [HOP.out] at b0
            clear ho3 hc4 hia hlen hkt b2 b3
            go_wp2_with fail
            refine hins.mono ?_
            rintro e w6 hpost
            obtain ⟨v6, rfl, hv6, hb6⟩ := insPost_own hpost
            rw [← hnext.out] at hv6
            have hb7 := hb4.trans (hb6.mono hb4.size)
            have hb8 := hb5.trans (hb6.mono hb5.size)
            clear hpost hins hnext hb4 hb5 hb6 d4 b0 b1
            go_wp2_with fail
            refine ⟨⟨j + 1, by omega, by go_num, hv6, hb7, hb8⟩, ?_⟩
            simp only [intOf]
            omega
          · have hov2 : OwnI wr w.heap.size (.slice (some ⟨g3, 0, none⟩) (insAll X ((Y.take j).filter kp)).length cap3) (frK t (k + 1)) := by
              rw [← hnx.out, List.take_of_length_le (show Y.length ≤ j by omega)] at *
              exact ⟨g3, cap3, rfl, hcap3, ho3⟩
            generalize (insAll X ((Y.take j).filter kp)).length = M at hov2 ⊢
            clear ho3 hcap3 hia hb5 hnx hKa b0 b1 b2 b3
            go_wp2
            refine ⟨⟨k + 1, by omega, by go_num, hov2, hb4⟩, ?_⟩
            simp only [intOf]
            omega
      · have hpost : InsPost w.heap.size (freeT t) w (.returned (.slice (some ⟨g, 0, none⟩) (frK t k).length cap)) wr := by
          rw [hr.out k (by omega)] at ho hcap ⊢
          exact ⟨g, cap, rfl, ho, hb⟩
        clear ih hk hb ho hcap hr HKP hbw
        go_wp2
        go_ret
        exact hpost
  · have hst : OwnI ((w.alloc (.cells #[.int .i64 t.op, .int .i64 t.num, .slice A t.perm.length c, .slice B t.kids.length d] 31)).alloc (.cells #[] 3)) w.heap.size (.slice (some ⟨w.heap.size + 1, 0, none⟩) 0 0) (frK t 0) := by
      rw [frK_zero hop1]
      exact ⟨w.heap.size + 1, 0, rfl, Nat.le_refl _, own_le ho0 (by simp)⟩
    have hbw0 := hbA
    obtain ⟨b0, b1, b2, b3⟩ := box4 hbw0
    have q1 : (t.op == 1) = false := by simp [hop1]
    clear ho0 hbA
    by_cases hop : t.op = 3
    · have HKP : Hid (∀ a, keepB t.op t.num a = !(decide (a = t.num))) := Lib.hid (fun a => by rw [keepB, hop]; rfl)
      have HOP := Lib.hid hop
      clear hop1 hop
      go_wp2
      go_loopw [3, 20] (fun v i wr => ∃ k : Nat, k ≤ t.kids.length ∧ i = .int .i64 k ∧ OwnI wr w.heap.size v (frK t k) ∧ Below (w.alloc (.cells #[.int .i64 t.op, .int .i64 t.num, .slice A t.perm.length c, .slice B t.kids.length d] 31)).heap.size (w.alloc (.cells #[.int .i64 t.op, .int .i64 t.num, .slice A t.perm.length c, .slice B t.kids.length d] 31)) wr) (fun _ i _ => t.kids.length - (intOf i).toNat)
      case atStart => exact ⟨0, Nat.zero_le _, rfl, hst, hbw0⟩
      case round =>
        clear hst b0 b1 b2 b3 hbw0
        obtain ⟨k, hk', rfl, ⟨g, cap, rfl, hcap, ho⟩, hbw⟩ := hrel
        have hb := hb0.trans (hbw.mono hb0.size)
        by_cases hlt : k < t.kids.length
        · obtain ⟨b, off, rfl, hbl, hget⟩ := (hk.below hb).get (by omega)
          obtain ⟨A1, c1, kv1, d0, d1, d2, d3, hp1, hk1⟩ := hget k hlt
          obtain ⟨B1, e1, rfl⟩ := hk1.form
          have hbx : Below wr.heap.size wr (wr.alloc (.cells #[.int .i64 (tmAt t.kids k).op, .int .i64 (tmAt t.kids k).num, .slice A1 (tmAt t.kids k).perm.length c1, .slice B1 (tmAt t.kids k).kids.length e1] 31)) := (Below.refl _ _).alloc (Nat.le_refl _) _
          have hct := ih k hlt _ _ ⟨A1, c1, _, rfl, hp1.below hbx, hk1.below hbx⟩
          have hb2 := hbw.trans (hbx.mono hbw.size)
          have hnx := Lib.hid (frK_next hlt)
          have hlK := frK_len t k
          rw [szT_eq] at hlK
          have hlL : (freeT (tmAt t.kids k)).length ≤ 60 := by
            have h1 := freeT_len (tmAt t.kids k)
            have h2 := szT_at hlt
            omega
          have hKa := Lib.hid (asc_frK t k)
          have hkp := HKP.out
          have hox := own_below ho hbx
          generalize tmAt t.kids k = u at d0 d1 d2 d3 hct hbx hb2 hnx hlL hox
          generalize frK t k = X at hnx hlK hKa hcap ho hox ⊢
          generalize freeT u = Y at hct hnx hlL
          generalize keepB t.op t.num = kp at hnx hkp
          clear HKP
          have HKP := Lib.hid hkp
          clear hget hp1 hk1 hbl hbx hb hbw ih hk ho hr hkp
          go_wp2_with fail
          refine hct.mono ?_
          rintro e w2 hpost
          obtain ⟨v2, rfl, ⟨g2, cap2, rfl, _, ho2⟩, hb3⟩ := insPost_own hpost
          have hia : IntsAt w2 (some ⟨g2, 0, none⟩) Y := by
            obtain ⟨A, c, e, h⟩ := own_intsAt ho2
            simp only [Value.slice.injEq] at e
            rw [e.1]
            exact h
          have hbs := hb2.trans (hb3.mono hb2.size)
          have hst2 : OwnI w2 w.heap.size (.slice (some ⟨g, 0, none⟩) X.length cap) (insAll X ((Y.take 0).filter kp)) := ⟨g, cap, rfl, hcap, own_below hox hb3⟩
          have hXN : Hid (X.length ≤ 60) := by show X.length ≤ 60; omega
          generalize X.length = N at hst2 ⊢
          clear hlK
          clear hct hb2 hb3 d0 d1 d2 d3 hpost ho2 hox hcap
          go_wp2
          go_loopw [3, 27] (fun v i wr => ∃ j : Nat, j ≤ Y.length ∧ i = .int .i64 j ∧ OwnI wr w.heap.size v (insAll X ((Y.take j).filter kp)) ∧ Below (w.alloc (.cells #[.int .i64 t.op, .int .i64 t.num, .slice A t.perm.length c, .slice (some ⟨b, off, none⟩) t.kids.length d] 31)).heap.size (w.alloc (.cells #[.int .i64 t.op, .int .i64 t.num, .slice A t.perm.length c, .slice (some ⟨b, off, none⟩) t.kids.length d] 31)) wr ∧ Below w2.heap.size w2 wr) (fun _ i _ => Y.length - (intOf i).toNat)
          case atStart => exact ⟨0, Nat.zero_le _, rfl, hst2, hbs, Below.refl _ _⟩
          case round =>
            clear hst2 hbs
            obtain ⟨j, hj, rfl, ⟨g3, cap3, rfl, hcap3, ho3⟩, hb4, hb5⟩ := hrel
            obtain ⟨b0, b1, b2, b3⟩ := box4 hb4
            by_cases hlj : j < Y.length
            · obtain ⟨b4, o4, hbo, hlt4, hc4⟩ := hia.below hb5 (by omega)
              simp only [Option.some.injEq, Addr.mk.injEq] at hbo
              obtain ⟨rfl, rfl, _⟩ := hbo
              have d4 := hc4 j hlj
              rw [Nat.zero_add] at d4
              have hlen0 := length_insAll X ((Y.take j).filter kp)
              have hlen1 := List.length_filter_le kp (Y.take j)
              rw [List.length_take] at hlen1
              have hlen : (insAll X ((Y.take j).filter kp)).length ≤ 120 := by have := hXN.out; omega
              clear hlen0 hlen1
              have hins := l1Insert_any w.heap.size g3 cap3 _ (itAt Y j) _ ho3 hcap3 (by omega) (asc_insAll _ _ hKa.out)
              have hkq := HKP.out (itAt Y j)
              rw [HOP.out] at b0
              by_cases ha : itAt Y j = t.num
              · have hkt : kp (itAt Y j) = false := by rw [hkq]; simp [ha]
                have hnext : Hid (insAll X ((Y.take (j + 1)).filter kp) = insAll X ((Y.take j).filter kp)) := fstep_no hlj hkt
                generalize insAll X ((Y.take j).filter kp) = Z at hnext hlen hcap3 ho3 ⊢
                have hv6 : OwnI wr w.heap.size (.slice (some ⟨g3, 0, none⟩) Z.length cap3) (insAll X ((Y.take (j + 1)).filter kp)) := by
                  rw [hnext.out]
                  exact ⟨g3, cap3, rfl, hcap3, ho3⟩
                have ka : (itAt Y j != t.num) = false := by simp [ha]
                have ka2 : (itAt Y j == t.num) = true := by simp [ha]
                generalize itAt Y j = a at d4 ka ka2
                clear ho3 hc4 hia hlen hkt hkq ha hins hnext b2 b3
                go_wp2
                refine ⟨⟨j + 1, by omega, by go_num, hv6, hb4, hb5⟩, ?_⟩
                simp only [intOf]
                omega
              · have hkt : kp (itAt Y j) = true := by rw [hkq]; simp [ha]
                have hnext : Hid (insAll X ((Y.take (j + 1)).filter kp) = insL (insAll X ((Y.take j).filter kp)) (itAt Y j)) := fstep_yes hlj hkt
                generalize insAll X ((Y.take j).filter kp) = Z at hins hnext hlen hcap3 ⊢
                have ka : (itAt Y j != t.num) = true := by simp [ha]
                have ka2 : (itAt Y j == t.num) = false := by simp [ha]
                generalize itAt Y j = a at d4 hins hnext ka ka2
                clear ho3 hc4 hia hlen hkt hkq ha b2 b3
                go_wp2_with fail
                refine hins.mono ?_
                rintro e w6 hpost
                obtain ⟨v6, rfl, hv6, hb6⟩ := insPost_own hpost
                rw [← hnext.out] at hv6
                have hb7 := hb4.trans (hb6.mono hb4.size)
                have hb8 := hb5.trans (hb6.mono hb5.size)
                clear hpost hins hnext hb4 hb5 hb6 d4 b0 b1
                go_wp2_with fail
                refine ⟨⟨j + 1, by omega, by go_num, hv6, hb7, hb8⟩, ?_⟩
                simp only [intOf]
                omega
            · have hov2 : OwnI wr w.heap.size (.slice (some ⟨g3, 0, none⟩) (insAll X ((Y.take j).filter kp)).length cap3) (frK t (k + 1)) := by
                rw [← hnx.out, List.take_of_length_le (show Y.length ≤ j by omega)] at *
                exact ⟨g3, cap3, rfl, hcap3, ho3⟩
              generalize (insAll X ((Y.take j).filter kp)).length = M at hov2 ⊢
              clear ho3 hcap3 hia hb5 hnx hKa b0 b1 b2 b3
              go_wp2
              refine ⟨⟨k + 1, by omega, by go_num, hov2, hb4⟩, ?_⟩
              simp only [intOf]
              omega
        · have hpost : InsPost w.heap.size (freeT t) w (.returned (.slice (some ⟨g, 0, none⟩) (frK t k).length cap)) wr := by
            rw [hr.out k (by omega)] at ho hcap ⊢
            exact ⟨g, cap, rfl, ho, hb⟩
          clear ih hk hb ho hcap hr HKP hbw
          go_wp2
          go_ret
          exact hpost
    · have HKP : Hid (∀ a, keepB t.op t.num a = true) := Lib.hid (fun a => by rw [keepB, decide_eq_false hop]; rfl)
      have k3 : (t.op == 3) = false := by simp [hop]
      have k4 : (t.op != 3) = true := by simp [hop]
      clear hop1 hop
      go_wp2
      go_loopw [3, 20] (fun v i wr => ∃ k : Nat, k ≤ t.kids.length ∧ i = .int .i64 k ∧ OwnI wr w.heap.size v (frK t k) ∧ Below (w.alloc (.cells #[.int .i64 t.op, .int .i64 t.num, .slice A t.perm.length c, .slice B t.kids.length d] 31)).heap.size (w.alloc (.cells #[.int .i64 t.op, .int .i64 t.num, .slice A t.perm.length c, .slice B t.kids.length d] 31)) wr) (fun _ i _ => t.kids.length - (intOf i).toNat)
      case atStart => exact ⟨0, Nat.zero_le _, rfl, hst, hbw0⟩
      case round =>
        clear hst b0 b1 b2 b3 hbw0
        obtain ⟨k, hk', rfl, ⟨g, cap, rfl, hcap, ho⟩, hbw⟩ := hrel
        have hb := hb0.trans (hbw.mono hb0.size)
        by_cases hlt : k < t.kids.length
        · obtain ⟨b, off, rfl, hbl, hget⟩ := (hk.below hb).get (by omega)
          obtain ⟨A1, c1, kv1, d0, d1, d2, d3, hp1, hk1⟩ := hget k hlt
          obtain ⟨B1, e1, rfl⟩ := hk1.form
          have hbx : Below wr.heap.size wr (wr.alloc (.cells #[.int .i64 (tmAt t.kids k).op, .int .i64 (tmAt t.kids k).num, .slice A1 (tmAt t.kids k).perm.length c1, .slice B1 (tmAt t.kids k).kids.length e1] 31)) := (Below.refl _ _).alloc (Nat.le_refl _) _
          have hct := ih k hlt _ _ ⟨A1, c1, _, rfl, hp1.below hbx, hk1.below hbx⟩
          have hb2 := hbw.trans (hbx.mono hbw.size)
          have hnx := Lib.hid (frK_next hlt)
          have hlK := frK_len t k
          rw [szT_eq] at hlK
          have hlL : (freeT (tmAt t.kids k)).length ≤ 60 := by
            have h1 := freeT_len (tmAt t.kids k)
            have h2 := szT_at hlt
            omega
          have hKa := Lib.hid (asc_frK t k)
          have hkp := HKP.out
          have hox := own_below ho hbx
          generalize tmAt t.kids k = u at d0 d1 d2 d3 hct hbx hb2 hnx hlL hox
          generalize frK t k = X at hnx hlK hKa hcap ho hox ⊢
          generalize freeT u = Y at hct hnx hlL
          generalize keepB t.op t.num = kp at hnx hkp
          clear HKP
          have HKP := Lib.hid hkp
          clear hget hp1 hk1 hbl hbx hb hbw ih hk ho hr hkp
          go_wp2_with fail
          refine hct.mono ?_
          rintro e w2 hpost
          obtain ⟨v2, rfl, ⟨g2, cap2, rfl, _, ho2⟩, hb3⟩ := insPost_own hpost
          have hia : IntsAt w2 (some ⟨g2, 0, none⟩) Y := by
            obtain ⟨A, c, e, h⟩ := own_intsAt ho2
            simp only [Value.slice.injEq] at e
            rw [e.1]
            exact h
          have hbs := hb2.trans (hb3.mono hb2.size)
          have hst2 : OwnI w2 w.heap.size (.slice (some ⟨g, 0, none⟩) X.length cap) (insAll X ((Y.take 0).filter kp)) := ⟨g, cap, rfl, hcap, own_below hox hb3⟩
          have hXN : Hid (X.length ≤ 60) := by show X.length ≤ 60; omega
          generalize X.length = N at hst2 ⊢
          clear hlK
          clear hct hb2 hb3 d0 d1 d2 d3 hpost ho2 hox hcap
          go_wp2
          go_loopw [3, 27] (fun v i wr => ∃ j : Nat, j ≤ Y.length ∧ i = .int .i64 j ∧ OwnI wr w.heap.size v (insAll X ((Y.take j).filter kp)) ∧ Below (w.alloc (.cells #[.int .i64 t.op, .int .i64 t.num, .slice A t.perm.length c, .slice (some ⟨b, off, none⟩) t.kids.length d] 31)).heap.size (w.alloc (.cells #[.int .i64 t.op, .int .i64 t.num, .slice A t.perm.length c, .slice (some ⟨b, off, none⟩) t.kids.length d] 31)) wr ∧ Below w2.heap.size w2 wr) (fun _ i _ => Y.length - (intOf i).toNat)
          case atStart => exact ⟨0, Nat.zero_le _, rfl, hst2, hbs, Below.refl _ _⟩
          case round =>
            clear hst2 hbs
            obtain ⟨j, hj, rfl, ⟨g3, cap3, rfl, hcap3, ho3⟩, hb4, hb5⟩ := hrel
            obtain ⟨b0, b1, b2, b3⟩ := box4 hb4
            by_cases hlj : j < Y.length
            · obtain ⟨b4, o4, hbo, hlt4, hc4⟩ := hia.below hb5 (by omega)
              simp only [Option.some.injEq, Addr.mk.injEq] at hbo
              obtain ⟨rfl, rfl, _⟩ := hbo
              have d4 := hc4 j hlj
              rw [Nat.zero_add] at d4
              have hlen0 := length_insAll X ((Y.take j).filter kp)
              have hlen1 := List.length_filter_le kp (Y.take j)
              rw [List.length_take] at hlen1
              have hlen : (insAll X ((Y.take j).filter kp)).length ≤ 120 := by have := hXN.out; omega
              clear hlen0 hlen1
              have hins := l1Insert_any w.heap.size g3 cap3 _ (itAt Y j) _ ho3 hcap3 (by omega) (asc_insAll _ _ hKa.out)
              have hkt := HKP.out (itAt Y j)
              have hnext : Hid (insAll X ((Y.take (j + 1)).filter kp) = insL (insAll X ((Y.take j).filter kp)) (itAt Y j)) := fstep_yes hlj hkt
              generalize insAll X ((Y.take j).filter kp) = Z at hins hnext hlen hcap3 ⊢
              generalize itAt Y j = a at d4 hins hnext
              clear ho3 hc4 hia hlen hkt b2 b3
              go_wp2_with fail
              refine hins.mono ?_
              rintro e w6 hpost
              obtain ⟨v6, rfl, hv6, hb6⟩ := insPost_own hpost
              rw [← hnext.out] at hv6
              have hb7 := hb4.trans (hb6.mono hb4.size)
              have hb8 := hb5.trans (hb6.mono hb5.size)
              clear hpost hins hnext hb4 hb5 hb6 d4 b0 b1
              go_wp2_with fail
              refine ⟨⟨j + 1, by omega, by go_num, hv6, hb7, hb8⟩, ?_⟩
              simp only [intOf]
              omega
            · have hov2 : OwnI wr w.heap.size (.slice (some ⟨g3, 0, none⟩) (insAll X ((Y.take j).filter kp)).length cap3) (frK t (k + 1)) := by
                rw [← hnx.out, List.take_of_length_le (show Y.length ≤ j by omega)] at *
                exact ⟨g3, cap3, rfl, hcap3, ho3⟩
              generalize (insAll X ((Y.take j).filter kp)).length = M at hov2 ⊢
              clear ho3 hcap3 hia hb5 hnx hKa b0 b1 b2 b3
              go_wp2
              refine ⟨⟨k + 1, by omega, by go_num, hov2, hb4⟩, ?_⟩
              simp only [intOf]
              omega
        · have hpost : InsPost w.heap.size (freeT t) w (.returned (.slice (some ⟨g, 0, none⟩) (frK t k).length cap)) wr := by
            rw [hr.out k (by omega)] at ho hcap ⊢
            exact ⟨g, cap, rfl, ho, hb⟩
          clear ih hk hb ho hcap hr HKP hbw
          go_wp2
          go_ret
          exact hpost

theorem l2Free_all : ∀ (N : Nat) (t : Tm), szT t ≤ N → N ≤ 60 → ∀ (w : World) (x : Value), TmIn w x t → Calls Try.prog 45 #[x] w (InsPost w.heap.size (freeT t) w) := by
  intro N
  induction N with
  | zero => intro t hN; rw [szT_eq] at hN; omega
  | succ N ih =>
    intro t hN h60 w x hx
    refine l2Free_step t x w hx (by omega) fun i hi w' y hy => ?_
    have h3 := szT_at hi
    rw [szT_eq] at hN
    exact ih _ (by omega) (by omega) w' y hy

end Go.Proofs.Ytbfkfklaplgebaa
