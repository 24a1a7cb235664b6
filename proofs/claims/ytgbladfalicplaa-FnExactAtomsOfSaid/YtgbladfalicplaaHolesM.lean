/-
  The holes of a term in the model, as a contract.
-/
import Derived.Test.YtgbladfalicplaaHolesS
import Derived.Test.YtgbladfalicplaaAtoms
namespace Go.Proofs.Ytgbladfalicplaa
open Go.RowKit Go.Sort

mutual
theorem nodesT_len : ∀ t : Tm, (nodesT t).length = szT t
  | .mk o n p ks => by rw [nodesT, List.length_cons, nodesTs_len ks, szT]; omega
theorem nodesTs_len : ∀ ts : List Tm, (nodesTs ts).length = szTs ts
  | [] => by simp [nodesTs, szTs]
  | t :: r => by rw [nodesTs, List.length_append, nodesT_len t, nodesTs_len r, szTs]
end

theorem term_size {t : Tm} (h : isTermB t = true) : szT t ≤ 60 := by
  rw [isTermB, Bool.and_eq_true, decide_eq_true_eq] at h
  exact h.2
theorem term_good {t : Tm} (h : isTermB t = true) : goodT t = true := by
  rw [isTermB, Bool.and_eq_true] at h
  exact h.1
theorem kid_term {t : Tm} {i : Nat} (h : isTermB t = true) (hi : i < t.kids.length) : isTermB (tmAt t.kids i) = true := by
  have h1 := term_good h
  have h2 := term_size h
  rw [goodT_eq, Bool.and_eq_true] at h1
  have h3 := szT_at hi
  rw [szT_eq] at h2
  rw [isTermB, goodTs_at h1.2 hi, Bool.true_and, decide_eq_true_eq]
  omega

theorem cntT_at : ∀ {ts : List Tm} {i : Nat}, i < ts.length → cntT (tmAt ts i) ≤ sumT ts
  | [], i, h => by simp at h
  | t :: r, 0, _ => by rw [sumT, tmAt_cons_zero]; omega
  | t :: r, i + 1, h => by
    have := cntT_at (ts := r) (i := i) (by simpa using h)
    rw [sumT, tmAt_cons_succ]; omega

/-- The holes of some terms, ascending. -/
def holesK (ts : List Tm) : List Int := insAll [] (holesIn (nodesTs ts))
theorem asc_holesK (ts : List Tm) : AscP (holesK ts) := asc_insAll _ _ List.Pairwise.nil
theorem asc_holesL (t : Tm) : AscP (holesL t) := by
  unfold holesL
  split
  · exact asc_insAll _ _ List.Pairwise.nil
  · exact List.Pairwise.nil
theorem holesK_len (ts : List Tm) : (holesK ts).length ≤ szTs ts := by
  have h1 := length_insAll [] (holesIn (nodesTs ts))
  have h2 := holesIn_len (nodesTs ts)
  rw [nodesTs_len] at h2
  unfold holesK
  rw [List.length_nil] at h1
  omega
theorem holesL_len {t : Tm} (h : isTermB t = true) : (holesL t).length ≤ 60 := by
  have h1 := length_insAll [] (holesIn (nodesT t))
  have h2 := holesIn_len (nodesT t)
  have h3 := term_size h
  rw [nodesT_len] at h2
  rw [List.length_nil] at h1
  rw [holesL, if_pos h]
  omega
theorem holesK_next {ts : List Tm} {k : Nat} (h : k < ts.length) (ht : isTermB (tmAt ts k) = true) : insAll (holesK (ts.take k)) (holesL (tmAt ts k)) = holesK (ts.take (k + 1)) := by
  refine asc_same _ _ (asc_insAll _ _ (asc_holesK _)) (asc_holesK _) fun a => ?_
  rw [holesL, if_pos ht, tm_take_next h]
  simp only [holesK, mem_insAll, nodesTs_append, nodesTs, List.append_nil, holesIn_app, List.mem_append, List.not_mem_nil, false_or]
theorem holesL_node {t : Tm} (ht : isTermB t = true) (h4 : ¬ t.op = 4) : holesL t = holesK t.kids := by
  rw [holesL, if_pos ht, nodesT_eq, holesK]
  congr 1
  simp [holesIn, h4]
theorem holesL_hole {t : Tm} (ht : isTermB t = true) (h4 : t.op = 4) : holesL t = [t.num] := by
  have h1 := term_good ht
  rw [goodT_eq, Bool.and_eq_true] at h1
  have h2 := h1.1
  rw [shapeB, if_neg (by omega), if_neg (by omega), if_neg (by omega), if_pos h4] at h2
  simp only [Bool.and_eq_true, decide_eq_true_eq] at h2
  have h3 : t.kids = [] := List.length_eq_zero_iff.1 h2.2.2
  rw [holesL, if_pos ht, nodesT_eq, h3]
  simp [holesIn, nodesTs, h4, insAll, insL]
theorem holesL_none {t : Tm} (ht : isTermB t = false) : holesL t = [] := by simp [holesL, ht]

set_option maxRecDepth 100000 in
set_option maxHeartbeats 4000000 in
theorem holesOf_step (t : Tm) (x : Value) (w : World) (hx : TmIn w x t) (hc : cntT t ≤ 1048576)
    (ih : ∀ i, i < t.kids.length → ∀ (w' : World) (y : Value), TmIn w' y (tmAt t.kids i) → Calls Try.prog 38 #[y] w' (InsPost w'.heap.size (holesL (tmAt t.kids i)) w')) :
    Calls Try.prog 38 #[x] w (InsPost w.heap.size (holesL t) w) := by
  have hgd := fun W hW => isTerm_spec t x W hW hc
  have hx' := hx
  obtain ⟨A, c, kv, rfl, hp, hk⟩ := hx
  obtain ⟨B, d, rfl⟩ := hk.form
  have hbA : Below (w.alloc (.cells #[.int .i64 t.op, .int .i64 t.num, .slice A t.perm.length c, .slice B t.kids.length d] 31)).heap.size (w.alloc (.cells #[.int .i64 t.op, .int .i64 t.num, .slice A t.perm.length c, .slice B t.kids.length d] 31)) ((w.alloc (.cells #[.int .i64 t.op, .int .i64 t.num, .slice A t.perm.length c, .slice B t.kids.length d] 31)).alloc (.cells #[] 3)) := (Below.refl _ _).alloc (Nat.le_refl _) _
  have hb0 : Below w.heap.size w ((w.alloc (.cells #[.int .i64 t.op, .int .i64 t.num, .slice A t.perm.length c, .slice B t.kids.length d] 31)).alloc (.cells #[] 3)) := ((Below.refl _ _).alloc (Nat.le_refl _) _).alloc (by simp) _
  have ho0 : ((w.alloc (.cells #[.int .i64 t.op, .int .i64 t.num, .slice A t.perm.length c, .slice B t.kids.length d] 31)).alloc (.cells #[] 3)).ownsRow w.heap.size 3 1 (.slice (some ⟨w.heap.size + 1, 0, none⟩) 0 0) 0 [] := by
    have h9 := World.ownsRow_lit (base := (w.alloc (.cells #[.int .i64 t.op, .int .i64 t.num, .slice A t.perm.length c, .slice B t.kids.length d] 31)).heap.size) (e := 3) (size := 1) (w.alloc (.cells #[.int .i64 t.op, .int .i64 t.num, .slice A t.perm.length c, .slice B t.kids.length d] 31)) #[] 0 (Nat.le_refl _) (by decide) rfl
    rw [World.size_alloc] at h9
    exact own_le h9 (by omega)
  have hg0 := hgd _ (hx'.below hb0)
  clear hgd hx'
  by_cases h1 : isTermB t = true
  · rw [h1] at hg0
    have hsz := term_size h1
    rw [szT_eq] at hsz
    have hkl : t.kids.length ≤ 60 := by have := len_szTs t.kids; omega
    go_enter Try.func38, Try.ntmps38
    go_wp2_with fail
    refine hg0.mono ?_
    rintro e w1 ⟨rfl, hb1⟩
    obtain ⟨b0, b1, b2, b3⟩ := box4 (hbA.trans (hb1.mono hbA.size))
    have hs1 := hb0.trans (hb1.mono hb0.size)
    have ho1 := own_below ho0 hb1
    clear hg0 hb0 hbA hb1 ho0 hp
    by_cases h4 : t.op = 4
    · have hr := Lib.hid (holesL_hole h1 h4)
      rw [h4] at b0
      have hpost : InsPost w.heap.size (holesL t) w (.returned (.slice (some ⟨w1.heap.size, 0, none⟩) 1 1)) (w1.alloc (.cells #[.int .i64 t.num] 3)) := by
        rw [hr.out]
        exact ⟨_, _, rfl, own_le (World.ownsRow_lit w1 #[.int .i64 t.num] 1 (Nat.le_refl _) (by decide) rfl) hs1.size, hs1.alloc hs1.size _⟩
      generalize t.num = n at b1 hpost
      clear hs1 ho1 ih hk h4 h1 hr hsz b2 b3
      go_wp2
      go_ret
      exact hpost
    · have hr := Lib.hid (holesL_node h1 h4)
      have HK := Lib.hid (fun i (hi : i < t.kids.length) => kid_term h1 hi)
      have hst : OwnI w1 w.heap.size (.slice (some ⟨w.heap.size + 1, 0, none⟩) 0 0) (holesK (t.kids.take 0)) := ⟨w.heap.size + 1, 0, rfl, by simp [holesK, nodesTs, holesIn, insAll], ho1⟩
      have h4' : (t.op == 4) = false := by simp [h4]
      clear ho1 h1
      go_wp2
      go_loopw [3, 22] (fun v i wr => ∃ k : Nat, k ≤ t.kids.length ∧ i = .int .i64 k ∧ OwnI wr w.heap.size v (holesK (t.kids.take k)) ∧ Below w.heap.size w wr) (fun _ i _ => t.kids.length - (intOf i).toNat)
      case atStart => exact ⟨0, Nat.zero_le _, rfl, hst, hs1⟩
      case round =>
        clear hst hs1 b0 b1 b2 b3
        obtain ⟨k, hk', rfl, ⟨g, cap, rfl, hcap, ho⟩, hb⟩ := hrel
        by_cases hlt : k < t.kids.length
        · obtain ⟨b, off, rfl, hbl, hget⟩ := (hk.below hb).get (by omega)
          obtain ⟨A1, c1, kv1, d0, d1, d2, d3, hp1, hk1⟩ := hget k hlt
          obtain ⟨B1, e1, rfl⟩ := hk1.form
          have hbx : Below wr.heap.size wr (wr.alloc (.cells #[.int .i64 (tmAt t.kids k).op, .int .i64 (tmAt t.kids k).num, .slice A1 (tmAt t.kids k).perm.length c1, .slice B1 (tmAt t.kids k).kids.length e1] 31)) := (Below.refl _ _).alloc (Nat.le_refl _) _
          have hct := ih k hlt _ _ ⟨A1, c1, _, rfl, hp1.below hbx, hk1.below hbx⟩
          have hb2 := hb.trans (hbx.mono hb.size)
          have hnx := Lib.hid (holesK_next hlt (HK.out k hlt))
          have hlK := Nat.le_trans (holesK_len (t.kids.take k)) (szTs_take t.kids k)
          have hlL := holesL_len (HK.out k hlt)
          have hKa := Lib.hid (asc_holesK (t.kids.take k))
          have hox := own_below ho hbx
          generalize tmAt t.kids k = u at d0 d1 d2 d3 hct hbx hb2 hnx hlL hox
          generalize holesK (t.kids.take k) = X at hnx hlK hKa hcap ho hox ⊢
          generalize holesL u = Y at hct hnx hlL
          clear hget hp1 hk1 hbl hbx hb ih hk ho HK hr
          go_wp2_with fail
          refine hct.mono ?_
          rintro e w2 hpost
          obtain ⟨v2, rfl, ⟨g2, cap2, rfl, _, ho2⟩, hb3⟩ := insPost_own hpost
          have hia : IntsAt w2 (some ⟨g2, 0, none⟩) Y := by
            obtain ⟨A, c, e, h⟩ := own_intsAt ho2
            simp only [Value.slice.injEq] at e
            rw [e.1]
            exact h
          have hbs := hb2.trans (hb3.mono hb2.size)
          have hst2 : OwnI w2 w.heap.size (.slice (some ⟨g, 0, none⟩) X.length cap) (insAll X (Y.take 0)) := ⟨g, cap, rfl, hcap, own_below hox hb3⟩
          generalize X.length = N at hst2 ⊢
          clear hct hb2 hb3 d0 d1 d2 d3 hpost ho2 hox hcap
          go_wp2
          go_loopw [3, 29] (fun v i wr => ∃ j : Nat, j ≤ Y.length ∧ i = .int .i64 j ∧ OwnI wr w.heap.size v (insAll X (Y.take j)) ∧ Below w.heap.size w wr ∧ Below w2.heap.size w2 wr) (fun _ i _ => Y.length - (intOf i).toNat)
          case atStart => exact ⟨0, Nat.zero_le _, rfl, hst2, hbs, Below.refl _ _⟩
          case round =>
            clear hst2 hbs
            obtain ⟨j, hj, rfl, ⟨g3, cap3, rfl, hcap3, ho3⟩, hb4, hb5⟩ := hrel
            by_cases hlj : j < Y.length
            · obtain ⟨b4, o4, hbo, hlt4, hc4⟩ := hia.below hb5 (by omega)
              simp only [Option.some.injEq, Addr.mk.injEq] at hbo
              obtain ⟨rfl, rfl, _⟩ := hbo
              have d4 := hc4 j hlj
              rw [Nat.zero_add] at d4
              have hlen := length_insAll X (Y.take j)
              rw [List.length_take] at hlen
              have hins := l1Insert_any w.heap.size g3 cap3 _ (itAt Y j) _ ho3 hcap3 (by omega) (asc_insAll _ _ hKa.out)
              have hnext : Hid (insAll X (Y.take (j + 1)) = insL (insAll X (Y.take j)) (itAt Y j)) := insAll_next X hlj
              generalize insAll X (Y.take j) = Z at hins hnext hlen hcap3 ⊢
              generalize itAt Y j = a at d4 hins hnext
              clear ho3 hc4 hia hlen
              go_wp2_with fail
              refine hins.mono ?_
              rintro e w6 hpost
              obtain ⟨v6, rfl, hv6, hb6⟩ := insPost_own hpost
              rw [← hnext.out] at hv6
              have hb7 := hb4.trans (hb6.mono hb4.size)
              have hb8 := hb5.trans (hb6.mono hb5.size)
              clear hpost hins hnext hb4 hb5 hb6 d4
              go_wp2_with fail
              refine ⟨⟨j + 1, by omega, by go_num, hv6, hb7, hb8⟩, ?_⟩
              simp only [intOf]
              omega
            · have hov2 : OwnI wr w.heap.size (.slice (some ⟨g3, 0, none⟩) (insAll X (Y.take j)).length cap3) (holesK (t.kids.take (k + 1))) := by
                rw [← hnx.out, List.take_of_length_le (show Y.length ≤ j by omega)] at *
                exact ⟨g3, cap3, rfl, hcap3, ho3⟩
              generalize (insAll X (Y.take j)).length = M at hov2 ⊢
              clear ho3 hcap3 hia hb5 hnx hKa
              go_wp2
              refine ⟨⟨k + 1, by omega, by go_num, hov2, hb4⟩, ?_⟩
              simp only [intOf]
              omega
        · have hpost : InsPost w.heap.size (holesL t) w (.returned (.slice (some ⟨g, 0, none⟩) (holesK (t.kids.take k)).length cap)) wr := by
            rw [List.take_of_length_le (by omega)] at ho hcap ⊢
            rw [hr.out]
            exact ⟨g, cap, rfl, ho, hb⟩
          clear ih hk hb ho hcap HK hr
          go_wp2
          go_ret
          exact hpost
  · have h1' : isTermB t = false := by simpa using h1
    rw [h1'] at hg0
    have hr := Lib.hid (holesL_none h1')
    clear h1 h1'
    go_enter Try.func38, Try.ntmps38
    go_wp2_with fail
    refine hg0.mono ?_
    rintro e w1 ⟨rfl, hb1⟩
    have hpost : InsPost w.heap.size (holesL t) w (.returned (.slice (some ⟨w.heap.size + 1, 0, none⟩) 0 0)) w1 := by
      rw [hr.out]
      exact ⟨_, _, rfl, own_below ho0 hb1, hb0.trans (hb1.mono hb0.size)⟩
    clear hg0 hb0 hb1 hp hk hr ho0 hbA
    go_wp2
    go_ret
    exact hpost

theorem holesOf_all : ∀ (N : Nat) (t : Tm), szT t ≤ N → cntT t ≤ 1048576 → ∀ (w : World) (x : Value), TmIn w x t → Calls Try.prog 38 #[x] w (InsPost w.heap.size (holesL t) w) := by
  intro N
  induction N with
  | zero => intro t hN; rw [szT_eq] at hN; omega
  | succ N ih =>
    intro t hN hc w x hx
    refine holesOf_step t x w hx hc fun i hi w' y hy => ?_
    have h3 := szT_at hi
    have h4 := cntT_at hi
    rw [szT_eq] at hN
    rw [cntT_eq] at hc
    exact ih _ (by omega) (by omega) w' y hy

theorem holes_spec (t : Tm) (x : Value) (w : World) (hx : TmIn w x t) (hc : cntT t ≤ 1048576) :
    Calls Try.prog 38 #[x] w (InsPost w.heap.size (holesL t) w) :=
  holesOf_all (szT t) t (Nat.le_refl _) hc w x hx

end Go.Proofs.Ytgbladfalicplaa
