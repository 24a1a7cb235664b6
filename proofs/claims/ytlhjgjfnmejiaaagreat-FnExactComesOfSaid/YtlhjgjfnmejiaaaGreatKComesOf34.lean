/-
  What must be known for an atom to be fresh for a term, in the model, as a contract. FreshNeeds in the program, as a contract. FreshNeeds in the model, as a contract. What a context says under a substitution: plain words, no program is walked here. ContextUnder of the program, as a contract.
-/
import Derived.Test.YtlhjgjfnmejiaaaGreatKComesOf21
import Derived.Test.YtlhjgjfnmejiaaaGreatKComesOf32
import Derived.Test.YtlhjgjfnmejiaaaGreatKComesOf31
import Derived.Test.YtlhjgjfnmejiaaaGreatKComesOf33
import Derived.Test.YtlhjgjfnmejiaaaGreatKComesOf29
import Derived.Test.YtlhjgjfnmejiaaaGreatKComesOf12
import Derived.Test.YtlhjgjfnmejiaaaGreatKComesOf6
import Derived.Test.YtlhjgjfnmejiaaaGreatKComesOf27
import Derived.Test.YtlhjgjfnmejiaaaGreatKComesOf20
section
namespace Go.Proofs.YtlhjgjfnmejiaaaGreat
open Go.RowKit Go.Sort
set_option linter.unusedVariables false

/-- What comes of the kids of a node or of a binder of another atom. -/
theorem fr_kids {a : Int} {t : Tm} (h1 : ¬ t.op = 1) (h4 : ¬ t.op = 4) (h3 : ¬ (t.op = 3 ∧ t.num = a)) :
    (okTs a t.kids = true → frL a t = sortF (ndTs a t.kids) ∧ okT a t = true) ∧ (okTs a t.kids = false → frL a t = [] ∧ okT a t = false) := by
  cases t with
  | mk o n p ks =>
    simp only [op_mk, num_mk, kids_mk] at h1 h4 h3 ⊢
    have e1 : okT a (.mk o n p ks) = okTs a ks := by rw [okT, if_neg h1, if_neg h4, if_neg h3]
    have e2 : ndT a (.mk o n p ks) = ndTs a ks := by rw [ndT, if_neg h1, if_neg h4, if_neg h3]
    constructor
    · intro h
      exact ⟨by rw [frL_yes (e1.trans h), e2], e1.trans h⟩
    · intro h
      exact ⟨frL_no (e1.trans h), e1.trans h⟩

set_option maxRecDepth 100000 in
set_option maxHeartbeats 8000000 in
theorem l3Fresh_step (a : Int) (t : Tm) (x : Value) (w : World) (hx : TmIn w x t) (hsz : szT t ≤ 60) (hpl : t.perm.length ≤ 1048576)
    (ih : ∀ i, i < t.kids.length → ∀ (w' : World) (y : Value), TmIn w' y (tmAt t.kids i) → Calls Tryz.prog 85 #[.int .i64 a, y] w' (NewFreshsB (frL a (tmAt t.kids i)) (okT a (tmAt t.kids i)) w')) :
    Calls Tryz.prog 85 #[.int .i64 a, x] w (NewFreshsB (frL a t) (okT a t) w) := by
  obtain ⟨A, c, kv, rfl, hp, hk⟩ := hx
  obtain ⟨B, d, rfl⟩ := hk.form
  rw [szT_eq] at hsz
  have hkl : t.kids.length ≤ 60 := by have := len_szTs t.kids; omega
  have hb0 : Below w.heap.size w (w.alloc (.cells #[.int .i64 t.op, .int .i64 t.num, .slice A t.perm.length c, .slice B t.kids.length d] 46)) := (Below.refl _ _).alloc (Nat.le_refl _) _
  have hbw0 : Below (w.alloc (.cells #[.int .i64 t.op, .int .i64 t.num, .slice A t.perm.length c, .slice B t.kids.length d] 46)).heap.size (w.alloc (.cells #[.int .i64 t.op, .int .i64 t.num, .slice A t.perm.length c, .slice B t.kids.length d] 46)) ((w.alloc (.cells #[.int .i64 t.op, .int .i64 t.num, .slice A t.perm.length c, .slice B t.kids.length d] 46)).alloc (.cells #[] 119)) := (Below.refl _ _).alloc (Nat.le_refl _) _
  have hbn := hb0.trans (hbw0.mono hb0.size)
  have ho0 : ((w.alloc (.cells #[.int .i64 t.op, .int .i64 t.num, .slice A t.perm.length c, .slice B t.kids.length d] 46)).alloc (.cells #[] 119)).ownsRow w.heap.size 119 2 (.slice (some ⟨w.heap.size + 1, 0, none⟩) 0 0) 0 (cellsOf []) := by
    have h := World.ownsRow_lit (e := 119) (size := 2) (w.alloc (.cells #[.int .i64 t.op, .int .i64 t.num, .slice A t.perm.length c, .slice B t.kids.length d] 46)) #[] 0 (Nat.le_refl _) (by decide) rfl
    rw [World.size_alloc] at h
    exact own_le h (by omega)
  obtain ⟨b0, b1, b2, b3⟩ := box4 hbw0
  by_cases hop1 : t.op = 1
  · have q1 : (t.op == 1) = true := by simp [hop1]
    have hR : frL a t = [] ∧ okT a t = (t.num != a) := by
      cases t with
      | mk o n p ks =>
        rw [op_mk] at hop1
        rw [num_mk]
        subst hop1
        have e1 : okT a (.mk 1 n p ks) = (n != a) := by rw [okT, if_pos rfl]
        have e2 : ndT a (.mk 1 n p ks) = [] := by rw [ndT, if_pos rfl]
        refine ⟨?_, e1⟩
        unfold frL
        rw [e2]
        split <;> rfl
    rw [hR.1, hR.2]
    have hpost : ∀ nq, NewFreshsB [] (t.num != a) w (.returned (.tuple #[.slice (some ⟨w.heap.size + 1, 0, none⟩) 0 0, .bool (t.num != a)])) (((w.alloc (.cells #[.int .i64 t.op, .int .i64 t.num, .slice A t.perm.length c, .slice B t.kids.length d] 46)).alloc (.cells #[] 119)).drewN nq) := fun nq =>
      ⟨_, rfl, own_below ho0 ⟨rfl, rfl, rfl, Nat.le_refl _, fun _ _ => rfl⟩, hbn.trans ⟨rfl, rfl, rfl, Nat.le_refl _, fun _ _ => rfl⟩⟩
    clear hp hk ih hb0 hbw0 hbn ho0 hR hop1
    go_enter Tryz.func85, Tryz.ntmps85
    go_wp2
    go_quiet (fail)
    go_wp2
    go_ret2
    exact hpost _
  · have q1 : (t.op == 1) = false := by simp [hop1]
    by_cases hop4 : t.op = 4
    · have q4 : (t.op == 4) = true := by simp [hop4]
      have hR : frL a t = [(backL t.perm a, t.num)] ∧ okT a t = true := by
        cases t with
        | mk o n p ks =>
          rw [op_mk] at hop4
          rw [num_mk, perm_mk]
          subst hop4
          have e1 : okT a (.mk 4 n p ks) = true := by rw [okT, if_neg (by decide), if_pos rfl]
          have e2 : ndT a (.mk 4 n p ks) = [(backL p a, n)] := by rw [ndT, if_neg (by decide), if_pos rfl]
          refine ⟨?_, e1⟩
          rw [frL_yes e1, e2]
          simp [sortF, joinF, putF, hasF, insF]
      rw [hR.1, hR.2]
      obtain ⟨i0, hi0, hz0, hz1, hz2⟩ := info_parts fresh_info
      have HS := Lib.hid hz2
      have hpn := hp.below hbn
      have hbs := hbn.size
      have hsrc := fun (W : World) (h : PairsAt W A t.perm) => l1Back_any A c t.perm a W h (by omega)
      generalize backL t.perm a = y at hsrc ⊢
      clear hz2 hp hk ih hb0 hbw0 hR hop1 hop4
      go_enter Tryz.func85, Tryz.ntmps85
      go_wp2
      generalize (w.alloc (.cells #[.int .i64 t.op, .int .i64 t.num, .slice A t.perm.length c, .slice B t.kids.length d] 46)).alloc (.cells #[] 119) = W at hbn ho0 b0 b1 b2 b3 hpn hbs ⊢
      have hcb := hsrc W.drew hpn.drew
      clear hsrc
      have HK : Hid (∀ w5, ((W.drew).alloc (.cells #[.int .i64 y, .int .i64 t.num] 119)).grownBy w5 (some (w.heap.size + 1)) → w5.cell? ⟨w.heap.size, 1, none⟩ = some (.int .i64 t.num) ∧ w5.cell? ⟨w.heap.size, 2, none⟩ = some (.slice A t.perm.length c)) := Lib.hid fun w5 hg => by
        have hl : w.heap.size < W.drew.heap.size := by have := (ho0.lt (w.heap.size + 1) rfl).2; show w.heap.size < W.heap.size; omega
        have hne : some w.heap.size ≠ some (w.heap.size + 1) := by simp
        exact ⟨hg.cell (a := ⟨w.heap.size, 1, none⟩) ((((Below.refl _ W.drew).alloc (Nat.le_refl _) _).cell (p := ⟨w.heap.size, 1, none⟩) hl).trans b1) hne, hg.cell (a := ⟨w.heap.size, 2, none⟩) ((((Below.refl _ W.drew).alloc (Nat.le_refl _) _).cell (p := ⟨w.heap.size, 2, none⟩) hl).trans b2) hne⟩
      go_region_held3 (fun w' => w'.cell? ⟨w.heap.size, 1, none⟩ = some (.int .i64 t.num) ∧ w'.cell? ⟨w.heap.size, 2, none⟩ = some (.slice A t.perm.length c))
        (first | (with_reducible exact ⟨by assumption, by assumption⟩) | ((try dsimp only); exact ⟨by assumption, by assumption⟩) | go_keep)
        (first
          | (go_at_call 131; refine hcb.mono ?_; rintro e w' ⟨rfl, rfl⟩)
          | (refine step_append_lies _ (by rfl) _ _ _ (by rfl) w.heap.size 119 i0 _ 2 16 Tryz.underlying30 hi0 hz0 hz1 HS.out rfl (by omega) _ 0 _ (by rfl) ((ho0.drew).alloc _)
              ⟨W.heap.size, 0, none⟩ 1 1 [.int .i64 y, .int .i64 t.num] (by rfl) (by rfl) (World.news_of_block (cs := #[.int .i64 y, .int .i64 t.num]) (t := 119) (fr := (0, 0)) (heap_alloc_new _ _)) (pair_one _ _)
              (by omega) (by unfold maxLen; omega) (by omega) (by simp; omega) (W.heap.size + 1) (by simp) ?_; intro gg cap w5 ho5 hgrow hat hlt2; have k1 := HK.out w5 hgrow; have k2 := k1.2; replace k1 := k1.1)
          | fail)
      have hb5 : Below w.heap.size w w5 := by
        have h1 : Below w.heap.size w ((W.drew).alloc (.cells #[.int .i64 y, .int .i64 t.num] 119)) := (show Below w.heap.size w W.drew from ⟨hbn.os, hbn.tape, hbn.output, hbn.size, hbn.block⟩).alloc hbn.size _
        exact below_own h1 ((ho0.drew).alloc _) (Nat.le_refl _) (by simp; omega) hgrow
      have hpost : NewFreshsB [(y, t.num)] true w (.returned (.tuple #[.slice (some ⟨gg, 0, none⟩) 1 cap, .bool true])) w5 := ⟨_, rfl, ho5, hb5⟩
      clear hcb ho5 hgrow hat hlt2 hb5 hbn ho0 hpn b0 b1 b2 b3 HK k1 k2
      go_wp2
      go_ret2
      exact hpost
    · have q4 : (t.op == 4) = false := by simp [hop4]
      have hst : JoinAt w.heap.size ((w.alloc (.cells #[.int .i64 t.op, .int .i64 t.num, .slice A t.perm.length c, .slice B t.kids.length d] 46)).alloc (.cells #[] 119)) (.slice (some ⟨w.heap.size + 1, 0, none⟩) 0 0) (sortF (ndTs a (t.kids.take 0))) := ho0
      by_cases hop3 : t.op = 3
      · have q3 : (t.op == 3) = true := by simp [hop3]
        by_cases hna : t.num = a
        · have qn : (t.num == a) = true := by simp [hna]
          have hR : frL a t = [] ∧ okT a t = true := by
            cases t with
            | mk o n p ks =>
              rw [op_mk] at hop3
              rw [num_mk] at hna
              subst hop3
              have e1 : okT a (.mk 3 n p ks) = true := by rw [okT, if_neg (by decide), if_neg (by decide), if_pos ⟨rfl, hna⟩]
              have e2 : ndT a (.mk 3 n p ks) = [] := by rw [ndT, if_neg (by decide), if_neg (by decide), if_pos ⟨rfl, hna⟩]
              refine ⟨?_, e1⟩
              rw [frL_yes e1, e2]
              rfl
          rw [hR.1, hR.2]
          have hpost : NewFreshsB [] true w (.returned (.tuple #[.slice (some ⟨w.heap.size + 1, 0, none⟩) 0 0, .bool true])) ((w.alloc (.cells #[.int .i64 t.op, .int .i64 t.num, .slice A t.perm.length c, .slice B t.kids.length d] 46)).alloc (.cells #[] 119)) := ⟨_, rfl, ho0, hbn⟩
          clear hp hk ih hb0 hbw0 hbn ho0 hR hop1 hop3 hop4 hna hst
          go_enter Tryz.func85, Tryz.ntmps85
          go_wp2
          go_ret2
          exact hpost
        · have hfin := Lib.hid (fr_kids (a := a) hop1 hop4 (fun h => hna h.2))
          have qn : (t.num == a) = false := by simp [hna]
          clear hp hbn ho0 hop1 hop4 hop3 hna
          go_enter Tryz.func85, Tryz.ntmps85
          go_wp2
          go_loopw [6, 49] (fun v i wr => ∃ k : Nat, k ≤ t.kids.length ∧ i = .int .i64 k ∧ Hid (okTs a (t.kids.take k) = true) ∧ JoinAt w.heap.size wr v (sortF (ndTs a (t.kids.take k))) ∧ Below (w.alloc (.cells #[.int .i64 t.op, .int .i64 t.num, .slice A t.perm.length c, .slice B t.kids.length d] 46)).heap.size (w.alloc (.cells #[.int .i64 t.op, .int .i64 t.num, .slice A t.perm.length c, .slice B t.kids.length d] 46)) wr) (fun _ i _ => t.kids.length - (intOf i).toNat)
          case atStart => exact ⟨0, Nat.zero_le _, rfl, Lib.hid (by simp [okTs]), hst, hbw0⟩
          case round =>
            clear hst b0 b1 b2 b3 hbw0
            obtain ⟨k, hk', rfl, hq, ho, hbw⟩ := hrel
            have hb := hb0.trans (hbw.mono hb0.size)
            by_cases hlt : k < t.kids.length
            · obtain ⟨b, off, rfl, hbl, hget⟩ := (hk.below hb).get (by omega)
              obtain ⟨A1, c1, kv1, d0, d1, d2, d3, hp1, hk1⟩ := hget k hlt
              obtain ⟨B1, e1, rfl⟩ := hk1.form
              have hbx : Below wr.heap.size wr (wr.alloc (.cells #[.int .i64 (tmAt t.kids k).op, .int .i64 (tmAt t.kids k).num, .slice A1 (tmAt t.kids k).perm.length c1, .slice B1 (tmAt t.kids k).kids.length e1] 46)) := (Below.refl _ _).alloc (Nat.le_refl _) _
              have hct := ih k hlt _ _ ⟨A1, c1, _, rfl, hp1.below hbx, hk1.below hbx⟩
              have hb2 := hbw.trans (hbx.mono hbw.size)
              have hn1 := Lib.hid (ndTs_next a hlt)
              have hn2 := Lib.hid (okTs_next a hlt)
              have hn4 := Lib.hid (fun h => okTs_no a hlt h)
              have hn5 := Lib.hid (frL_yes (a := a) (t := tmAt t.kids k))
              have hl1 := Nat.le_trans (Nat.le_trans (sortF_len_le _) (ndTs_len a (t.kids.take k))) (szTs_take t.kids k)
              have hl2 := Nat.le_trans (frL_len a (tmAt t.kids k)) (szT_at hlt)
              have hox := own_below ho hbx
              generalize tmAt t.kids k = u at d0 d1 d2 d3 hct hbx hb2 hn1 hn2 hn4 hn5 hl2 hox
              generalize hX : ndTs a (t.kids.take k) = X at hn1 ho hox hl1 ⊢
              generalize frL a u = Y at hct hn5 hl2
              generalize okT a u = ok at hct hn2 hn4 hn5
              clear hX hget hp1 hk1 hbl hb hbw ih hk ho
              cases ok with
              | true =>
                have hY := hn5.out rfl
                have hq2 : Hid (okTs a (t.kids.take (k + 1)) = true) := Lib.hid (by rw [hn2.out, hq.out]; rfl)
                clear hn2 hn4 hn5 hq
                go_wp2_with fail
                refine hct.mono ?_
                rintro e w2 ⟨v2, rfl, ho2, hb3⟩
                have hox2 := own_below hox hb3
                obtain ⟨G1, q1, rfl, hP1⟩ := own_pairsAt hox2
                obtain ⟨G2, q2, rfl, hP2⟩ := own_pairsAt ho2
                have hj := l3Join_any G1 G2 q1 q2 (sortF X) Y w2 hP1 hP2 (by omega) (by omega)
                have hbs := hb2.trans (hb3.mono hb2.size)
                have hJ : joinF (sortF X) Y = sortF (ndTs a (t.kids.take (k + 1))) := by rw [hY, sortF_join, hn1.out]
                rw [hJ] at hj
                generalize (sortF X).length = N1 at hj hl1 ⊢
                generalize Y.length = N2 at hj hl2 ⊢
                clear hct hb2 hb3 d0 d1 d2 d3 hox hox2 ho2 hP1 hP2 hJ hY hn1 hbx
                go_wp2_with fail
                refine hj.mono ?_
                rintro e w3 ⟨v3, rfl, ho3, hb4⟩
                have ho5 : JoinAt w.heap.size w3 v3 (sortF (ndTs a (t.kids.take (k + 1)))) := own_le ho3 (Nat.le_trans hb0.size hbs.size)
                have hb5 := hbs.trans (hb4.mono hbs.size)
                clear hj ho3 hb4 hbs
                go_wp2
                refine ⟨⟨k + 1, by omega, by go_num, hq2, ho5, hb5⟩, ?_⟩
                simp only [intOf]
                omega
              | false =>
                have hno : okTs a t.kids = false := hn4.out rfl
                have HR := Lib.hid (hfin.out.2 hno)
                have hbx2 := hb0.trans (hb2.mono hb0.size)
                clear hn1 hn2 hn4 hn5 hq hox hno
                go_wp2_with fail
                refine hct.mono ?_
                rintro e w2 ⟨v2, rfl, ho2, hb3⟩
                have hpost : NewFreshsB (frL a t) (okT a t) w (.returned (.tuple #[.slice (some ⟨w2.heap.size, 0, none⟩) 0 0, .bool false])) (w2.alloc (.cells #[] 119)) := by
                  rw [HR.out.1, HR.out.2]
                  exact newFreshsB_empty (hbx2.trans (hb3.mono hbx2.size))
                clear hct hb2 hb3 d0 d1 d2 d3 ho2 hbx hbx2 HR hfin
                go_wp2
                go_ret2
                exact hpost
            · have e : k = t.kids.length := by omega
              rw [e, List.take_length] at hq ho
              have HR := hfin.out.1 hq.out
              have hpost' : ∀ v, JoinAt w.heap.size wr v (sortF (ndTs a t.kids)) → NewFreshsB (frL a t) (okT a t) w (.returned (.tuple #[v, .bool true])) wr := fun v hv => by
                rw [HR.1, HR.2]
                exact ⟨_, rfl, hv, hb⟩
              have hpost := hpost' _ ho
              clear hpost' ih hk hb ho hbw hq HR hfin
              go_wp2
              go_ret2
              exact hpost
      · have hfin := Lib.hid (fr_kids (a := a) hop1 hop4 (fun h => hop3 h.1))
        have q3 : (t.op == 3) = false := by simp [hop3]
        clear hp hbn ho0 hop1 hop4 hop3
        go_enter Tryz.func85, Tryz.ntmps85
        go_wp2
        go_loopw [6, 49] (fun v i wr => ∃ k : Nat, k ≤ t.kids.length ∧ i = .int .i64 k ∧ Hid (okTs a (t.kids.take k) = true) ∧ JoinAt w.heap.size wr v (sortF (ndTs a (t.kids.take k))) ∧ Below (w.alloc (.cells #[.int .i64 t.op, .int .i64 t.num, .slice A t.perm.length c, .slice B t.kids.length d] 46)).heap.size (w.alloc (.cells #[.int .i64 t.op, .int .i64 t.num, .slice A t.perm.length c, .slice B t.kids.length d] 46)) wr) (fun _ i _ => t.kids.length - (intOf i).toNat)
        case atStart => exact ⟨0, Nat.zero_le _, rfl, Lib.hid (by simp [okTs]), hst, hbw0⟩
        case round =>
          clear hst b0 b1 b2 b3 hbw0
          obtain ⟨k, hk', rfl, hq, ho, hbw⟩ := hrel
          have hb := hb0.trans (hbw.mono hb0.size)
          by_cases hlt : k < t.kids.length
          · obtain ⟨b, off, rfl, hbl, hget⟩ := (hk.below hb).get (by omega)
            obtain ⟨A1, c1, kv1, d0, d1, d2, d3, hp1, hk1⟩ := hget k hlt
            obtain ⟨B1, e1, rfl⟩ := hk1.form
            have hbx : Below wr.heap.size wr (wr.alloc (.cells #[.int .i64 (tmAt t.kids k).op, .int .i64 (tmAt t.kids k).num, .slice A1 (tmAt t.kids k).perm.length c1, .slice B1 (tmAt t.kids k).kids.length e1] 46)) := (Below.refl _ _).alloc (Nat.le_refl _) _
            have hct := ih k hlt _ _ ⟨A1, c1, _, rfl, hp1.below hbx, hk1.below hbx⟩
            have hb2 := hbw.trans (hbx.mono hbw.size)
            have hn1 := Lib.hid (ndTs_next a hlt)
            have hn2 := Lib.hid (okTs_next a hlt)
            have hn4 := Lib.hid (fun h => okTs_no a hlt h)
            have hn5 := Lib.hid (frL_yes (a := a) (t := tmAt t.kids k))
            have hl1 := Nat.le_trans (Nat.le_trans (sortF_len_le _) (ndTs_len a (t.kids.take k))) (szTs_take t.kids k)
            have hl2 := Nat.le_trans (frL_len a (tmAt t.kids k)) (szT_at hlt)
            have hox := own_below ho hbx
            generalize tmAt t.kids k = u at d0 d1 d2 d3 hct hbx hb2 hn1 hn2 hn4 hn5 hl2 hox
            generalize hX : ndTs a (t.kids.take k) = X at hn1 ho hox hl1 ⊢
            generalize frL a u = Y at hct hn5 hl2
            generalize okT a u = ok at hct hn2 hn4 hn5
            clear hX hget hp1 hk1 hbl hb hbw ih hk ho
            cases ok with
            | true =>
              have hY := hn5.out rfl
              have hq2 : Hid (okTs a (t.kids.take (k + 1)) = true) := Lib.hid (by rw [hn2.out, hq.out]; rfl)
              clear hn2 hn4 hn5 hq
              go_wp2_with fail
              refine hct.mono ?_
              rintro e w2 ⟨v2, rfl, ho2, hb3⟩
              have hox2 := own_below hox hb3
              obtain ⟨G1, q1, rfl, hP1⟩ := own_pairsAt hox2
              obtain ⟨G2, q2, rfl, hP2⟩ := own_pairsAt ho2
              have hj := l3Join_any G1 G2 q1 q2 (sortF X) Y w2 hP1 hP2 (by omega) (by omega)
              have hbs := hb2.trans (hb3.mono hb2.size)
              have hJ : joinF (sortF X) Y = sortF (ndTs a (t.kids.take (k + 1))) := by rw [hY, sortF_join, hn1.out]
              rw [hJ] at hj
              generalize (sortF X).length = N1 at hj hl1 ⊢
              generalize Y.length = N2 at hj hl2 ⊢
              clear hct hb2 hb3 d0 d1 d2 d3 hox hox2 ho2 hP1 hP2 hJ hY hn1 hbx
              go_wp2_with fail
              refine hj.mono ?_
              rintro e w3 ⟨v3, rfl, ho3, hb4⟩
              have ho5 : JoinAt w.heap.size w3 v3 (sortF (ndTs a (t.kids.take (k + 1)))) := own_le ho3 (Nat.le_trans hb0.size hbs.size)
              have hb5 := hbs.trans (hb4.mono hbs.size)
              clear hj ho3 hb4 hbs
              go_wp2
              refine ⟨⟨k + 1, by omega, by go_num, hq2, ho5, hb5⟩, ?_⟩
              simp only [intOf]
              omega
            | false =>
              have hno : okTs a t.kids = false := hn4.out rfl
              have HR := Lib.hid (hfin.out.2 hno)
              have hbx2 := hb0.trans (hb2.mono hb0.size)
              clear hn1 hn2 hn4 hn5 hq hox hno
              go_wp2_with fail
              refine hct.mono ?_
              rintro e w2 ⟨v2, rfl, ho2, hb3⟩
              have hpost : NewFreshsB (frL a t) (okT a t) w (.returned (.tuple #[.slice (some ⟨w2.heap.size, 0, none⟩) 0 0, .bool false])) (w2.alloc (.cells #[] 119)) := by
                rw [HR.out.1, HR.out.2]
                exact newFreshsB_empty (hbx2.trans (hb3.mono hbx2.size))
              clear hct hb2 hb3 d0 d1 d2 d3 ho2 hbx hbx2 HR hfin
              go_wp2
              go_ret2
              exact hpost
          · have e : k = t.kids.length := by omega
            rw [e, List.take_length] at hq ho
            have HR := hfin.out.1 hq.out
            have hpost' : ∀ v, JoinAt w.heap.size wr v (sortF (ndTs a t.kids)) → NewFreshsB (frL a t) (okT a t) w (.returned (.tuple #[v, .bool true])) wr := fun v hv => by
              rw [HR.1, HR.2]
              exact ⟨_, rfl, hv, hb⟩
            have hpost := hpost' _ ho
            clear hpost' ih hk hb ho hbw hq HR hfin
            go_wp2
            go_ret2
            exact hpost

end Go.Proofs.YtlhjgjfnmejiaaaGreat
end

section
namespace Go.Proofs.YtlhjgjfnmejiaaaGreat
section
open Go.RowKit Go.Sort Go.ChangeShapes Go.WideShapes Go.WideMaps Go.Maps
set_option linter.unusedVariables false

theorem okF_right {x : Int × Int} (h : atomB x.1 = true ∧ holeB x.2 = true) : okF x := okF_of_ctx h.1 h.2

end

section
open Go.RowKit Go.Sort
set_option linter.unusedVariables false

theorem l3Fresh_any (a : Int) : ∀ (N : Nat) (t : Tm), szT t ≤ N → szT t ≤ 60 → OkP 1048576 t → ∀ (w : World) (x : Value), TmIn w x t → Calls Tryz.prog 85 #[.int .i64 a, x] w (NewFreshsB (frL a t) (okT a t) w) := by
  intro N
  induction N with
  | zero => intro t h; rw [szT_eq] at h; omega
  | succ N ih =>
    intro t hN h60 hP w x hx
    have hP1 : t.perm.length ≤ 1048576 ∧ OkPs 1048576 t.kids := by
      cases t with
      | mk o n p ks => exact ⟨hP.2.1, hP.2.2⟩
    refine l3Fresh_step a t x w hx h60 hP1.1 fun i hi w' y hy => ?_
    have h1 := szT_at hi
    rw [szT_eq] at hN h60
    exact ih _ (by omega) (by omega) (okPs_at hP1.2 hi) w' y hy

end
end Go.Proofs.YtlhjgjfnmejiaaaGreat
end

section
namespace Go.Proofs.YtlhjgjfnmejiaaaGreat
open Go.RowKit Go.Sort
set_option linter.unusedVariables false

/-- What stands for a hole. -/
def cuT (l : List RBinding) (h : Int) : Tm := match findB l h with
  | some u => u
  | none => .mk 4 h [] []
theorem hole_term {h : Int} (hh : holeB h = true) : isTermB (.mk 4 h [] []) = true := by
  have h1 : decide (0 ≤ h ∧ h ≤ 9) = true := hh
  have hp : permB [] = true := by decide +kernel
  rw [isTermB, goodT_eq, shapeB, op_mk, num_mk, perm_mk, kids_mk, if_neg (by omega), if_neg (by omega), if_neg (by omega), if_pos rfl, hp]
  rw [h1]
  simp [szT, szTs, goodTs]
theorem doT_cu {l : List RBinding} {h : Int} (hl : subB l = true) (hh : holeB h = true) : doT l (.mk 4 h [] []) = cuT l h := by
  unfold cuT
  cases hf : findB l h with
  | none => exact doT_4n l h [] hf
  | some u => exact (doT_4y l h [] hf).trans (actT_nil (term_good (findB_term hl hf)))
theorem cu_term {l : List RBinding} {h : Int} (hl : subB l = true) (hh : holeB h = true) : isTermB (cuT l h) = true := by
  unfold cuT
  cases hf : findB l h with
  | none => exact hole_term hh
  | some u => exact findB_term hl hf

/-- Whether each element can hold, and what is needed for all. -/
def okC (l : List RBinding) : List (Int × Int) → Bool
  | [] => true
  | x :: r => okT x.1 (cuT l x.2) && okC l r
def ndC (l : List RBinding) : List (Int × Int) → List (Int × Int)
  | [] => []
  | x :: r => ndT x.1 (cuT l x.2) ++ ndC l r
theorem okC_append (l : List RBinding) : ∀ x y, okC l (x ++ y) = (okC l x && okC l y)
  | [], y => by simp [okC]
  | a :: r, y => by rw [List.cons_append, okC, okC, okC_append l r y, Bool.and_assoc]
theorem ndC_append (l : List RBinding) : ∀ x y, ndC l (x ++ y) = ndC l x ++ ndC l y
  | [], y => by simp [ndC]
  | a :: r, y => by rw [List.cons_append, ndC, ndC, ndC_append l r y, List.append_assoc]
theorem pr_take_next {m : List (Int × Int)} {k : Nat} (h : k < m.length) : m.take (k + 1) = m.take k ++ [prAt m k] := by
  rw [List.take_succ_eq_append_getElem h]
  simp [prAt, h]
theorem okC_next {l : List RBinding} {m : List (Int × Int)} {k : Nat} (h : k < m.length) : okC l (m.take (k + 1)) = (okC l (m.take k) && okT (prAt m k).1 (cuT l (prAt m k).2)) := by
  rw [pr_take_next h, okC_append]; simp [okC]
theorem ndC_next {l : List RBinding} {m : List (Int × Int)} {k : Nat} (h : k < m.length) : ndC l (m.take (k + 1)) = ndC l (m.take k) ++ ndT (prAt m k).1 (cuT l (prAt m k).2) := by
  rw [pr_take_next h, ndC_append]; simp [ndC]
theorem okC_no {l : List RBinding} {m : List (Int × Int)} {k : Nat} (h : k < m.length) (hk : okT (prAt m k).1 (cuT l (prAt m k).2) = false) : okC l m = false := by
  have h1 := okC_append l (m.take (k + 1)) (m.drop (k + 1))
  rw [List.take_append_drop, okC_next h, hk] at h1
  simpa using h1
theorem ndC_right {l : List RBinding} (hl : subB l = true) : ∀ {m : List (Int × Int)}, (∀ x ∈ m, atomB x.1 = true ∧ holeB x.2 = true) → ∀ x ∈ ndC l m, atomB x.1 = true ∧ holeB x.2 = true
  | [], _, x, hx => by simp [ndC] at hx
  | a :: r, hm, x, hx => by
    rw [ndC, List.mem_append] at hx
    have ha := hm a (by simp)
    rcases hx with hx | hx
    · exact ndT_right ha.1 _ (term_good (cu_term hl ha.2)) x hx
    · exact ndC_right hl (fun y hy => hm y (by simp [hy])) x hx
theorem ndC_len {l : List RBinding} (hl : subB l = true) : ∀ {m : List (Int × Int)}, (∀ x ∈ m, atomB x.1 = true ∧ holeB x.2 = true) → (ndC l m).length ≤ m.length * 60
  | [], _ => by simp [ndC]
  | a :: r, hm => by
    have ha := hm a (by simp)
    have h1 := Nat.le_trans (ndT_len a.1 (cuT l a.2)) (term_size (cu_term hl ha.2))
    have h2 := ndC_len hl (m := r) (fun y hy => hm y (by simp [hy]))
    rw [ndC, List.length_append, List.length_cons]
    omega
/-- What a context's elements are. -/
theorem ctx_right {m : List (Int × Int)} (h : ctxB m = true) : ∀ x ∈ m, atomB x.1 = true ∧ holeB x.2 = true := fun x hx => (rightB_parts (right_of_ctx h)).1 x hx

def cuB (l : List RBinding) (m : List (Int × Int)) : Bool := subB l && (ctxB m && (okC l m && fewB (ndC l m)))
def cuL (l : List RBinding) (m : List (Int × Int)) : List (Int × Int) := if subB l && (ctxB m && okC l m) then ctxOf (ndC l m) else []
theorem cu_no1 {l : List RBinding} {m : List (Int × Int)} (h : subB l = false) : cuL l m = [] ∧ cuB l m = false := by simp [cuL, cuB, h]
theorem cu_no2 {l : List RBinding} {m : List (Int × Int)} (h : ctxB m = false) : cuL l m = [] ∧ cuB l m = false := by simp [cuL, cuB, h]
theorem cu_no3 {l : List RBinding} {m : List (Int × Int)} (h : okC l m = false) : cuL l m = [] ∧ cuB l m = false := by simp [cuL, cuB, h]
theorem cu_yes {l : List RBinding} {m : List (Int × Int)} (h1 : subB l = true) (h2 : ctxB m = true) (h3 : okC l m = true) : cuL l m = ctxOf (ndC l m) ∧ cuB l m = fewB (ndC l m) := by simp [cuL, cuB, h1, h2, h3]
end Go.Proofs.YtlhjgjfnmejiaaaGreat
end

section
namespace Go.Proofs.YtlhjgjfnmejiaaaGreat
open Go.RowKit Go.Sort Go.ChangeShapes Go.WideShapes Go.WideMaps Go.Maps
set_option linter.unusedVariables false

theorem hole_form (w : World) (q : Nat → Prop) (h : Int) : FIn w q (.iface 135 (.agg #[.int .i64 h, .slice none 0 0])) (.mk 4 h [] []) :=
  .hole h rfl (fun hl => absurd hl (by simp)) (fun b off hl => absurd hl (by simp))

set_option maxRecDepth 100000 in
set_option maxHeartbeats 8000000 in
/-- ContextUnder of the program. -/
theorem contextUnder_impl (l : List RBinding) (m : List (Int × Int)) (lv : Value) (C : Option Addr) (cc : Nat) (w : World) (hlv : RBindingsIn w lv l) (hC : PairsAt w C m) (hll : l.length ≤ 1048576) (hlc : ∀ k, k < l.length → cntT (atRBinding l k).f1 ≤ 1048576) (hml : m.length ≤ 1048576) :
    Calls Tryz.prog 42 #[lv, .slice C m.length cc] w (NewFreshsB (cuL l m) (cuB l m) w) := by
  have hg0 := isSub_impl l lv w hlv hll hlc
  have hLV := hlv
  obtain ⟨CL, dl, rfl, hgl⟩ := hlv
  clear hgl
  cases h0 : subB l with
  | false =>
    have HT := Lib.hid (cu_no1 (m := m) h0)
    rw [h0] at hg0
    clear h0 hLV hC hll hlc
    go_enter Tryz.func42, Tryz.ntmps42
    go_wp2_with fail
    refine hg0.mono ?_
    rintro e w1 ⟨rfl, hb1⟩
    have hpost : NewFreshsB (cuL l m) (cuB l m) w (.returned (.tuple #[.slice (some ⟨w1.heap.size, 0, none⟩) 0 0, .bool false])) (w1.alloc (.cells #[] 119)) := by
      rw [HT.out.1, HT.out.2]
      exact newFreshsB_empty hb1
    clear hg0 hb1 HT
    go_wp2
    go_ret2
    exact hpost
  | true =>
    rw [h0] at hg0
    cases h1 : ctxB m with
    | false =>
      have HT := Lib.hid (cu_no2 (l := l) h1)
      have HG := Lib.hid (fun W hW => isContext_impl C cc m W hW (by omega))
      clear h0 hLV hll hlc
      go_enter Tryz.func42, Tryz.ntmps42
      go_wp2_with fail
      refine hg0.mono ?_
      rintro e w0 ⟨rfl, hb0⟩
      have hg1 := HG.out w0 (hC.below hb0)
      rw [h1] at hg1
      clear hg0 h1 hC HG
      go_wp2_with fail
      refine hg1.mono ?_
      rintro e w1 ⟨rfl, hb1⟩
      have hpost : NewFreshsB (cuL l m) (cuB l m) w (.returned (.tuple #[.slice (some ⟨w1.heap.size, 0, none⟩) 0 0, .bool false])) (w1.alloc (.cells #[] 119)) := by
        rw [HT.out.1, HT.out.2]
        exact newFreshsB_empty (hb0.trans (hb1.mono hb0.size))
      clear hg1 hb1 HT hb0
      go_wp2
      go_ret2
      exact hpost
    | true =>
      have HG := Lib.hid (fun W hW => isContext_impl C cc m W hW (by omega))
      have H0 := Lib.hid h0
      have H1 := Lib.hid h1
      have hlm := len_of_ctx h1
      have HRT := Lib.hid (ctx_right h1)
      have HLV := Lib.hid hLV
      have HC := Lib.hid hC
      have hmm := @run_makeMap Tryz.prog
      go_enter Tryz.func42, Tryz.ntmps42
      go_wp2_with fail
      refine hg0.mono ?_
      rintro e w0 ⟨rfl, hb0⟩
      have hg1 := HG.out w0 (HC.out.below hb0)
      rw [h1] at hg1
      have hbf := fun (W : World) (h : RBindingsIn W (.slice CL l.length dl) l) => boundForms_any l H0.out _ W h
      clear hg0 h1 h0 hC hLV HG hll hlc
      go_wp2_with fail
      refine hg1.mono ?_
      rintro e w1 ⟨rfl, hb1⟩
      have hb01 := hb0.trans (hb1.mono hb0.size)
      have hbf1 := hbf w1 (HLV.out.below hb01)
      clear hg1 hb0 hb1 hbf HLV
      go_wp2_with fail
      refine hbf1.mono ?_
      rintro e w2 ⟨mb, rfl, hmb, hb2⟩
      have hb02 := hb01.trans (hb2.mono hb01.size)
      have HMB : Hid (mb < w2.heap.size) := Lib.hid hmb.lt
      have hM0 : BoundAt (w2.alloc (.map #[] 0)) (fun b => b < w2.heap.size) mb l := (hmb.kind (q' := fun b => b < w2.heap.size) fun b hl _ => hl).keep ((Below.refl _ _).alloc (Nat.le_refl _) _)
      have hS0 := setAt_made w2
      have hb03 : Below w.heap.size w (w2.alloc (.map #[] 0)) := hb02.alloc hb02.size _
      have hnb : w.heap.size ≤ w2.heap.size := hb02.size
      clear hbf1 hb01 hb2 hmb hb02
      go_wp2
      clear hmm
      go_loopw [24] (fun i wr => ∃ (k nn : Nat), k ≤ m.length ∧ i = .int .i64 k ∧ nn ≤ k * 60 ∧ SetAt wr w2.heap.size nn (ndC l (m.take k)) ∧ BoundAt wr (fun b => b < w2.heap.size) mb l ∧ Hid (okC l (m.take k) = true) ∧ Below w.heap.size w wr) (fun i _ => m.length - (intOf i).toNat)
      case atStart => exact ⟨0, 0, Nat.zero_le _, rfl, Nat.zero_le _, hS0, hM0, Lib.hid rfl, hb03⟩
      case round =>
        clear hM0 hS0 hb03
        obtain ⟨k, nn, hk, rfl, hnn, hs, hm, hokk, hb⟩ := hrel
        by_cases hlt : k < m.length
        · obtain ⟨b1, o1, rfl, hb1, hc1⟩ := HC.out (by omega)
          obtain ⟨c1, c2⟩ := hc1 k hlt
          rw [← hb.cell (p := ⟨b1, _, none⟩) hb1] at c1 c2
          have hR := HRT.out (prAt m k) (prAt_mem hlt)
          have HNX := Lib.hid (ndC_next (l := l) hlt)
          have HOX := Lib.hid (okC_next (l := l) hlt)
          have HNO := Lib.hid (fun (h : okT (prAt m k).1 (cuT l (prAt m k).2) = false) => cu_no3 (okC_no (l := l) hlt h))
          have hT := cu_term H0.out hR.2
          have hEQ := doT_cu H0.out hR.2
          have hnlt := hs.lt
          have hmlt := hm.lt
          have hbl := hb.size
          have hdr : Below wr.heap.size wr (wr.alloc (.cells #[.int .i64 (prAt m k).1, .int .i64 (prAt m k).2] 119)).drew := ((Below.refl wr.heap.size wr).alloc (Nat.le_refl _) (.cells #[.int .i64 (prAt m k).1, .int .i64 (prAt m k).2] 119)).trans ⟨rfl, rfl, rfl, by simp, fun _ _ => rfl⟩
          have hrow : (wr.alloc (.cells #[.int .i64 (prAt m k).1, .int .i64 (prAt m k).2] 119)).drew.heap[wr.heap.size]? = _ := heap_alloc_new wr (.cells #[.int .i64 (prAt m k).1, .int .i64 (prAt m k).2] 119)
          have hszd : (wr.alloc (.cells #[.int .i64 (prAt m k).1, .int .i64 (prAt m k).2] 119)).drew.heap.size = wr.heap.size + 1 := by show (wr.alloc (.cells #[.int .i64 (prAt m k).1, .int .i64 (prAt m k).2] 119)).heap.size = _; simp
          have hdo := doneOn_any l H0.out 1 (.mk 4 (prAt m k).2 [] []) (by simp [szT, szTs]) (by decide) (term_good (hole_term hR.2)) (fun b => b < w2.heap.size) (wr.alloc (.cells #[.int .i64 (prAt m k).1, .int .i64 (prAt m k).2] 119)).drew mb _ _ (fun b h => by rw [hszd]; omega) (hm.keep hdr) (hole_form _ _ _)
          rw [hEQ] at hdo
          have HAF := Lib.hid (fun (W : World) (v : Value) (hv : FIn W (fun x => x ≠ w2.heap.size) v (cuT l (prAt m k).2)) (hsW : SetAt W w2.heap.size nn (ndC l (m.take k))) => addFresh_any w2.heap.size (prAt m k).1 40 (by decide) (szT (cuT l (prAt m k).2)) (cuT l (prAt m k).2) (Nat.le_refl _) (okP_good (term_good hT)) (fun x hx => okF_right (ndT_right hR.1 _ (term_good hT) x hx)) nn (ndC l (m.take k)) W v (by have := term_size hT; omega) hv hsW)
          have hlen1 := Nat.le_trans (ndT_len (prAt m k).1 (cuT l (prAt m k).2)) (term_size hT)
          have HS := Lib.hid hs
          have HM := Lib.hid hm
          have HB := Lib.hid hb
          have HDR := Lib.hid hdr
          have HROW := Lib.hid (fun (W : World) (h : Below (wr.alloc (.cells #[.int .i64 (prAt m k).1, .int .i64 (prAt m k).2] 119)).drew.heap.size (wr.alloc (.cells #[.int .i64 (prAt m k).1, .int .i64 (prAt m k).2] 119)).drew W) => (h.block wr.heap.size (by rw [hszd]; omega)).trans hrow)
          have HSZ := Lib.hid hszd
          obtain ⟨m0, m1, _, _⟩ := row2 hrow
          have hlmk : (m.take k).length ≤ 40 := by rw [List.length_take]; omega
          clear hc1 hR hT hEQ hs hm hb hdr hrow hszd
          generalize okT (prAt m k).1 (cuT l (prAt m k).2) = ok at *
          generalize ndT (prAt m k).1 (cuT l (prAt m k).2) = nd at *
          generalize cuT l (prAt m k).2 = u at *
          generalize prAt m k = pr at *
          generalize ndC l (m.take k) = S at *
          go_wp2
          go_region_held3 (fun w' => w'.cell? ⟨wr.heap.size, 0, none⟩ = some (.int .i64 pr.1) ∧ w'.cell? ⟨wr.heap.size, 1, none⟩ = some (.int .i64 pr.2))
            (first | ((try dsimp only); (with_reducible exact ⟨by assumption, by assumption⟩)) | go_keep)
            (first
              | (go_at_call 94; refine hdo.mono ?_; rintro e w4 ⟨v4, rfl, hv4, hb4⟩; obtain ⟨f4, rfl⟩ := hv4.iface; have hv5 := hv4.kind (q' := fun x => x ≠ w2.heap.size) (fun b _ h e => by (have h9 := HSZ.out); (rcases h with h | h); (all_goals omega)); obtain ⟨n0, n1, _, _⟩ := row2 (HROW.out w4 hb4); have hs4 := (HS.out.below HDR.out).below hb4; have haf := HAF.out w4 _ hv5 hs4; have HB4 := Lib.hid hb4)
              | (go_at_call 93; refine haf.mono ?_; rintro e w5 ⟨d5, rfl, hs5, hpre5, hall5, hg5⟩; obtain ⟨p0, p1, _, _⟩ := row2 ((hg5.block wr.heap.size (Nat.lt_of_lt_of_le (by rw [HSZ.out]; omega) HB4.out.size) (fun e => by injection e with e; omega)).trans (HROW.out w4 HB4.out)))
              | fail)
          have hm4 := (HM.out.keep HDR.out).keep HB4.out
          have hm5 : BoundAt w5 (fun b => b < w2.heap.size) mb l := hm4.over hg5 (fun e => by injection e with e; have h9 := HMB.out; omega) ⟨hg5.size, fun c hc hl => hg5.block c hl (fun e => by injection e with e; have hc' : c < w2.heap.size := hc; omega), fun _ h _ => h⟩
          have hb5 : Below w.heap.size w w5 := ((HB.out.trans (HDR.out.mono HB.out.size)).trans (HB4.out.mono (Nat.le_trans HB.out.size HDR.out.size))).grown hg5 (Nat.le_trans HB.out.size (Nat.le_trans HDR.out.size HB4.out.size)) (fun j hj => by injection hj with hj; omega)
          clear hdo haf hv4 hv5 hs4 hm4 hg5 n0 n1 p0 p1 m0 m1 HAF HS HM HB HDR HROW HSZ HB4
          cases hok : ok with
          | false =>
            have hpost : NewFreshsB (cuL l m) (cuB l m) w (.returned (.tuple #[.slice (some ⟨w5.heap.size, 0, none⟩) 0 0, .bool false])) (w5.alloc (.cells #[] 119)) := by
              rw [(HNO.out hok).1, (HNO.out hok).2]
              exact newFreshsB_empty hb5
            subst hok
            clear hs5 hpre5 hall5 hm5 hb5 HNO HNX HOX HRT
            go_wp2
            go_ret2
            exact hpost
          | true =>
            have hd := hall5 hok
            subst hd
            have hs6 : SetAt w5 w2.heap.size (nn + d5.length) (ndC l (m.take (k + 1))) := by rw [HNX.out]; exact hs5
            have hok6 : Hid (okC l (m.take (k + 1)) = true) := Lib.hid (by rw [HOX.out, hokk.out, hok]; rfl)
            subst hok
            clear hs5 hpre5 hall5 HNO HNX HOX
            go_wp2
            refine ⟨⟨k + 1, nn + d5.length, by omega, by go_num, by omega, hs6, hm5, hok6, hb5⟩, ?_⟩
            simp only [intOf]
            omega
        · rw [List.take_of_length_le (show m.length ≤ k by omega)] at hs hokk
          have hY := cu_yes H0.out H1.out hokk.out
          have hcx := context_any w2.heap.size nn (ndC l m) wr hs (fun x hx => okF_right (ndC_right H0.out HRT.out x hx)) (by have := ndC_len H0.out HRT.out; omega)
          rw [← hY.1, ← hY.2] at hcx
          generalize cuL l m = L at *
          generalize cuB l m = fl at *
          clear hY hs hm hokk HC HRT H0 H1
          go_wp2_with fail
          refine hcx.mono ?_
          rintro e w6 ⟨v, rfl, ho6, hb6⟩
          have hpost : NewFreshsB L fl w (.returned (.tuple #[v, .bool fl])) w6 := newFreshsB_later ho6 hb6 hb
          clear hcx ho6 hb6 hb
          go_wp2
          go_ret2
          exact hpost
end Go.Proofs.YtlhjgjfnmejiaaaGreat
end

