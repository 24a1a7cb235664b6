/-
  What must be known for an atom to be fresh for a term, in the model, as a contract. FreshNeeds in the program, as a contract. FreshNeeds in the model, as a contract.
-/
import Derived.Test.YtbfkfklaplgebaaKFreshNeeds13
import Derived.Test.YtbfkfklaplgebaaKFreshNeeds19
import Derived.Test.YtbfkfklaplgebaaKFreshNeeds18
import Derived.Test.YtbfkfklaplgebaaKFreshNeeds21
import Derived.Test.YtbfkfklaplgebaaKFreshNeeds15
import Derived.Test.YtbfkfklaplgebaaKFreshNeeds10
import Derived.Test.YtbfkfklaplgebaaKFreshNeeds6
section
namespace Go.Proofs.Ytbfkfklaplgebaa
open Go.RowKit Go.Sort
set_option linter.unusedVariables false

/-- What comes of the kids of a node or of a binder of another atom. -/
theorem fr_kids {a : Int} {t : Tm} (h1 : ¬ t.op = 1) (h4 : ¬ t.op = 4) (h3 : ¬ (t.op = 3 ∧ t.num = a)) :
    (okTs a t.kids = true → frL a t = sortF (ndTs a t.kids) ∧ okT a t = true) ∧ (okTs a t.kids = false → frL a t = [] ∧ okT a t = false) := by
  cases t with
  | mk o n p ks =>
    simp only [op_mk, num_mk, kids_mk] at h1 h4 h3 ⊢
    have e1 : okT a (.mk o n p ks) = okTs a ks := by rw [okT, if_neg h1, if_neg h4, if_neg h3]
    have e2 : ndT a (.mk o n p ks) = ndTs a ks := by rw [ndT, if_neg h1, if_neg h4, if_neg h3]
    constructor
    · intro h
      exact ⟨by rw [frL_yes (e1.trans h), e2], e1.trans h⟩
    · intro h
      exact ⟨frL_no (e1.trans h), e1.trans h⟩

set_option maxRecDepth 100000 in
set_option maxHeartbeats 8000000 in
theorem l3Fresh_step (a : Int) (t : Tm) (x : Value) (w : World) (hx : TmIn w x t) (hsz : szT t ≤ 60) (hpl : t.perm.length ≤ 1048576)
    (ih : ∀ i, i < t.kids.length → ∀ (w' : World) (y : Value), TmIn w' y (tmAt t.kids i) → Calls Try.prog 52 #[.int .i64 a, y] w' (NewFreshsB (frL a (tmAt t.kids i)) (okT a (tmAt t.kids i)) w')) :
    Calls Try.prog 52 #[.int .i64 a, x] w (NewFreshsB (frL a t) (okT a t) w) := by
  obtain ⟨A, c, kv, rfl, hp, hk⟩ := hx
  obtain ⟨B, d, rfl⟩ := hk.form
  rw [szT_eq] at hsz
  have hkl : t.kids.length ≤ 60 := by have := len_szTs t.kids; omega
  have hb0 : Below w.heap.size w (w.alloc (.cells #[.int .i64 t.op, .int .i64 t.num, .slice A t.perm.length c, .slice B t.kids.length d] 31)) := (Below.refl _ _).alloc (Nat.le_refl _) _
  have hbw0 : Below (w.alloc (.cells #[.int .i64 t.op, .int .i64 t.num, .slice A t.perm.length c, .slice B t.kids.length d] 31)).heap.size (w.alloc (.cells #[.int .i64 t.op, .int .i64 t.num, .slice A t.perm.length c, .slice B t.kids.length d] 31)) ((w.alloc (.cells #[.int .i64 t.op, .int .i64 t.num, .slice A t.perm.length c, .slice B t.kids.length d] 31)).alloc (.cells #[] 80)) := (Below.refl _ _).alloc (Nat.le_refl _) _
  have hbn := hb0.trans (hbw0.mono hb0.size)
  have ho0 : ((w.alloc (.cells #[.int .i64 t.op, .int .i64 t.num, .slice A t.perm.length c, .slice B t.kids.length d] 31)).alloc (.cells #[] 80)).ownsRow w.heap.size 80 2 (.slice (some ⟨w.heap.size + 1, 0, none⟩) 0 0) 0 (cellsOf []) := by
    have h := World.ownsRow_lit (e := 80) (size := 2) (w.alloc (.cells #[.int .i64 t.op, .int .i64 t.num, .slice A t.perm.length c, .slice B t.kids.length d] 31)) #[] 0 (Nat.le_refl _) (by decide) rfl
    rw [World.size_alloc] at h
    exact own_le h (by omega)
  obtain ⟨b0, b1, b2, b3⟩ := box4 hbw0
  by_cases hop1 : t.op = 1
  · have q1 : (t.op == 1) = true := by simp [hop1]
    have hR : frL a t = [] ∧ okT a t = (t.num != a) := by
      cases t with
      | mk o n p ks =>
        rw [op_mk] at hop1
        rw [num_mk]
        subst hop1
        have e1 : okT a (.mk 1 n p ks) = (n != a) := by rw [okT, if_pos rfl]
        have e2 : ndT a (.mk 1 n p ks) = [] := by rw [ndT, if_pos rfl]
        refine ⟨?_, e1⟩
        unfold frL
        rw [e2]
        split <;> rfl
    rw [hR.1, hR.2]
    have hpost : ∀ nq, NewFreshsB [] (t.num != a) w (.returned (.tuple #[.slice (some ⟨w.heap.size + 1, 0, none⟩) 0 0, .bool (t.num != a)])) (((w.alloc (.cells #[.int .i64 t.op, .int .i64 t.num, .slice A t.perm.length c, .slice B t.kids.length d] 31)).alloc (.cells #[] 80)).drewN nq) := fun nq =>
      ⟨_, rfl, own_below ho0 ⟨rfl, rfl, rfl, Nat.le_refl _, fun _ _ => rfl⟩, hbn.trans ⟨rfl, rfl, rfl, Nat.le_refl _, fun _ _ => rfl⟩⟩
    clear hp hk ih hb0 hbw0 hbn ho0 hR hop1
    go_enter Try.func52, Try.ntmps52
    go_wp2
    go_quiet (fail)
    go_wp2
    go_ret2
    exact hpost _
  · have q1 : (t.op == 1) = false := by simp [hop1]
    by_cases hop4 : t.op = 4
    · have q4 : (t.op == 4) = true := by simp [hop4]
      have hR : frL a t = [(backL t.perm a, t.num)] ∧ okT a t = true := by
        cases t with
        | mk o n p ks =>
          rw [op_mk] at hop4
          rw [num_mk, perm_mk]
          subst hop4
          have e1 : okT a (.mk 4 n p ks) = true := by rw [okT, if_neg (by decide), if_pos rfl]
          have e2 : ndT a (.mk 4 n p ks) = [(backL p a, n)] := by rw [ndT, if_neg (by decide), if_pos rfl]
          refine ⟨?_, e1⟩
          rw [frL_yes e1, e2]
          simp [sortF, joinF, putF, hasF, insF]
      rw [hR.1, hR.2]
      obtain ⟨i0, hi0, hz0, hz1, hz2⟩ := info_parts fresh_info
      have HS := Lib.hid hz2
      have hpn := hp.below hbn
      have hbs := hbn.size
      have hsrc := fun (W : World) (h : PairsAt W A t.perm) => l1Back_any A c t.perm a W h (by omega)
      generalize backL t.perm a = y at hsrc ⊢
      clear hz2 hp hk ih hb0 hbw0 hR hop1 hop4
      go_enter Try.func52, Try.ntmps52
      go_wp2
      generalize (w.alloc (.cells #[.int .i64 t.op, .int .i64 t.num, .slice A t.perm.length c, .slice B t.kids.length d] 31)).alloc (.cells #[] 80) = W at hbn ho0 b0 b1 b2 b3 hpn hbs ⊢
      have hcb := hsrc W.drew hpn.drew
      clear hsrc
      have HK : Hid (∀ w5, ((W.drew).alloc (.cells #[.int .i64 y, .int .i64 t.num] 80)).grownBy w5 (some (w.heap.size + 1)) → w5.cell? ⟨w.heap.size, 1, none⟩ = some (.int .i64 t.num) ∧ w5.cell? ⟨w.heap.size, 2, none⟩ = some (.slice A t.perm.length c)) := Lib.hid fun w5 hg => by
        have hl : w.heap.size < W.drew.heap.size := by have := (ho0.lt (w.heap.size + 1) rfl).2; show w.heap.size < W.heap.size; omega
        have hne : some w.heap.size ≠ some (w.heap.size + 1) := by simp
        exact ⟨hg.cell (a := ⟨w.heap.size, 1, none⟩) ((((Below.refl _ W.drew).alloc (Nat.le_refl _) _).cell (p := ⟨w.heap.size, 1, none⟩) hl).trans b1) hne, hg.cell (a := ⟨w.heap.size, 2, none⟩) ((((Below.refl _ W.drew).alloc (Nat.le_refl _) _).cell (p := ⟨w.heap.size, 2, none⟩) hl).trans b2) hne⟩
      go_region_held3 (fun w' => w'.cell? ⟨w.heap.size, 1, none⟩ = some (.int .i64 t.num) ∧ w'.cell? ⟨w.heap.size, 2, none⟩ = some (.slice A t.perm.length c))
        (first | (with_reducible exact ⟨by assumption, by assumption⟩) | ((try dsimp only); exact ⟨by assumption, by assumption⟩) | go_keep)
        (first
          | (go_at_call 70; refine hcb.mono ?_; rintro e w' ⟨rfl, rfl⟩)
          | (refine step_append_lies _ (by rfl) _ _ _ (by rfl) w.heap.size 80 i0 _ 2 16 Try.underlying48 hi0 hz0 hz1 HS.out rfl (by omega) _ 0 _ (by rfl) ((ho0.drew).alloc _)
              ⟨W.heap.size, 0, none⟩ 1 1 [.int .i64 y, .int .i64 t.num] (by rfl) (by rfl) (World.news_of_block (cs := #[.int .i64 y, .int .i64 t.num]) (t := 80) (fr := (0, 0)) (heap_alloc_new _ _)) (pair_one _ _)
              (by omega) (by unfold maxLen; omega) (by omega) (by simp; omega) (W.heap.size + 1) (by simp) ?_; intro gg cap w5 ho5 hgrow hat hlt2; have k1 := HK.out w5 hgrow; have k2 := k1.2; replace k1 := k1.1)
          | fail)
      have hb5 : Below w.heap.size w w5 := by
        have h1 : Below w.heap.size w ((W.drew).alloc (.cells #[.int .i64 y, .int .i64 t.num] 80)) := (show Below w.heap.size w W.drew from ⟨hbn.os, hbn.tape, hbn.output, hbn.size, hbn.block⟩).alloc hbn.size _
        exact below_own h1 ((ho0.drew).alloc _) (Nat.le_refl _) (by simp; omega) hgrow
      have hpost : NewFreshsB [(y, t.num)] true w (.returned (.tuple #[.slice (some ⟨gg, 0, none⟩) 1 cap, .bool true])) w5 := ⟨_, rfl, ho5, hb5⟩
      clear hcb ho5 hgrow hat hlt2 hb5 hbn ho0 hpn b0 b1 b2 b3 HK k1 k2
      go_wp2
      go_ret2
      exact hpost
    · have q4 : (t.op == 4) = false := by simp [hop4]
      have hst : JoinAt w.heap.size ((w.alloc (.cells #[.int .i64 t.op, .int .i64 t.num, .slice A t.perm.length c, .slice B t.kids.length d] 31)).alloc (.cells #[] 80)) (.slice (some ⟨w.heap.size + 1, 0, none⟩) 0 0) (sortF (ndTs a (t.kids.take 0))) := ho0
      by_cases hop3 : t.op = 3
      · have q3 : (t.op == 3) = true := by simp [hop3]
        by_cases hna : t.num = a
        · have qn : (t.num == a) = true := by simp [hna]
          have hR : frL a t = [] ∧ okT a t = true := by
            cases t with
            | mk o n p ks =>
              rw [op_mk] at hop3
              rw [num_mk] at hna
              subst hop3
              have e1 : okT a (.mk 3 n p ks) = true := by rw [okT, if_neg (by decide), if_neg (by decide), if_pos ⟨rfl, hna⟩]
              have e2 : ndT a (.mk 3 n p ks) = [] := by rw [ndT, if_neg (by decide), if_neg (by decide), if_pos ⟨rfl, hna⟩]
              refine ⟨?_, e1⟩
              rw [frL_yes e1, e2]
              rfl
          rw [hR.1, hR.2]
          have hpost : NewFreshsB [] true w (.returned (.tuple #[.slice (some ⟨w.heap.size + 1, 0, none⟩) 0 0, .bool true])) ((w.alloc (.cells #[.int .i64 t.op, .int .i64 t.num, .slice A t.perm.length c, .slice B t.kids.length d] 31)).alloc (.cells #[] 80)) := ⟨_, rfl, ho0, hbn⟩
          clear hp hk ih hb0 hbw0 hbn ho0 hR hop1 hop3 hop4 hna hst
          go_enter Try.func52, Try.ntmps52
          go_wp2
          go_ret2
          exact hpost
        · have hfin := Lib.hid (fr_kids (a := a) hop1 hop4 (fun h => hna h.2))
          have qn : (t.num == a) = false := by simp [hna]
          clear hp hbn ho0 hop1 hop4 hop3 hna
          go_enter Try.func52, Try.ntmps52
          go_wp2
          go_loopw [6, 49] (fun v i wr => ∃ k : Nat, k ≤ t.kids.length ∧ i = .int .i64 k ∧ Hid (okTs a (t.kids.take k) = true) ∧ JoinAt w.heap.size wr v (sortF (ndTs a (t.kids.take k))) ∧ Below (w.alloc (.cells #[.int .i64 t.op, .int .i64 t.num, .slice A t.perm.length c, .slice B t.kids.length d] 31)).heap.size (w.alloc (.cells #[.int .i64 t.op, .int .i64 t.num, .slice A t.perm.length c, .slice B t.kids.length d] 31)) wr) (fun _ i _ => t.kids.length - (intOf i).toNat)
          case atStart => exact ⟨0, Nat.zero_le _, rfl, Lib.hid (by simp [okTs]), hst, hbw0⟩
          case round =>
            clear hst b0 b1 b2 b3 hbw0
            obtain ⟨k, hk', rfl, hq, ho, hbw⟩ := hrel
            have hb := hb0.trans (hbw.mono hb0.size)
            by_cases hlt : k < t.kids.length
            · obtain ⟨b, off, rfl, hbl, hget⟩ := (hk.below hb).get (by omega)
              obtain ⟨A1, c1, kv1, d0, d1, d2, d3, hp1, hk1⟩ := hget k hlt
              obtain ⟨B1, e1, rfl⟩ := hk1.form
              have hbx : Below wr.heap.size wr (wr.alloc (.cells #[.int .i64 (tmAt t.kids k).op, .int .i64 (tmAt t.kids k).num, .slice A1 (tmAt t.kids k).perm.length c1, .slice B1 (tmAt t.kids k).kids.length e1] 31)) := (Below.refl _ _).alloc (Nat.le_refl _) _
              have hct := ih k hlt _ _ ⟨A1, c1, _, rfl, hp1.below hbx, hk1.below hbx⟩
              have hb2 := hbw.trans (hbx.mono hbw.size)
              have hn1 := Lib.hid (ndTs_next a hlt)
              have hn2 := Lib.hid (okTs_next a hlt)
              have hn4 := Lib.hid (fun h => okTs_no a hlt h)
              have hn5 := Lib.hid (frL_yes (a := a) (t := tmAt t.kids k))
              have hl1 := Nat.le_trans (Nat.le_trans (sortF_len_le _) (ndTs_len a (t.kids.take k))) (szTs_take t.kids k)
              have hl2 := Nat.le_trans (frL_len a (tmAt t.kids k)) (szT_at hlt)
              have hox := own_below ho hbx
              generalize tmAt t.kids k = u at d0 d1 d2 d3 hct hbx hb2 hn1 hn2 hn4 hn5 hl2 hox
              generalize hX : ndTs a (t.kids.take k) = X at hn1 ho hox hl1 ⊢
              generalize frL a u = Y at hct hn5 hl2
              generalize okT a u = ok at hct hn2 hn4 hn5
              clear hX hget hp1 hk1 hbl hb hbw ih hk ho
              cases ok with
              | true =>
                have hY := hn5.out rfl
                have hq2 : Hid (okTs a (t.kids.take (k + 1)) = true) := Lib.hid (by rw [hn2.out, hq.out]; rfl)
                clear hn2 hn4 hn5 hq
                go_wp2_with fail
                refine hct.mono ?_
                rintro e w2 ⟨v2, rfl, ho2, hb3⟩
                have hox2 := own_below hox hb3
                obtain ⟨G1, q1, rfl, hP1⟩ := own_pairsAt hox2
                obtain ⟨G2, q2, rfl, hP2⟩ := own_pairsAt ho2
                have hj := l3Join_any G1 G2 q1 q2 (sortF X) Y w2 hP1 hP2 (by omega) (by omega)
                have hbs := hb2.trans (hb3.mono hb2.size)
                have hJ : joinF (sortF X) Y = sortF (ndTs a (t.kids.take (k + 1))) := by rw [hY, sortF_join, hn1.out]
                rw [hJ] at hj
                generalize (sortF X).length = N1 at hj hl1 ⊢
                generalize Y.length = N2 at hj hl2 ⊢
                clear hct hb2 hb3 d0 d1 d2 d3 hox hox2 ho2 hP1 hP2 hJ hY hn1 hbx
                go_wp2_with fail
                refine hj.mono ?_
                rintro e w3 ⟨v3, rfl, ho3, hb4⟩
                have ho5 : JoinAt w.heap.size w3 v3 (sortF (ndTs a (t.kids.take (k + 1)))) := own_le ho3 (Nat.le_trans hb0.size hbs.size)
                have hb5 := hbs.trans (hb4.mono hbs.size)
                clear hj ho3 hb4 hbs
                go_wp2
                refine ⟨⟨k + 1, by omega, by go_num, hq2, ho5, hb5⟩, ?_⟩
                simp only [intOf]
                omega
              | false =>
                have hno : okTs a t.kids = false := hn4.out rfl
                have HR := Lib.hid (hfin.out.2 hno)
                have hbx2 := hb0.trans (hb2.mono hb0.size)
                clear hn1 hn2 hn4 hn5 hq hox hno
                go_wp2_with fail
                refine hct.mono ?_
                rintro e w2 ⟨v2, rfl, ho2, hb3⟩
                have hpost : NewFreshsB (frL a t) (okT a t) w (.returned (.tuple #[.slice (some ⟨w2.heap.size, 0, none⟩) 0 0, .bool false])) (w2.alloc (.cells #[] 80)) := by
                  rw [HR.out.1, HR.out.2]
                  exact newFreshsB_empty (hbx2.trans (hb3.mono hbx2.size))
                clear hct hb2 hb3 d0 d1 d2 d3 ho2 hbx hbx2 HR hfin
                go_wp2
                go_ret2
                exact hpost
            · have e : k = t.kids.length := by omega
              rw [e, List.take_length] at hq ho
              have HR := hfin.out.1 hq.out
              have hpost' : ∀ v, JoinAt w.heap.size wr v (sortF (ndTs a t.kids)) → NewFreshsB (frL a t) (okT a t) w (.returned (.tuple #[v, .bool true])) wr := fun v hv => by
                rw [HR.1, HR.2]
                exact ⟨_, rfl, hv, hb⟩
              have hpost := hpost' _ ho
              clear hpost' ih hk hb ho hbw hq HR hfin
              go_wp2
              go_ret2
              exact hpost
      · have hfin := Lib.hid (fr_kids (a := a) hop1 hop4 (fun h => hop3 h.1))
        have q3 : (t.op == 3) = false := by simp [hop3]
        clear hp hbn ho0 hop1 hop4 hop3
        go_enter Try.func52, Try.ntmps52
        go_wp2
        go_loopw [6, 49] (fun v i wr => ∃ k : Nat, k ≤ t.kids.length ∧ i = .int .i64 k ∧ Hid (okTs a (t.kids.take k) = true) ∧ JoinAt w.heap.size wr v (sortF (ndTs a (t.kids.take k))) ∧ Below (w.alloc (.cells #[.int .i64 t.op, .int .i64 t.num, .slice A t.perm.length c, .slice B t.kids.length d] 31)).heap.size (w.alloc (.cells #[.int .i64 t.op, .int .i64 t.num, .slice A t.perm.length c, .slice B t.kids.length d] 31)) wr) (fun _ i _ => t.kids.length - (intOf i).toNat)
        case atStart => exact ⟨0, Nat.zero_le _, rfl, Lib.hid (by simp [okTs]), hst, hbw0⟩
        case round =>
          clear hst b0 b1 b2 b3 hbw0
          obtain ⟨k, hk', rfl, hq, ho, hbw⟩ := hrel
          have hb := hb0.trans (hbw.mono hb0.size)
          by_cases hlt : k < t.kids.length
          · obtain ⟨b, off, rfl, hbl, hget⟩ := (hk.below hb).get (by omega)
            obtain ⟨A1, c1, kv1, d0, d1, d2, d3, hp1, hk1⟩ := hget k hlt
            obtain ⟨B1, e1, rfl⟩ := hk1.form
            have hbx : Below wr.heap.size wr (wr.alloc (.cells #[.int .i64 (tmAt t.kids k).op, .int .i64 (tmAt t.kids k).num, .slice A1 (tmAt t.kids k).perm.length c1, .slice B1 (tmAt t.kids k).kids.length e1] 31)) := (Below.refl _ _).alloc (Nat.le_refl _) _
            have hct := ih k hlt _ _ ⟨A1, c1, _, rfl, hp1.below hbx, hk1.below hbx⟩
            have hb2 := hbw.trans (hbx.mono hbw.size)
            have hn1 := Lib.hid (ndTs_next a hlt)
            have hn2 := Lib.hid (okTs_next a hlt)
            have hn4 := Lib.hid (fun h => okTs_no a hlt h)
            have hn5 := Lib.hid (frL_yes (a := a) (t := tmAt t.kids k))
            have hl1 := Nat.le_trans (Nat.le_trans (sortF_len_le _) (ndTs_len a (t.kids.take k))) (szTs_take t.kids k)
            have hl2 := Nat.le_trans (frL_len a (tmAt t.kids k)) (szT_at hlt)
            have hox := own_below ho hbx
            generalize tmAt t.kids k = u at d0 d1 d2 d3 hct hbx hb2 hn1 hn2 hn4 hn5 hl2 hox
            generalize hX : ndTs a (t.kids.take k) = X at hn1 ho hox hl1 ⊢
            generalize frL a u = Y at hct hn5 hl2
            generalize okT a u = ok at hct hn2 hn4 hn5
            clear hX hget hp1 hk1 hbl hb hbw ih hk ho
            cases ok with
            | true =>
              have hY := hn5.out rfl
              have hq2 : Hid (okTs a (t.kids.take (k + 1)) = true) := Lib.hid (by rw [hn2.out, hq.out]; rfl)
              clear hn2 hn4 hn5 hq
              go_wp2_with fail
              refine hct.mono ?_
              rintro e w2 ⟨v2, rfl, ho2, hb3⟩
              have hox2 := own_below hox hb3
              obtain ⟨G1, q1, rfl, hP1⟩ := own_pairsAt hox2
              obtain ⟨G2, q2, rfl, hP2⟩ := own_pairsAt ho2
              have hj := l3Join_any G1 G2 q1 q2 (sortF X) Y w2 hP1 hP2 (by omega) (by omega)
              have hbs := hb2.trans (hb3.mono hb2.size)
              have hJ : joinF (sortF X) Y = sortF (ndTs a (t.kids.take (k + 1))) := by rw [hY, sortF_join, hn1.out]
              rw [hJ] at hj
              generalize (sortF X).length = N1 at hj hl1 ⊢
              generalize Y.length = N2 at hj hl2 ⊢
              clear hct hb2 hb3 d0 d1 d2 d3 hox hox2 ho2 hP1 hP2 hJ hY hn1 hbx
              go_wp2_with fail
              refine hj.mono ?_
              rintro e w3 ⟨v3, rfl, ho3, hb4⟩
              have ho5 : JoinAt w.heap.size w3 v3 (sortF (ndTs a (t.kids.take (k + 1)))) := own_le ho3 (Nat.le_trans hb0.size hbs.size)
              have hb5 := hbs.trans (hb4.mono hbs.size)
              clear hj ho3 hb4 hbs
              go_wp2
              refine ⟨⟨k + 1, by omega, by go_num, hq2, ho5, hb5⟩, ?_⟩
              simp only [intOf]
              omega
            | false =>
              have hno : okTs a t.kids = false := hn4.out rfl
              have HR := Lib.hid (hfin.out.2 hno)
              have hbx2 := hb0.trans (hb2.mono hb0.size)
              clear hn1 hn2 hn4 hn5 hq hox hno
              go_wp2_with fail
              refine hct.mono ?_
              rintro e w2 ⟨v2, rfl, ho2, hb3⟩
              have hpost : NewFreshsB (frL a t) (okT a t) w (.returned (.tuple #[.slice (some ⟨w2.heap.size, 0, none⟩) 0 0, .bool false])) (w2.alloc (.cells #[] 80)) := by
                rw [HR.out.1, HR.out.2]
                exact newFreshsB_empty (hbx2.trans (hb3.mono hbx2.size))
              clear hct hb2 hb3 d0 d1 d2 d3 ho2 hbx hbx2 HR hfin
              go_wp2
              go_ret2
              exact hpost
          · have e : k = t.kids.length := by omega
            rw [e, List.take_length] at hq ho
            have HR := hfin.out.1 hq.out
            have hpost' : ∀ v, JoinAt w.heap.size wr v (sortF (ndTs a t.kids)) → NewFreshsB (frL a t) (okT a t) w (.returned (.tuple #[v, .bool true])) wr := fun v hv => by
              rw [HR.1, HR.2]
              exact ⟨_, rfl, hv, hb⟩
            have hpost := hpost' _ ho
            clear hpost' ih hk hb ho hbw hq HR hfin
            go_wp2
            go_ret2
            exact hpost

end Go.Proofs.Ytbfkfklaplgebaa
end

section
namespace Go.Proofs.Ytbfkfklaplgebaa
section
open Go.RowKit Go.Sort Go.ChangeShapes Go.WideShapes Go.WideMaps Go.Maps
set_option linter.unusedVariables false

def frnB (a : Int) (t : Tm) : Bool := atomB a && (isTermB t && (okT a t && fewB (ndT a t)))
def frnL (a : Int) (t : Tm) : List (Int × Int) := if atomB a && (isTermB t && okT a t) then ctxOf (ndT a t) else []
theorem frn_no1 {a : Int} {t : Tm} (h : atomB a = false) : frnL a t = [] ∧ frnB a t = false := by simp [frnL, frnB, h]
theorem frn_no2 {a : Int} {t : Tm} (h : isTermB t = false) : frnL a t = [] ∧ frnB a t = false := by simp [frnL, frnB, h]
theorem frn_no3 {a : Int} {t : Tm} (h : okT a t = false) : frnL a t = [] ∧ frnB a t = false := by simp [frnL, frnB, h]
theorem frn_yes {a : Int} {t : Tm} (h1 : atomB a = true) (h2 : isTermB t = true) (h3 : okT a t = true) : frnL a t = ctxOf (ndT a t) ∧ frnB a t = fewB (ndT a t) := by simp [frnL, frnB, h1, h2, h3]
theorem ctxOf_len (S : List (Int × Int)) : (ctxOf S).length ≤ 40 := by
  unfold ctxOf fewB
  split
  · rename_i h; simpa using h
  · simp
theorem frnL_len (a : Int) (t : Tm) : (frnL a t).length ≤ 40 := by
  unfold frnL
  split
  · exact ctxOf_len _
  · simp
theorem okF_right {x : Int × Int} (h : atomB x.1 = true ∧ holeB x.2 = true) : okF x := okF_of_ctx h.1 h.2

set_option maxRecDepth 100000 in
set_option maxHeartbeats 2000000 in
theorem freshNeeds_impl (a : Int) (t : Tm) (x : Value) (w : World) (hx : TmIn w x t) (hf : Fit t) :
    Calls Try.prog 26 #[.int .i64 a, x] w (NewFreshsB (frnL a t) (frnB a t) w) := by
  have hx' := hx
  obtain ⟨A, c, kv, rfl, hp, hk⟩ := hx
  obtain ⟨B, d, rfl⟩ := hk.form
  have hmm := @run_makeMap Try.prog
  have hat := isAtom_any a
  have hbA : Below w.heap.size w (w.alloc (.cells #[.int .i64 t.op, .int .i64 t.num, .slice A t.perm.length c, .slice B t.kids.length d] 31)) := (Below.refl _ _).alloc (Nat.le_refl _) _
  have hb1 : Below (w.alloc (.cells #[.int .i64 t.op, .int .i64 t.num, .slice A t.perm.length c, .slice B t.kids.length d] 31)).heap.size (w.alloc (.cells #[.int .i64 t.op, .int .i64 t.num, .slice A t.perm.length c, .slice B t.kids.length d] 31)) ((w.alloc (.cells #[.int .i64 t.op, .int .i64 t.num, .slice A t.perm.length c, .slice B t.kids.length d] 31)).alloc (.map #[] 0)) := (Below.refl _ _).alloc (Nat.le_refl _) _
  have hb0 := hbA.trans (hb1.mono hbA.size)
  have hs0 : SetAt ((w.alloc (.cells #[.int .i64 t.op, .int .i64 t.num, .slice A t.perm.length c, .slice B t.kids.length d] 31)).alloc (.map #[] 0)) (w.heap.size + 1) 0 [] := by
    have h := setAt_made (w.alloc (.cells #[.int .i64 t.op, .int .i64 t.num, .slice A t.perm.length c, .slice B t.kids.length d] 31))
    rw [World.size_alloc] at h
    exact h
  have hsz0 : ((w.alloc (.cells #[.int .i64 t.op, .int .i64 t.num, .slice A t.perm.length c, .slice B t.kids.length d] 31)).alloc (.map #[] 0)).heap.size = w.heap.size + 2 := by simp
  have hit := isTerm_impl t _ _ (hx'.below hb0) hf
  obtain ⟨b0, b1, b2, b3⟩ := box4 hb1
  clear hp hk
  by_cases ha : atomB a = true
  · rw [ha] at hat
    by_cases ht : isTermB t = true
    · rw [ht] at hit
      have hfo := fun W hW => formOf_any (szT t) t (Nat.le_refl _) (term_good ht) w W _ hx' hW
      have hszt := term_size ht
      have hright := Lib.hid (ndT_right ha t (term_good ht))
      have hadd := fun (W : World) (v : Value) h1 h2 => addFresh_any (w.heap.size + 1) a 40 (by decide) (szT t) t (Nat.le_refl _) (okP_good (term_good ht)) (fun x hx => okF_right (hright.out x hx)) 0 [] W v (by omega) h1 h2
      have hndl := Nat.le_trans (ndT_len a t) hszt
      cases hok : okT a t with
      | true =>
        have HY := Lib.hid (frn_yes ha ht hok)
        rw [hok] at hadd
        generalize hD : ndT a t = D at hadd HY hright hndl
        generalize hL : ctxOf D = L at HY
        generalize hF : fewB D = fl at HY
        have HL := Lib.hid hL
        have HF := Lib.hid hF
        clear ha ht hok hD hL hF
        go_enter Try.func26, Try.ntmps26
        go_wp2_with fail
        refine (hat _).mono ?_
        rintro e w1 ⟨rfl, rfl⟩
        go_wp2_with fail
        refine hit.mono ?_
        rintro e w1 ⟨rfl, hbt⟩
        have hbs := hb1.trans (hbt.mono hb1.size)
        have hs1 := hs0.below hbt
        have hw1 := hb0.trans (hbt.mono hb0.size)
        have hsz1 := hbt.size
        rw [hsz0] at hsz1
        obtain ⟨c0, c1, c2, c3⟩ := box4 hbs
        have hfo1 := hfo w1 hw1
        clear hit hbt hbs hs0 hb0 hb1 hbA hfo hx' hat b0 b1 b2 b3 hsz0
        go_wp2_with fail
        refine hfo1.mono ?_
        rintro e w2 ⟨fv, rfl, hfv, hb2⟩
        have hw2 := hw1.trans (hb2.mono hw1.size)
        have hs2 := hs1.below hb2
        have hfv2 : FIn w2 (fun x => x ≠ w.heap.size + 1) fv t := hfv.kind (fun b _ h => by
          rcases h with h | h
          · omega
          · omega)
        have hadd2 := hadd w2 fv hfv2 hs2
        clear hfo1 hb2 hs1 hs2 hfv hfv2 hadd hw1 c0 c1 c2 c3
        go_wp2_with fail
        refine hadd2.mono ?_
        rintro e w3 ⟨d', rfl, h1, h2, h3, h4⟩
        have e3 : d' = D := by simpa using h3
        subst e3
        rw [List.nil_append] at h1
        have hw3 := hw2.grown h4 hw2.size (fun j hj => by injection hj with hj; omega)
        have hcx := context_any (w.heap.size + 1) _ d' w3 h1 (fun x hx => okF_right (hright.out x hx)) (by omega)
        rw [HL.out, HF.out] at hcx
        clear hadd2 h1 h2 h3 h4 hw2 HL HF
        go_wp2_with fail
        refine hcx.mono ?_
        rintro e w4 ⟨v, rfl, ho4, hb4⟩
        have hpost : NewFreshsB (frnL a t) (frnB a t) w (.returned (.tuple #[v, .bool fl])) w4 := by
          rw [HY.out.1, HY.out.2]
          exact newFreshsB_later ho4 hb4 hw3
        clear hcx ho4 hb4 hw3 HY
        go_wp2
        go_ret2
        exact hpost
      | false =>
        have HY := Lib.hid (frn_no3 hok)
        rw [hok] at hadd
        generalize hD : ndT a t = D at hadd hright hndl
        clear ha ht hok hD
        go_enter Try.func26, Try.ntmps26
        go_wp2_with fail
        refine (hat _).mono ?_
        rintro e w1 ⟨rfl, rfl⟩
        go_wp2_with fail
        refine hit.mono ?_
        rintro e w1 ⟨rfl, hbt⟩
        have hbs := hb1.trans (hbt.mono hb1.size)
        have hs1 := hs0.below hbt
        have hw1 := hb0.trans (hbt.mono hb0.size)
        have hsz1 := hbt.size
        rw [hsz0] at hsz1
        obtain ⟨c0, c1, c2, c3⟩ := box4 hbs
        have hfo1 := hfo w1 hw1
        clear hit hbt hbs hs0 hb0 hb1 hbA hfo hx' hat b0 b1 b2 b3 hsz0
        go_wp2_with fail
        refine hfo1.mono ?_
        rintro e w2 ⟨fv, rfl, hfv, hb2⟩
        have hw2 := hw1.trans (hb2.mono hw1.size)
        have hs2 := hs1.below hb2
        have hfv2 : FIn w2 (fun x => x ≠ w.heap.size + 1) fv t := hfv.kind (fun b _ h => by
          rcases h with h | h
          · omega
          · omega)
        have hadd2 := hadd w2 fv hfv2 hs2
        clear hfo1 hb2 hs1 hs2 hfv hfv2 hadd hw1 c0 c1 c2 c3
        go_wp2_with fail
        refine hadd2.mono ?_
        rintro e w3 ⟨d', rfl, h1, h2, h3, h4⟩
        have hw3 := hw2.grown h4 hw2.size (fun j hj => by injection hj with hj; omega)
        have hpost : NewFreshsB (frnL a t) (frnB a t) w (.returned (.tuple #[.slice (some ⟨w3.heap.size, 0, none⟩) 0 0, .bool false])) (w3.alloc (.cells #[] 80)) := by
          rw [HY.out.1, HY.out.2]
          exact newFreshsB_empty hw3
        clear hadd2 h1 h2 h3 h4 hw2 hw3 HY
        go_wp2
        go_ret2
        exact hpost
    · have ht' : isTermB t = false := by simpa using ht
      have HY := Lib.hid (frn_no2 (a := a) ht')
      rw [ht'] at hit
      clear ha ht ht' hx' hs0
      go_enter Try.func26, Try.ntmps26
      go_wp2_with fail
      refine (hat _).mono ?_
      rintro e w1 ⟨rfl, rfl⟩
      go_wp2_with fail
      refine hit.mono ?_
      rintro e w1 ⟨rfl, hbt⟩
      have hpost : NewFreshsB (frnL a t) (frnB a t) w (.returned (.tuple #[.slice (some ⟨w1.heap.size, 0, none⟩) 0 0, .bool false])) (w1.alloc (.cells #[] 80)) := by
        rw [HY.out.1, HY.out.2]
        exact newFreshsB_empty (hb0.trans (hbt.mono hb0.size))
      clear hit hbt hb0 hb1 hbA hat HY b0 b1 b2 b3
      go_wp2
      go_ret2
      exact hpost
  · have ha' : atomB a = false := by simpa using ha
    have HY := frn_no1 (t := t) ha'
    have hpost : NewFreshsB (frnL a t) (frnB a t) w (.returned (.tuple #[.slice (some ⟨w.heap.size + 2, 0, none⟩) 0 0, .bool false])) (((w.alloc (.cells #[.int .i64 t.op, .int .i64 t.num, .slice A t.perm.length c, .slice B t.kids.length d] 31)).alloc (.map #[] 0)).alloc (.cells #[] 80)) := by
      rw [HY.1, HY.2]
      have h := newFreshsB_empty (b := false) hb0
      rw [hsz0] at h
      exact h
    rw [ha'] at hat
    clear ha ha' hx' hit hb0 hb1 hbA hs0 HY b0 b1 b2 b3
    go_enter Try.func26, Try.ntmps26
    go_wp2_with fail
    refine (hat _).mono ?_
    rintro e w1 ⟨rfl, rfl⟩
    clear hat
    go_wp2
    go_ret2
    exact hpost
end

section
open Go.RowKit Go.Sort
set_option linter.unusedVariables false

theorem l3Fresh_any (a : Int) : ∀ (N : Nat) (t : Tm), szT t ≤ N → szT t ≤ 60 → OkP 1048576 t → ∀ (w : World) (x : Value), TmIn w x t → Calls Try.prog 52 #[.int .i64 a, x] w (NewFreshsB (frL a t) (okT a t) w) := by
  intro N
  induction N with
  | zero => intro t h; rw [szT_eq] at h; omega
  | succ N ih =>
    intro t hN h60 hP w x hx
    have hP1 : t.perm.length ≤ 1048576 ∧ OkPs 1048576 t.kids := by
      cases t with
      | mk o n p ks => exact ⟨hP.2.1, hP.2.2⟩
    refine l3Fresh_step a t x w hx h60 hP1.1 fun i hi w' y hy => ?_
    have h1 := szT_at hi
    rw [szT_eq] at hN h60
    exact ih _ (by omega) (by omega) (okPs_at hP1.2 hi) w' y hy

theorem ctxB_nd {a : Int} {t : Tm} (ha : atomB a = true) (hg : goodT t = true) : ctxB (sortF (ndT a t)) = fewB (ndT a t) := by
  have hr : rightB (sortF (ndT a t)) = true := rightB_of (fun x hx => ndT_right ha t hg x (mem_sortF.1 hx)) (sortF_asc _)
  unfold ctxB fewB
  rw [hr, Bool.and_true]

set_option maxRecDepth 100000 in
set_option maxHeartbeats 2000000 in
theorem freshNeeds_spec (a : Int) (t : Tm) (x : Value) (w : World) (hx : TmIn w x t) (hc : cntT t ≤ 1048576) :
    Calls Try.prog 25 #[.int .i64 a, x] w (NewFreshsB (frnL a t) (frnB a t) w) := by
  have hx' := hx
  obtain ⟨A, c, kv, rfl, hp, hk⟩ := hx
  obtain ⟨B, d, rfl⟩ := hk.form
  have hb0 : Below w.heap.size w (w.alloc (.cells #[.int .i64 t.op, .int .i64 t.num, .slice A t.perm.length c, .slice B t.kids.length d] 31)) := (Below.refl _ _).alloc (Nat.le_refl _) _
  have hit := isTerm_spec t _ _ (hx'.below hb0) hc
  have hat := l1Atom_any a
  clear hp hk
  by_cases ha : atomB a = true
  · rw [ha] at hat
    by_cases ht : isTermB t = true
    · rw [ht] at hit
      have hfr := fun (W : World) (y : Value) (hW : TmIn W y t) => l3Fresh_any a (szT t) t (Nat.le_refl _) (term_size ht) (okP_le (by decide) (okP_good (term_good ht))) W y hW
      have hcb := ctxB_nd ha (term_good ht)
      have hlen := Nat.le_trans (Nat.le_trans (sortF_len_le (ndT a t)) (ndT_len a t)) (term_size ht)
      cases hok : okT a t with
      | true =>
        have HY := Lib.hid (frn_yes ha ht hok)
        rw [hok, frL_yes hok] at hfr
        have HD := Lib.hid (show ctxOf (ndT a t) = if fewB (ndT a t) then sortF (ndT a t) else [] from rfl)
        generalize sortF (ndT a t) = S at hfr hcb hlen HD
        generalize ctxOf (ndT a t) = L at HY HD
        generalize fewB (ndT a t) = fl at HY HD hcb
        have HC := Lib.hid hcb
        clear ha ht hok hcb
        go_enter Try.func25, Try.ntmps25
        go_wp2_with fail
        refine (hat _).mono ?_
        rintro e w1 ⟨rfl, rfl⟩
        go_wp2_with fail
        refine hit.mono ?_
        rintro e w1 ⟨rfl, hbt⟩
        obtain ⟨b0, b1, b2, b3⟩ := box4 hbt
        have hs1 := hb0.trans (hbt.mono hb0.size)
        have hfr1 := hfr w1 _ (hx'.below hs1)
        clear hit hbt hb0 hfr hx' hat
        go_wp2_with fail
        refine hfr1.mono ?_
        rintro e w2 ⟨v2, rfl, ho2, hb2⟩
        have hs2 := hs1.trans (hb2.mono hs1.size)
        have ho2' := own_le ho2 hs1.size
        obtain ⟨G, cap, rfl, hP⟩ := own_pairsAt ho2
        have hcx := isContext_spec G cap S w2 hP (by omega)
        rw [HC.out] at hcx
        clear hfr1 hb2 hs1 ho2 hP b0 b1 b2 b3 HC
        cases fl with
        | true =>
          have HR : Hid (L = S) := by show L = S; rw [HD.out]; simp
          go_wp2_with fail
          refine hcx.mono ?_
          rintro e w3 ⟨rfl, hb3⟩
          have hpost : NewFreshsB (frnL a t) (frnB a t) w (.returned (.tuple #[.slice G S.length cap, .bool true])) w3 := by
            rw [HY.out.1, HY.out.2, HR.out]
            exact ⟨_, rfl, own_below ho2' hb3, hs2.trans (hb3.mono hs2.size)⟩
          clear hcx ho2' hb3 hs2 HR HD HY
          go_wp2
          go_ret2
          exact hpost
        | false =>
          have HR : L = [] := by rw [HD.out]; simp
          subst HR
          go_wp2_with fail
          refine hcx.mono ?_
          rintro e w3 ⟨rfl, hb3⟩
          have hpost : NewFreshsB (frnL a t) (frnB a t) w (.returned (.tuple #[.slice (some ⟨w3.heap.size, 0, none⟩) 0 0, .bool false])) (w3.alloc (.cells #[] 80)) := by
            rw [HY.out.1, HY.out.2]
            exact newFreshsB_empty (hs2.trans (hb3.mono hs2.size))
          clear hcx ho2' hb3 hs2 HD HY
          go_wp2
          go_ret2
          exact hpost
      | false =>
        have HY := Lib.hid (frn_no3 hok)
        rw [hok] at hfr
        generalize frL a t = S at hfr
        clear ha ht hok hcb hlen
        go_enter Try.func25, Try.ntmps25
        go_wp2_with fail
        refine (hat _).mono ?_
        rintro e w1 ⟨rfl, rfl⟩
        go_wp2_with fail
        refine hit.mono ?_
        rintro e w1 ⟨rfl, hbt⟩
        obtain ⟨b0, b1, b2, b3⟩ := box4 hbt
        have hs1 := hb0.trans (hbt.mono hb0.size)
        have hfr1 := hfr w1 _ (hx'.below hs1)
        clear hit hbt hb0 hfr hx' hat
        go_wp2_with fail
        refine hfr1.mono ?_
        rintro e w2 ⟨v2, rfl, ho2, hb2⟩
        have hpost : NewFreshsB (frnL a t) (frnB a t) w (.returned (.tuple #[.slice (some ⟨w2.heap.size, 0, none⟩) 0 0, .bool false])) (w2.alloc (.cells #[] 80)) := by
          rw [HY.out.1, HY.out.2]
          exact newFreshsB_empty (hs1.trans (hb2.mono hs1.size))
        clear hfr1 hb2 hs1 ho2 b0 b1 b2 b3 HY
        go_wp2
        go_ret2
        exact hpost
    · have ht' : isTermB t = false := by simpa using ht
      have HY := Lib.hid (frn_no2 (a := a) ht')
      rw [ht'] at hit
      clear ha ht ht' hx'
      go_enter Try.func25, Try.ntmps25
      go_wp2_with fail
      refine (hat _).mono ?_
      rintro e w1 ⟨rfl, rfl⟩
      go_wp2_with fail
      refine hit.mono ?_
      rintro e w1 ⟨rfl, hbt⟩
      have hpost : NewFreshsB (frnL a t) (frnB a t) w (.returned (.tuple #[.slice (some ⟨w1.heap.size, 0, none⟩) 0 0, .bool false])) (w1.alloc (.cells #[] 80)) := by
        rw [HY.out.1, HY.out.2]
        exact newFreshsB_empty (hb0.trans (hbt.mono hb0.size))
      clear hit hbt hb0 hat HY
      go_wp2
      go_ret2
      exact hpost
  · have ha' : atomB a = false := by simpa using ha
    have HY := frn_no1 (t := t) ha'
    have hpost : NewFreshsB (frnL a t) (frnB a t) w (.returned (.tuple #[.slice (some ⟨w.heap.size + 1, 0, none⟩) 0 0, .bool false])) ((w.alloc (.cells #[.int .i64 t.op, .int .i64 t.num, .slice A t.perm.length c, .slice B t.kids.length d] 31)).alloc (.cells #[] 80)) := by
      rw [HY.1, HY.2]
      have h := newFreshsB_empty (b := false) hb0
      rw [World.size_alloc] at h
      exact h
    rw [ha'] at hat
    clear ha ha' hx' hit hb0 HY
    go_enter Try.func25, Try.ntmps25
    go_wp2_with fail
    refine (hat _).mono ?_
    rintro e w1 ⟨rfl, rfl⟩
    clear hat
    go_wp2
    go_ret2
    exact hpost
end
end Go.Proofs.Ytbfkfklaplgebaa
end

