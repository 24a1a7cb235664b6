/-
  What must be known for an atom to be fresh for a term, in the model, as a contract. FreshNeeds in the program, as a contract. FreshNeeds in the model, as a contract. The comparison of two terms in the model, as contracts. The comparison of two terms in the model: a step.
-/
import Derived.Test.YtbfkfklaplgebaaGreatKHoldsFor21
import Derived.Test.YtbfkfklaplgebaaGreatKHoldsFor32
import Derived.Test.YtbfkfklaplgebaaGreatKHoldsFor31
import Derived.Test.YtbfkfklaplgebaaGreatKHoldsFor33
import Derived.Test.YtbfkfklaplgebaaGreatKHoldsFor29
import Derived.Test.YtbfkfklaplgebaaGreatKHoldsFor12
import Derived.Test.YtbfkfklaplgebaaGreatKHoldsFor6
import Derived.Test.YtbfkfklaplgebaaGreatKHoldsFor23
import Derived.Test.YtbfkfklaplgebaaGreatKHoldsFor17
import Derived.Test.YtbfkfklaplgebaaGreatKHoldsFor22
import Derived.Test.YtbfkfklaplgebaaGreatKHoldsFor15
section
namespace Go.Proofs.YtbfkfklaplgebaaGreat
open Go.RowKit Go.Sort
set_option linter.unusedVariables false

/-- What comes of the kids of a node or of a binder of another atom. -/
theorem fr_kids {a : Int} {t : Tm} (h1 : ¬ t.op = 1) (h4 : ¬ t.op = 4) (h3 : ¬ (t.op = 3 ∧ t.num = a)) :
    (okTs a t.kids = true → frL a t = sortF (ndTs a t.kids) ∧ okT a t = true) ∧ (okTs a t.kids = false → frL a t = [] ∧ okT a t = false) := by
  cases t with
  | mk o n p ks =>
    simp only [op_mk, num_mk, kids_mk] at h1 h4 h3 ⊢
    have e1 : okT a (.mk o n p ks) = okTs a ks := by rw [okT, if_neg h1, if_neg h4, if_neg h3]
    have e2 : ndT a (.mk o n p ks) = ndTs a ks := by rw [ndT, if_neg h1, if_neg h4, if_neg h3]
    constructor
    · intro h
      exact ⟨by rw [frL_yes (e1.trans h), e2], e1.trans h⟩
    · intro h
      exact ⟨frL_no (e1.trans h), e1.trans h⟩

set_option maxRecDepth 100000 in
set_option maxHeartbeats 8000000 in
theorem l3Fresh_step (a : Int) (t : Tm) (x : Value) (w : World) (hx : TmIn w x t) (hsz : szT t ≤ 60) (hpl : t.perm.length ≤ 1048576)
    (ih : ∀ i, i < t.kids.length → ∀ (w' : World) (y : Value), TmIn w' y (tmAt t.kids i) → Calls Tryz.prog 89 #[.int .i64 a, y] w' (NewFreshsB (frL a (tmAt t.kids i)) (okT a (tmAt t.kids i)) w')) :
    Calls Tryz.prog 89 #[.int .i64 a, x] w (NewFreshsB (frL a t) (okT a t) w) := by
  obtain ⟨A, c, kv, rfl, hp, hk⟩ := hx
  obtain ⟨B, d, rfl⟩ := hk.form
  rw [szT_eq] at hsz
  have hkl : t.kids.length ≤ 60 := by have := len_szTs t.kids; omega
  have hb0 : Below w.heap.size w (w.alloc (.cells #[.int .i64 t.op, .int .i64 t.num, .slice A t.perm.length c, .slice B t.kids.length d] 31)) := (Below.refl _ _).alloc (Nat.le_refl _) _
  have hbw0 : Below (w.alloc (.cells #[.int .i64 t.op, .int .i64 t.num, .slice A t.perm.length c, .slice B t.kids.length d] 31)).heap.size (w.alloc (.cells #[.int .i64 t.op, .int .i64 t.num, .slice A t.perm.length c, .slice B t.kids.length d] 31)) ((w.alloc (.cells #[.int .i64 t.op, .int .i64 t.num, .slice A t.perm.length c, .slice B t.kids.length d] 31)).alloc (.cells #[] 102)) := (Below.refl _ _).alloc (Nat.le_refl _) _
  have hbn := hb0.trans (hbw0.mono hb0.size)
  have ho0 : ((w.alloc (.cells #[.int .i64 t.op, .int .i64 t.num, .slice A t.perm.length c, .slice B t.kids.length d] 31)).alloc (.cells #[] 102)).ownsRow w.heap.size 102 2 (.slice (some ⟨w.heap.size + 1, 0, none⟩) 0 0) 0 (cellsOf []) := by
    have h := World.ownsRow_lit (e := 102) (size := 2) (w.alloc (.cells #[.int .i64 t.op, .int .i64 t.num, .slice A t.perm.length c, .slice B t.kids.length d] 31)) #[] 0 (Nat.le_refl _) (by decide) rfl
    rw [World.size_alloc] at h
    exact own_le h (by omega)
  obtain ⟨b0, b1, b2, b3⟩ := box4 hbw0
  by_cases hop1 : t.op = 1
  · have q1 : (t.op == 1) = true := by simp [hop1]
    have hR : frL a t = [] ∧ okT a t = (t.num != a) := by
      cases t with
      | mk o n p ks =>
        rw [op_mk] at hop1
        rw [num_mk]
        subst hop1
        have e1 : okT a (.mk 1 n p ks) = (n != a) := by rw [okT, if_pos rfl]
        have e2 : ndT a (.mk 1 n p ks) = [] := by rw [ndT, if_pos rfl]
        refine ⟨?_, e1⟩
        unfold frL
        rw [e2]
        split <;> rfl
    rw [hR.1, hR.2]
    have hpost : ∀ nq, NewFreshsB [] (t.num != a) w (.returned (.tuple #[.slice (some ⟨w.heap.size + 1, 0, none⟩) 0 0, .bool (t.num != a)])) (((w.alloc (.cells #[.int .i64 t.op, .int .i64 t.num, .slice A t.perm.length c, .slice B t.kids.length d] 31)).alloc (.cells #[] 102)).drewN nq) := fun nq =>
      ⟨_, rfl, own_below ho0 ⟨rfl, rfl, rfl, Nat.le_refl _, fun _ _ => rfl⟩, hbn.trans ⟨rfl, rfl, rfl, Nat.le_refl _, fun _ _ => rfl⟩⟩
    clear hp hk ih hb0 hbw0 hbn ho0 hR hop1
    go_enter Tryz.func89, Tryz.ntmps89
    go_wp2
    go_quiet (fail)
    go_wp2
    go_ret2
    exact hpost _
  · have q1 : (t.op == 1) = false := by simp [hop1]
    by_cases hop4 : t.op = 4
    · have q4 : (t.op == 4) = true := by simp [hop4]
      have hR : frL a t = [(backL t.perm a, t.num)] ∧ okT a t = true := by
        cases t with
        | mk o n p ks =>
          rw [op_mk] at hop4
          rw [num_mk, perm_mk]
          subst hop4
          have e1 : okT a (.mk 4 n p ks) = true := by rw [okT, if_neg (by decide), if_pos rfl]
          have e2 : ndT a (.mk 4 n p ks) = [(backL p a, n)] := by rw [ndT, if_neg (by decide), if_pos rfl]
          refine ⟨?_, e1⟩
          rw [frL_yes e1, e2]
          simp [sortF, joinF, putF, hasF, insF]
      rw [hR.1, hR.2]
      obtain ⟨i0, hi0, hz0, hz1, hz2⟩ := info_parts fresh_info
      have HS := Lib.hid hz2
      have hpn := hp.below hbn
      have hbs := hbn.size
      have hsrc := fun (W : World) (h : PairsAt W A t.perm) => l1Back_any A c t.perm a W h (by omega)
      generalize backL t.perm a = y at hsrc ⊢
      clear hz2 hp hk ih hb0 hbw0 hR hop1 hop4
      go_enter Tryz.func89, Tryz.ntmps89
      go_wp2
      generalize (w.alloc (.cells #[.int .i64 t.op, .int .i64 t.num, .slice A t.perm.length c, .slice B t.kids.length d] 31)).alloc (.cells #[] 102) = W at hbn ho0 b0 b1 b2 b3 hpn hbs ⊢
      have hcb := hsrc W.drew hpn.drew
      clear hsrc
      have HK : Hid (∀ w5, ((W.drew).alloc (.cells #[.int .i64 y, .int .i64 t.num] 102)).grownBy w5 (some (w.heap.size + 1)) → w5.cell? ⟨w.heap.size, 1, none⟩ = some (.int .i64 t.num) ∧ w5.cell? ⟨w.heap.size, 2, none⟩ = some (.slice A t.perm.length c)) := Lib.hid fun w5 hg => by
        have hl : w.heap.size < W.drew.heap.size := by have := (ho0.lt (w.heap.size + 1) rfl).2; show w.heap.size < W.heap.size; omega
        have hne : some w.heap.size ≠ some (w.heap.size + 1) := by simp
        exact ⟨hg.cell (a := ⟨w.heap.size, 1, none⟩) ((((Below.refl _ W.drew).alloc (Nat.le_refl _) _).cell (p := ⟨w.heap.size, 1, none⟩) hl).trans b1) hne, hg.cell (a := ⟨w.heap.size, 2, none⟩) ((((Below.refl _ W.drew).alloc (Nat.le_refl _) _).cell (p := ⟨w.heap.size, 2, none⟩) hl).trans b2) hne⟩
      go_region_held3 (fun w' => w'.cell? ⟨w.heap.size, 1, none⟩ = some (.int .i64 t.num) ∧ w'.cell? ⟨w.heap.size, 2, none⟩ = some (.slice A t.perm.length c))
        (first | (with_reducible exact ⟨by assumption, by assumption⟩) | ((try dsimp only); exact ⟨by assumption, by assumption⟩) | go_keep)
        (first
          | (go_at_call 135; refine hcb.mono ?_; rintro e w' ⟨rfl, rfl⟩)
          | (refine step_append_lies _ (by rfl) _ _ _ (by rfl) w.heap.size 102 i0 _ 2 16 Tryz.underlying38 hi0 hz0 hz1 HS.out rfl (by omega) _ 0 _ (by rfl) ((ho0.drew).alloc _)
              ⟨W.heap.size, 0, none⟩ 1 1 [.int .i64 y, .int .i64 t.num] (by rfl) (by rfl) (World.news_of_block (cs := #[.int .i64 y, .int .i64 t.num]) (t := 102) (fr := (0, 0)) (heap_alloc_new _ _)) (pair_one _ _)
              (by omega) (by unfold maxLen; omega) (by omega) (by simp; omega) (W.heap.size + 1) (by simp) ?_; intro gg cap w5 ho5 hgrow hat hlt2; have k1 := HK.out w5 hgrow; have k2 := k1.2; replace k1 := k1.1)
          | fail)
      have hb5 : Below w.heap.size w w5 := by
        have h1 : Below w.heap.size w ((W.drew).alloc (.cells #[.int .i64 y, .int .i64 t.num] 102)) := (show Below w.heap.size w W.drew from ⟨hbn.os, hbn.tape, hbn.output, hbn.size, hbn.block⟩).alloc hbn.size _
        exact below_own h1 ((ho0.drew).alloc _) (Nat.le_refl _) (by simp; omega) hgrow
      have hpost : NewFreshsB [(y, t.num)] true w (.returned (.tuple #[.slice (some ⟨gg, 0, none⟩) 1 cap, .bool true])) w5 := ⟨_, rfl, ho5, hb5⟩
      clear hcb ho5 hgrow hat hlt2 hb5 hbn ho0 hpn b0 b1 b2 b3 HK k1 k2
      go_wp2
      go_ret2
      exact hpost
    · have q4 : (t.op == 4) = false := by simp [hop4]
      have hst : JoinAt w.heap.size ((w.alloc (.cells #[.int .i64 t.op, .int .i64 t.num, .slice A t.perm.length c, .slice B t.kids.length d] 31)).alloc (.cells #[] 102)) (.slice (some ⟨w.heap.size + 1, 0, none⟩) 0 0) (sortF (ndTs a (t.kids.take 0))) := ho0
      by_cases hop3 : t.op = 3
      · have q3 : (t.op == 3) = true := by simp [hop3]
        by_cases hna : t.num = a
        · have qn : (t.num == a) = true := by simp [hna]
          have hR : frL a t = [] ∧ okT a t = true := by
            cases t with
            | mk o n p ks =>
              rw [op_mk] at hop3
              rw [num_mk] at hna
              subst hop3
              have e1 : okT a (.mk 3 n p ks) = true := by rw [okT, if_neg (by decide), if_neg (by decide), if_pos ⟨rfl, hna⟩]
              have e2 : ndT a (.mk 3 n p ks) = [] := by rw [ndT, if_neg (by decide), if_neg (by decide), if_pos ⟨rfl, hna⟩]
              refine ⟨?_, e1⟩
              rw [frL_yes e1, e2]
              rfl
          rw [hR.1, hR.2]
          have hpost : NewFreshsB [] true w (.returned (.tuple #[.slice (some ⟨w.heap.size + 1, 0, none⟩) 0 0, .bool true])) ((w.alloc (.cells #[.int .i64 t.op, .int .i64 t.num, .slice A t.perm.length c, .slice B t.kids.length d] 31)).alloc (.cells #[] 102)) := ⟨_, rfl, ho0, hbn⟩
          clear hp hk ih hb0 hbw0 hbn ho0 hR hop1 hop3 hop4 hna hst
          go_enter Tryz.func89, Tryz.ntmps89
          go_wp2
          go_ret2
          exact hpost
        · have hfin := Lib.hid (fr_kids (a := a) hop1 hop4 (fun h => hna h.2))
          have qn : (t.num == a) = false := by simp [hna]
          clear hp hbn ho0 hop1 hop4 hop3 hna
          go_enter Tryz.func89, Tryz.ntmps89
          go_wp2
          go_loopw [6, 49] (fun v i wr => ∃ k : Nat, k ≤ t.kids.length ∧ i = .int .i64 k ∧ Hid (okTs a (t.kids.take k) = true) ∧ JoinAt w.heap.size wr v (sortF (ndTs a (t.kids.take k))) ∧ Below (w.alloc (.cells #[.int .i64 t.op, .int .i64 t.num, .slice A t.perm.length c, .slice B t.kids.length d] 31)).heap.size (w.alloc (.cells #[.int .i64 t.op, .int .i64 t.num, .slice A t.perm.length c, .slice B t.kids.length d] 31)) wr) (fun _ i _ => t.kids.length - (intOf i).toNat)
          case atStart => exact ⟨0, Nat.zero_le _, rfl, Lib.hid (by simp [okTs]), hst, hbw0⟩
          case round =>
            clear hst b0 b1 b2 b3 hbw0
            obtain ⟨k, hk', rfl, hq, ho, hbw⟩ := hrel
            have hb := hb0.trans (hbw.mono hb0.size)
            by_cases hlt : k < t.kids.length
            · obtain ⟨b, off, rfl, hbl, hget⟩ := (hk.below hb).get (by omega)
              obtain ⟨A1, c1, kv1, d0, d1, d2, d3, hp1, hk1⟩ := hget k hlt
              obtain ⟨B1, e1, rfl⟩ := hk1.form
              have hbx : Below wr.heap.size wr (wr.alloc (.cells #[.int .i64 (tmAt t.kids k).op, .int .i64 (tmAt t.kids k).num, .slice A1 (tmAt t.kids k).perm.length c1, .slice B1 (tmAt t.kids k).kids.length e1] 31)) := (Below.refl _ _).alloc (Nat.le_refl _) _
              have hct := ih k hlt _ _ ⟨A1, c1, _, rfl, hp1.below hbx, hk1.below hbx⟩
              have hb2 := hbw.trans (hbx.mono hbw.size)
              have hn1 := Lib.hid (ndTs_next a hlt)
              have hn2 := Lib.hid (okTs_next a hlt)
              have hn4 := Lib.hid (fun h => okTs_no a hlt h)
              have hn5 := Lib.hid (frL_yes (a := a) (t := tmAt t.kids k))
              have hl1 := Nat.le_trans (Nat.le_trans (sortF_len_le _) (ndTs_len a (t.kids.take k))) (szTs_take t.kids k)
              have hl2 := Nat.le_trans (frL_len a (tmAt t.kids k)) (szT_at hlt)
              have hox := own_below ho hbx
              generalize tmAt t.kids k = u at d0 d1 d2 d3 hct hbx hb2 hn1 hn2 hn4 hn5 hl2 hox
              generalize hX : ndTs a (t.kids.take k) = X at hn1 ho hox hl1 ⊢
              generalize frL a u = Y at hct hn5 hl2
              generalize okT a u = ok at hct hn2 hn4 hn5
              clear hX hget hp1 hk1 hbl hb hbw ih hk ho
              cases ok with
              | true =>
                have hY := hn5.out rfl
                have hq2 : Hid (okTs a (t.kids.take (k + 1)) = true) := Lib.hid (by rw [hn2.out, hq.out]; rfl)
                clear hn2 hn4 hn5 hq
                go_wp2_with fail
                refine hct.mono ?_
                rintro e w2 ⟨v2, rfl, ho2, hb3⟩
                have hox2 := own_below hox hb3
                obtain ⟨G1, q1, rfl, hP1⟩ := own_pairsAt hox2
                obtain ⟨G2, q2, rfl, hP2⟩ := own_pairsAt ho2
                have hj := l3Join_any G1 G2 q1 q2 (sortF X) Y w2 hP1 hP2 (by omega) (by omega)
                have hbs := hb2.trans (hb3.mono hb2.size)
                have hJ : joinF (sortF X) Y = sortF (ndTs a (t.kids.take (k + 1))) := by rw [hY, sortF_join, hn1.out]
                rw [hJ] at hj
                generalize (sortF X).length = N1 at hj hl1 ⊢
                generalize Y.length = N2 at hj hl2 ⊢
                clear hct hb2 hb3 d0 d1 d2 d3 hox hox2 ho2 hP1 hP2 hJ hY hn1 hbx
                go_wp2_with fail
                refine hj.mono ?_
                rintro e w3 ⟨v3, rfl, ho3, hb4⟩
                have ho5 : JoinAt w.heap.size w3 v3 (sortF (ndTs a (t.kids.take (k + 1)))) := own_le ho3 (Nat.le_trans hb0.size hbs.size)
                have hb5 := hbs.trans (hb4.mono hbs.size)
                clear hj ho3 hb4 hbs
                go_wp2
                refine ⟨⟨k + 1, by omega, by go_num, hq2, ho5, hb5⟩, ?_⟩
                simp only [intOf]
                omega
              | false =>
                have hno : okTs a t.kids = false := hn4.out rfl
                have HR := Lib.hid (hfin.out.2 hno)
                have hbx2 := hb0.trans (hb2.mono hb0.size)
                clear hn1 hn2 hn4 hn5 hq hox hno
                go_wp2_with fail
                refine hct.mono ?_
                rintro e w2 ⟨v2, rfl, ho2, hb3⟩
                have hpost : NewFreshsB (frL a t) (okT a t) w (.returned (.tuple #[.slice (some ⟨w2.heap.size, 0, none⟩) 0 0, .bool false])) (w2.alloc (.cells #[] 102)) := by
                  rw [HR.out.1, HR.out.2]
                  exact newFreshsB_empty (hbx2.trans (hb3.mono hbx2.size))
                clear hct hb2 hb3 d0 d1 d2 d3 ho2 hbx hbx2 HR hfin
                go_wp2
                go_ret2
                exact hpost
            · have e : k = t.kids.length := by omega
              rw [e, List.take_length] at hq ho
              have HR := hfin.out.1 hq.out
              have hpost' : ∀ v, JoinAt w.heap.size wr v (sortF (ndTs a t.kids)) → NewFreshsB (frL a t) (okT a t) w (.returned (.tuple #[v, .bool true])) wr := fun v hv => by
                rw [HR.1, HR.2]
                exact ⟨_, rfl, hv, hb⟩
              have hpost := hpost' _ ho
              clear hpost' ih hk hb ho hbw hq HR hfin
              go_wp2
              go_ret2
              exact hpost
      · have hfin := Lib.hid (fr_kids (a := a) hop1 hop4 (fun h => hop3 h.1))
        have q3 : (t.op == 3) = false := by simp [hop3]
        clear hp hbn ho0 hop1 hop4 hop3
        go_enter Tryz.func89, Tryz.ntmps89
        go_wp2
        go_loopw [6, 49] (fun v i wr => ∃ k : Nat, k ≤ t.kids.length ∧ i = .int .i64 k ∧ Hid (okTs a (t.kids.take k) = true) ∧ JoinAt w.heap.size wr v (sortF (ndTs a (t.kids.take k))) ∧ Below (w.alloc (.cells #[.int .i64 t.op, .int .i64 t.num, .slice A t.perm.length c, .slice B t.kids.length d] 31)).heap.size (w.alloc (.cells #[.int .i64 t.op, .int .i64 t.num, .slice A t.perm.length c, .slice B t.kids.length d] 31)) wr) (fun _ i _ => t.kids.length - (intOf i).toNat)
        case atStart => exact ⟨0, Nat.zero_le _, rfl, Lib.hid (by simp [okTs]), hst, hbw0⟩
        case round =>
          clear hst b0 b1 b2 b3 hbw0
          obtain ⟨k, hk', rfl, hq, ho, hbw⟩ := hrel
          have hb := hb0.trans (hbw.mono hb0.size)
          by_cases hlt : k < t.kids.length
          · obtain ⟨b, off, rfl, hbl, hget⟩ := (hk.below hb).get (by omega)
            obtain ⟨A1, c1, kv1, d0, d1, d2, d3, hp1, hk1⟩ := hget k hlt
            obtain ⟨B1, e1, rfl⟩ := hk1.form
            have hbx : Below wr.heap.size wr (wr.alloc (.cells #[.int .i64 (tmAt t.kids k).op, .int .i64 (tmAt t.kids k).num, .slice A1 (tmAt t.kids k).perm.length c1, .slice B1 (tmAt t.kids k).kids.length e1] 31)) := (Below.refl _ _).alloc (Nat.le_refl _) _
            have hct := ih k hlt _ _ ⟨A1, c1, _, rfl, hp1.below hbx, hk1.below hbx⟩
            have hb2 := hbw.trans (hbx.mono hbw.size)
            have hn1 := Lib.hid (ndTs_next a hlt)
            have hn2 := Lib.hid (okTs_next a hlt)
            have hn4 := Lib.hid (fun h => okTs_no a hlt h)
            have hn5 := Lib.hid (frL_yes (a := a) (t := tmAt t.kids k))
            have hl1 := Nat.le_trans (Nat.le_trans (sortF_len_le _) (ndTs_len a (t.kids.take k))) (szTs_take t.kids k)
            have hl2 := Nat.le_trans (frL_len a (tmAt t.kids k)) (szT_at hlt)
            have hox := own_below ho hbx
            generalize tmAt t.kids k = u at d0 d1 d2 d3 hct hbx hb2 hn1 hn2 hn4 hn5 hl2 hox
            generalize hX : ndTs a (t.kids.take k) = X at hn1 ho hox hl1 ⊢
            generalize frL a u = Y at hct hn5 hl2
            generalize okT a u = ok at hct hn2 hn4 hn5
            clear hX hget hp1 hk1 hbl hb hbw ih hk ho
            cases ok with
            | true =>
              have hY := hn5.out rfl
              have hq2 : Hid (okTs a (t.kids.take (k + 1)) = true) := Lib.hid (by rw [hn2.out, hq.out]; rfl)
              clear hn2 hn4 hn5 hq
              go_wp2_with fail
              refine hct.mono ?_
              rintro e w2 ⟨v2, rfl, ho2, hb3⟩
              have hox2 := own_below hox hb3
              obtain ⟨G1, q1, rfl, hP1⟩ := own_pairsAt hox2
              obtain ⟨G2, q2, rfl, hP2⟩ := own_pairsAt ho2
              have hj := l3Join_any G1 G2 q1 q2 (sortF X) Y w2 hP1 hP2 (by omega) (by omega)
              have hbs := hb2.trans (hb3.mono hb2.size)
              have hJ : joinF (sortF X) Y = sortF (ndTs a (t.kids.take (k + 1))) := by rw [hY, sortF_join, hn1.out]
              rw [hJ] at hj
              generalize (sortF X).length = N1 at hj hl1 ⊢
              generalize Y.length = N2 at hj hl2 ⊢
              clear hct hb2 hb3 d0 d1 d2 d3 hox hox2 ho2 hP1 hP2 hJ hY hn1 hbx
              go_wp2_with fail
              refine hj.mono ?_
              rintro e w3 ⟨v3, rfl, ho3, hb4⟩
              have ho5 : JoinAt w.heap.size w3 v3 (sortF (ndTs a (t.kids.take (k + 1)))) := own_le ho3 (Nat.le_trans hb0.size hbs.size)
              have hb5 := hbs.trans (hb4.mono hbs.size)
              clear hj ho3 hb4 hbs
              go_wp2
              refine ⟨⟨k + 1, by omega, by go_num, hq2, ho5, hb5⟩, ?_⟩
              simp only [intOf]
              omega
            | false =>
              have hno : okTs a t.kids = false := hn4.out rfl
              have HR := Lib.hid (hfin.out.2 hno)
              have hbx2 := hb0.trans (hb2.mono hb0.size)
              clear hn1 hn2 hn4 hn5 hq hox hno
              go_wp2_with fail
              refine hct.mono ?_
              rintro e w2 ⟨v2, rfl, ho2, hb3⟩
              have hpost : NewFreshsB (frL a t) (okT a t) w (.returned (.tuple #[.slice (some ⟨w2.heap.size, 0, none⟩) 0 0, .bool false])) (w2.alloc (.cells #[] 102)) := by
                rw [HR.out.1, HR.out.2]
                exact newFreshsB_empty (hbx2.trans (hb3.mono hbx2.size))
              clear hct hb2 hb3 d0 d1 d2 d3 ho2 hbx hbx2 HR hfin
              go_wp2
              go_ret2
              exact hpost
          · have e : k = t.kids.length := by omega
            rw [e, List.take_length] at hq ho
            have HR := hfin.out.1 hq.out
            have hpost' : ∀ v, JoinAt w.heap.size wr v (sortF (ndTs a t.kids)) → NewFreshsB (frL a t) (okT a t) w (.returned (.tuple #[v, .bool true])) wr := fun v hv => by
              rw [HR.1, HR.2]
              exact ⟨_, rfl, hv, hb⟩
            have hpost := hpost' _ ho
            clear hpost' ih hk hb ho hbw hq HR hfin
            go_wp2
            go_ret2
            exact hpost

end Go.Proofs.YtbfkfklaplgebaaGreat
end

section
namespace Go.Proofs.YtbfkfklaplgebaaGreat
section
open Go.RowKit Go.Sort Go.ChangeShapes Go.WideShapes Go.WideMaps Go.Maps
set_option linter.unusedVariables false

theorem ctxOf_len (S : List (Int × Int)) : (ctxOf S).length ≤ 40 := by
  unfold ctxOf fewB
  split
  · rename_i h; simpa using h
  · simp
theorem okF_right {x : Int × Int} (h : atomB x.1 = true ∧ holeB x.2 = true) : okF x := okF_of_ctx h.1 h.2

end

section
open Go.RowKit Go.Sort
set_option linter.unusedVariables false

theorem l3Fresh_any (a : Int) : ∀ (N : Nat) (t : Tm), szT t ≤ N → szT t ≤ 60 → OkP 1048576 t → ∀ (w : World) (x : Value), TmIn w x t → Calls Tryz.prog 89 #[.int .i64 a, x] w (NewFreshsB (frL a t) (okT a t) w) := by
  intro N
  induction N with
  | zero => intro t h; rw [szT_eq] at h; omega
  | succ N ih =>
    intro t hN h60 hP w x hx
    have hP1 : t.perm.length ≤ 1048576 ∧ OkPs 1048576 t.kids := by
      cases t with
      | mk o n p ks => exact ⟨hP.2.1, hP.2.2⟩
    refine l3Fresh_step a t x w hx h60 hP1.1 fun i hi w' y hy => ?_
    have h1 := szT_at hi
    rw [szT_eq] at hN h60
    exact ih _ (by omega) (by omega) (okPs_at hP1.2 hi) w' y hy

end
end Go.Proofs.YtbfkfklaplgebaaGreat
end

section
namespace Go.Proofs.YtbfkfklaplgebaaGreat
open Go.RowKit Go.Sort
set_option linter.unusedVariables false

theorem row4' {w : World} {g : Nat} {a b c d : Value} {T : TypeId} (h : w.heap[g]? = some (.cells #[a, b, c, d] T (0, 0))) : w.cell? ⟨g, 0, none⟩ = some a ∧ w.cell? ⟨g, 1, none⟩ = some b ∧ w.cell? ⟨g, 2, none⟩ = some c ∧ w.cell? ⟨g, 3, none⟩ = some d := by
  refine ⟨?_, ?_, ?_, ?_⟩ <;> rw [cell_of_row w g _ _ _ _ h] <;> rfl

set_option maxRecDepth 100000 in
set_option maxHeartbeats 4000000 in
theorem l3Bodies_any (s t : Tm) (x y : Value) (w : World) (hx : TmIn w x s) (hy : TmIn w y t) (hs1 : 0 < s.kids.length) (ht1 : 0 < t.kids.length) (hsz : szT (tmAt t.kids 0) ≤ 60) (hP : OkP 1048576 (tmAt t.kids 0))
    (hR : (rL (tmAt s.kids 0) (actT (swapL s.num t.num) (tmAt t.kids 0))).length ≤ 900000)
    (ih : ∀ (w' : World) (u v : Value), TmIn w' u (tmAt s.kids 0) → TmIn w' v (actT (swapL s.num t.num) (tmAt t.kids 0)) → Calls Tryz.prog 68 #[u, v] w' (NewFreshsB (sortF (rL (tmAt s.kids 0) (actT (swapL s.num t.num) (tmAt t.kids 0)))) (bL (tmAt s.kids 0) (actT (swapL s.num t.num) (tmAt t.kids 0))) w')) :
    Calls Tryz.prog 117 #[x, y] w (NewFreshsB (joinF (frL s.num (tmAt t.kids 0)) (sortF (rL (tmAt s.kids 0) (actT (swapL s.num t.num) (tmAt t.kids 0))))) (okT s.num (tmAt t.kids 0) && bL (tmAt s.kids 0) (actT (swapL s.num t.num) (tmAt t.kids 0))) w) := by
  obtain ⟨A, c, kv, rfl, hp, hk⟩ := hx
  obtain ⟨B, d, rfl⟩ := hk.form
  obtain ⟨A', c', kv', rfl, hp', hk'⟩ := hy
  obtain ⟨B', d', rfl⟩ := hk'.form
  obtain ⟨g, off, rfl, hgl, hget⟩ := hk.get hs1
  obtain ⟨g', off', rfl, hgl', hget'⟩ := hk'.get ht1
  obtain ⟨A1, c1, kv1, d0, d1, d2, d3, hp1, hk1⟩ := hget 0 hs1
  obtain ⟨B1, e1, rfl⟩ := hk1.form
  obtain ⟨A2, c2, kv2, f0, f1, f2, f3, hp2, hk2⟩ := hget' 0 ht1
  obtain ⟨B2, e2, rfl⟩ := hk2.form
  rw [Nat.zero_mul, Nat.add_zero] at d0 d1 d2 d3 f0 f1 f2 f3
  have hq1 : (0 : Int) < (s.kids.length : Int) := by omega
  have hq2 : (0 : Int) < (t.kids.length : Int) := by omega
  have hfl := Nat.le_trans (frL_len s.num (tmAt t.kids 0)) hsz
  have hsl := sortF_len_le (rL (tmAt s.kids 0) (actT (swapL s.num t.num) (tmAt t.kids 0)))
  have HF := Lib.hid (fun W y hW => l3Fresh_any s.num (szT (tmAt t.kids 0)) (tmAt t.kids 0) (Nat.le_refl _) hsz hP W y hW)
  have HA := Lib.hid (fun W P cp y hW hp => l2Act_any (szT (tmAt t.kids 0)) (tmAt t.kids 0) (Nat.le_refl _) (by omega) hP W y P cp (swapL s.num t.num) hW hp (by have := sw_len s.num t.num; omega))
  have HI := Lib.hid ih
  have HSW := Lib.hid (fun W => swapOf_spec s.num t.num W)
  generalize hK : tmAt s.kids 0 = k at *
  generalize hL : tmAt t.kids 0 = l at *
  generalize hR2 : rL k (actT (swapL s.num t.num) l) = R at *
  generalize bL k (actT (swapL s.num t.num) l) = o2 at *
  generalize actT (swapL s.num t.num) l = l2 at *
  generalize swapL s.num t.num = P at *
  generalize okT s.num l = o1 at *
  generalize frL s.num l = FR at *
  have hb : Below w.heap.size w ((w.alloc (.cells #[.int .i64 s.op, .int .i64 s.num, .slice A s.perm.length c, .slice (some ⟨g, off, none⟩) s.kids.length d] 31)).alloc (.cells #[.int .i64 t.op, .int .i64 t.num, .slice A' t.perm.length c', .slice (some ⟨g', off', none⟩) t.kids.length d'] 31)) := ((Below.refl _ w).alloc (Nat.le_refl _) _).alloc (by simp) _
  have k0 : ((w.alloc (.cells #[.int .i64 s.op, .int .i64 s.num, .slice A s.perm.length c, .slice (some ⟨g, off, none⟩) s.kids.length d] 31)).alloc (.cells #[.int .i64 t.op, .int .i64 t.num, .slice A' t.perm.length c', .slice (some ⟨g', off', none⟩) t.kids.length d'] 31)).heap[w.heap.size]? = some (.cells #[.int .i64 s.op, .int .i64 s.num, .slice A s.perm.length c, .slice (some ⟨g, off, none⟩) s.kids.length d] 31 (0, 0)) := (Below.heap_alloc _ _ _ (by simp)).trans (heap_alloc_new w _)
  have k1 : ((w.alloc (.cells #[.int .i64 s.op, .int .i64 s.num, .slice A s.perm.length c, .slice (some ⟨g, off, none⟩) s.kids.length d] 31)).alloc (.cells #[.int .i64 t.op, .int .i64 t.num, .slice A' t.perm.length c', .slice (some ⟨g', off', none⟩) t.kids.length d'] 31)).heap[w.heap.size + 1]? = some (.cells #[.int .i64 t.op, .int .i64 t.num, .slice A' t.perm.length c', .slice (some ⟨g', off', none⟩) t.kids.length d'] 31 (0, 0)) := by
    have h := heap_alloc_new (w.alloc (.cells #[.int .i64 s.op, .int .i64 s.num, .slice A s.perm.length c, .slice (some ⟨g, off, none⟩) s.kids.length d] 31)) (.cells #[.int .i64 t.op, .int .i64 t.num, .slice A' t.perm.length c', .slice (some ⟨g', off', none⟩) t.kids.length d'] 31)
    rw [World.size_alloc] at h
    exact h
  have hsz0 : ((w.alloc (.cells #[.int .i64 s.op, .int .i64 s.num, .slice A s.perm.length c, .slice (some ⟨g, off, none⟩) s.kids.length d] 31)).alloc (.cells #[.int .i64 t.op, .int .i64 t.num, .slice A' t.perm.length c', .slice (some ⟨g', off', none⟩) t.kids.length d'] 31)).heap.size = w.heap.size + 2 := by simp
  obtain ⟨_, a1, _, a3⟩ := row4' k0
  obtain ⟨_, a5, _, a7⟩ := row4' k1
  have HTK := Lib.hid (fun W (h : Below w.heap.size w W) => (show TmIn W (.agg #[.int .i64 k.op, .int .i64 k.num, .slice A1 k.perm.length c1, .slice B1 k.kids.length e1]) k from ⟨A1, c1, _, rfl, hp1.below h, hk1.below h⟩))
  have HTL := Lib.hid (fun W (h : Below w.heap.size w W) => (show TmIn W (.agg #[.int .i64 l.op, .int .i64 l.num, .slice A2 l.perm.length c2, .slice B2 l.kids.length e2]) l from ⟨A2, c2, _, rfl, hp2.below h, hk2.below h⟩))
  have HD := Lib.hid (fun W (h : Below w.heap.size w W) => (show W.cell? ⟨g, off, none⟩ = some (.int .i64 k.op) ∧ W.cell? ⟨g, off + 1, none⟩ = some (.int .i64 k.num) ∧ W.cell? ⟨g, off + 2, none⟩ = some (.slice A1 k.perm.length c1) ∧ W.cell? ⟨g, off + 3, none⟩ = some (.slice B1 k.kids.length e1) ∧ W.cell? ⟨g', off', none⟩ = some (.int .i64 l.op) ∧ W.cell? ⟨g', off' + 1, none⟩ = some (.int .i64 l.num) ∧ W.cell? ⟨g', off' + 2, none⟩ = some (.slice A2 l.perm.length c2) ∧ W.cell? ⟨g', off' + 3, none⟩ = some (.slice B2 l.kids.length e2) from ⟨(h.cell (p := ⟨g, off, none⟩) hgl).trans d0, (h.cell (p := ⟨g, off + 1, none⟩) hgl).trans d1, (h.cell (p := ⟨g, off + 2, none⟩) hgl).trans d2, (h.cell (p := ⟨g, off + 3, none⟩) hgl).trans d3, (h.cell (p := ⟨g', off', none⟩) hgl').trans f0, (h.cell (p := ⟨g', off' + 1, none⟩) hgl').trans f1, (h.cell (p := ⟨g', off' + 2, none⟩) hgl').trans f2, (h.cell (p := ⟨g', off' + 3, none⟩) hgl').trans f3⟩))
  clear hp hk hp' hk' hget hget' hp1 hk1 hp2 hk2 ih d0 d1 d2 d3 f0 f1 f2 f3 k0 k1 hP hsz hR2
  go_enter Tryz.func117, Tryz.ntmps117
  go_wp2
  generalize ((w.alloc (.cells #[.int .i64 s.op, .int .i64 s.num, .slice A s.perm.length c, .slice (some ⟨g, off, none⟩) s.kids.length d] 31)).alloc (.cells #[.int .i64 t.op, .int .i64 t.num, .slice A' t.perm.length c', .slice (some ⟨g', off', none⟩) t.kids.length d'] 31)) = W at hb hsz0 a1 a3 a5 a7 ⊢
  have hdw : Below W.heap.size W W.drew := ⟨rfl, rfl, rfl, Nat.le_refl _, fun _ _ => rfl⟩
  have HC : Hid (∀ w2, Below W.heap.size W w2 → w2.cell? ⟨w.heap.size, 1, none⟩ = some (.int .i64 s.num) ∧ w2.cell? ⟨w.heap.size, 3, none⟩ = some (.slice (some ⟨g, off, none⟩) s.kids.length d) ∧ w2.cell? ⟨w.heap.size + 1, 1, none⟩ = some (.int .i64 t.num) ∧ w2.cell? ⟨w.heap.size + 1, 3, none⟩ = some (.slice (some ⟨g', off', none⟩) t.kids.length d') ∧ w2.cell? ⟨g, off, none⟩ = some (.int .i64 k.op) ∧ w2.cell? ⟨g, off + 1, none⟩ = some (.int .i64 k.num) ∧ w2.cell? ⟨g, off + 2, none⟩ = some (.slice A1 k.perm.length c1) ∧ w2.cell? ⟨g, off + 3, none⟩ = some (.slice B1 k.kids.length e1) ∧ w2.cell? ⟨g', off', none⟩ = some (.int .i64 l.op) ∧ w2.cell? ⟨g', off' + 1, none⟩ = some (.int .i64 l.num) ∧ w2.cell? ⟨g', off' + 2, none⟩ = some (.slice A2 l.perm.length c2) ∧ w2.cell? ⟨g', off' + 3, none⟩ = some (.slice B2 l.kids.length e2)) := Lib.hid fun w2 h => by
    obtain ⟨p0, p1, p2, p3, p4, p5, p6, p7⟩ := HD.out w2 (hb.trans (h.mono hb.size))
    exact ⟨(h.cell (p := ⟨w.heap.size, 1, none⟩) (show w.heap.size < W.heap.size by omega)).trans a1, (h.cell (p := ⟨w.heap.size, 3, none⟩) (show w.heap.size < W.heap.size by omega)).trans a3, (h.cell (p := ⟨w.heap.size + 1, 1, none⟩) (show w.heap.size + 1 < W.heap.size by omega)).trans a5, (h.cell (p := ⟨w.heap.size + 1, 3, none⟩) (show w.heap.size + 1 < W.heap.size by omega)).trans a7, p0, p1, p2, p3, p4, p5, p6, p7⟩
  have hbw : Below w.heap.size w W.drew := hb.trans (hdw.mono hb.size)
  clear a1 a3 a5 a7
  obtain ⟨m0, m1, m2, m3, m4, m5, m6, m7, m8, m9, m10, m11⟩ := HC.out W.drew hdw
  have hq1 : (0 : Int) < (s.kids.length : Int) := by omega
  have hq2 : (0 : Int) < (t.kids.length : Int) := by omega
  have hcF := HF.out W.drew _ (HTL.out W.drew hbw)
  go_region_held3 (fun w' => w'.cell? ⟨w.heap.size, 1, none⟩ = some (.int .i64 s.num) ∧ w'.cell? ⟨w.heap.size, 3, none⟩ = some (.slice (some ⟨g, off, none⟩) s.kids.length d) ∧ w'.cell? ⟨w.heap.size + 1, 1, none⟩ = some (.int .i64 t.num) ∧ w'.cell? ⟨w.heap.size + 1, 3, none⟩ = some (.slice (some ⟨g', off', none⟩) t.kids.length d') ∧ w'.cell? ⟨g, off, none⟩ = some (.int .i64 k.op) ∧ w'.cell? ⟨g, off + 1, none⟩ = some (.int .i64 k.num) ∧ w'.cell? ⟨g, off + 2, none⟩ = some (.slice A1 k.perm.length c1) ∧ w'.cell? ⟨g, off + 3, none⟩ = some (.slice B1 k.kids.length e1) ∧ w'.cell? ⟨g', off', none⟩ = some (.int .i64 l.op) ∧ w'.cell? ⟨g', off' + 1, none⟩ = some (.int .i64 l.num) ∧ w'.cell? ⟨g', off' + 2, none⟩ = some (.slice A2 l.perm.length c2) ∧ w'.cell? ⟨g', off' + 3, none⟩ = some (.slice B2 l.kids.length e2))
    (first | (with_reducible exact ⟨by assumption, by assumption, by assumption, by assumption, by assumption, by assumption, by assumption, by assumption, by assumption, by assumption, by assumption, by assumption⟩) | ((try dsimp only); exact ⟨by assumption, by assumption, by assumption, by assumption, by assumption, by assumption, by assumption, by assumption, by assumption, by assumption, by assumption, by assumption⟩) | go_keep)
    (first
      | (go_at_call 89; refine hcF.mono ?_; rintro e w1 ⟨v1, rfl, ho1, hb1⟩; have hw1 := hdw.trans (hb1.mono hdw.size); obtain ⟨n0, n1, n2, n3, n4, n5, n6, n7, n8, n9, n10, n11⟩ := HC.out w1 hw1; obtain ⟨G1, q1, rfl, hP1⟩ := own_pairsAt ho1)
      | fail)
  clear hcF m0 m1 m2 m3 m4 m5 m6 m7 m8 m9 m10 m11 n0 n1 n2 n3 n4 n5 n6 n7 n8 n9 n10 n11
  go_wp2
  have hdw1 : Below w1.heap.size w1 w1.drew := ⟨rfl, rfl, rfl, Nat.le_refl _, fun _ _ => rfl⟩
  have hw1d := hw1.trans (hdw1.mono hw1.size)
  obtain ⟨m0, m1, m2, m3, m4, m5, m6, m7, m8, m9, m10, m11⟩ := HC.out w1.drew hw1d
  have hcS := HSW.out w1.drew
  go_region_held3 (fun w' => w'.cell? ⟨w.heap.size, 1, none⟩ = some (.int .i64 s.num) ∧ w'.cell? ⟨w.heap.size, 3, none⟩ = some (.slice (some ⟨g, off, none⟩) s.kids.length d) ∧ w'.cell? ⟨w.heap.size + 1, 1, none⟩ = some (.int .i64 t.num) ∧ w'.cell? ⟨w.heap.size + 1, 3, none⟩ = some (.slice (some ⟨g', off', none⟩) t.kids.length d') ∧ w'.cell? ⟨g, off, none⟩ = some (.int .i64 k.op) ∧ w'.cell? ⟨g, off + 1, none⟩ = some (.int .i64 k.num) ∧ w'.cell? ⟨g, off + 2, none⟩ = some (.slice A1 k.perm.length c1) ∧ w'.cell? ⟨g, off + 3, none⟩ = some (.slice B1 k.kids.length e1) ∧ w'.cell? ⟨g', off', none⟩ = some (.int .i64 l.op) ∧ w'.cell? ⟨g', off' + 1, none⟩ = some (.int .i64 l.num) ∧ w'.cell? ⟨g', off' + 2, none⟩ = some (.slice A2 l.perm.length c2) ∧ w'.cell? ⟨g', off' + 3, none⟩ = some (.slice B2 l.kids.length e2))
    (first | (with_reducible exact ⟨by assumption, by assumption, by assumption, by assumption, by assumption, by assumption, by assumption, by assumption, by assumption, by assumption, by assumption, by assumption⟩) | ((try dsimp only); exact ⟨by assumption, by assumption, by assumption, by assumption, by assumption, by assumption, by assumption, by assumption, by assumption, by assumption, by assumption, by assumption⟩) | go_keep)
    (first
      | (go_at_call 100; refine hcS.mono ?_; rintro e w2 ⟨v2, rfl, ho2, hb2⟩; have hw2 := hw1d.trans (hb2.mono hw1d.size); obtain ⟨n0, n1, n2, n3, n4, n5, n6, n7, n8, n9, n10, n11⟩ := HC.out w2 hw2; obtain ⟨G2, q2, rfl, hP2⟩ := own_pairsAt ho2; have hcA := HA.out w2 _ q2 _ (HTL.out w2 (hb.trans (hw2.mono hb.size))) hP2)
      | (go_at_call 99; refine hcA.mono ?_; rintro e w3 ⟨X1, x1, X2, x2, XS, rfl, hO, hOS, hb3⟩; have hw3 := hw2.trans (hb3.mono hw2.size); obtain ⟨r0, r1, r2, r3, r4, r5, r6, r7, r8, r9, r10, r11⟩ := HC.out w3 hw3; have hcE := HI.out w3 _ _ (HTK.out w3 (hb.trans (hw3.mono hb.size))) (tmOut_in hO))
      | (go_at_call 68; refine hcE.mono ?_; rintro e w4 ⟨v4, rfl, ho4, hb4⟩; have hw4 := hw3.trans (hb4.mono hw3.size); obtain ⟨s0, s1, s2, s3, s4, s5, s6, s7, s8, s9, s10, s11⟩ := HC.out w4 hw4; obtain ⟨G4, q4, rfl, hP4⟩ := own_pairsAt ho4)
      | fail)
  have hP1' : PairsAt w4 G1 FR := hP1.below (((hdw1.trans (hb2.mono hdw1.size)).trans (hb3.mono (hdw1.trans (hb2.mono hdw1.size)).size)).trans (hb4.mono ((hdw1.trans (hb2.mono hdw1.size)).trans (hb3.mono (hdw1.trans (hb2.mono hdw1.size)).size)).size))
  have hj := l3Join_any G1 G4 q1 q4 FR (sortF R) w4 hP1' hP4 (by omega) (by omega)
  have hwL := hb.trans (hw4.mono hb.size)
  clear hcS hcA hcE m0 m1 m2 m3 m4 m5 m6 m7 m8 m9 m10 m11 n0 n1 n2 n3 n4 n5 n6 n7 n8 n9 n10 n11 r0 r1 r2 r3 r4 r5 r6 r7 r8 r9 r10 r11 s0 s1 s2 s3 s4 s5 s6 s7 s8 s9 s10 s11 HC HF HA HI HSW HTK HTL HD hO hOS ho1 ho2 ho4 hP1 hP1' hP2 hP4 hb1 hb2 hb3 hb4 hw1 hw1d hw2 hw3 hw4 hdw hdw1 hbw hb
  generalize (sortF R).length = N4 at *
  generalize FR.length = N1 at *
  cases o1 with
  | true =>
    go_wp2_with (go_at_call 90; refine hj.mono ?_; rintro e w5 ⟨v5, rfl, ho5, hb5⟩)
    have hpost : NewFreshsB (joinF FR (sortF R)) (true && o2) w (.returned (.tuple #[v5, .bool o2])) w5 := by
      rw [Bool.true_and]
      exact newFreshsB_later ho5 hb5 hwL
    clear hj ho5 hb5 hwL
    go_wp2
    go_ret2
    exact hpost
  | false =>
    go_wp2_with (go_at_call 90; refine hj.mono ?_; rintro e w5 ⟨v5, rfl, ho5, hb5⟩)
    have hpost : NewFreshsB (joinF FR (sortF R)) (false && o2) w (.returned (.tuple #[v5, .bool false])) w5 := by
      rw [Bool.false_and]
      exact newFreshsB_later ho5 hb5 hwL
    clear hj ho5 hb5 hwL
    go_wp2
    go_ret2
    exact hpost

end Go.Proofs.YtbfkfklaplgebaaGreat
end

section
namespace Go.Proofs.YtbfkfklaplgebaaGreat
open Go.RowKit Go.Sort
set_option linter.unusedVariables false

theorem rL_no {s t : Tm} (h : s.op ≠ t.op ∨ s.kids.length ≠ t.kids.length) : rL s t = [] ∧ bL s t = false := by
  cases s with
  | mk o n p ks =>
    rw [op_mk, kids_mk] at h
    rw [rL, bL, if_pos h, if_pos h]
    exact ⟨rfl, rfl⟩
theorem rL_bind {s t : Tm} (h1 : s.op = t.op) (h2 : s.kids.length = t.kids.length) (h3 : s.op = 3) (h4 : s.num ≠ t.num) (hk : s.kids.length = 1) :
    rL s t = (if okT s.num (tmAt t.kids 0) then ndT s.num (tmAt t.kids 0) else []) ++ rL (tmAt s.kids 0) (actT (swapL s.num t.num) (tmAt t.kids 0)) ∧ bL s t = (okT s.num (tmAt t.kids 0) && bL (tmAt s.kids 0) (actT (swapL s.num t.num) (tmAt t.kids 0))) := by
  cases s with
  | mk o n p ks =>
    rw [op_mk] at h1 h3
    rw [kids_mk] at h2 hk
    rw [num_mk] at h4 ⊢
    obtain ⟨k, rfl⟩ := List.length_eq_one_iff.1 hk
    have hc : ¬ (o ≠ t.op ∨ [k].length ≠ t.kids.length) := fun h => h.elim (fun e => e h1) (fun e => e h2)
    have h34 : o = 3 ∧ n ≠ t.num := ⟨h3, h4⟩
    rw [rL, bL, if_neg hc, if_neg hc, if_pos h34, if_pos h34, kids_mk, tmAt_cons_zero]
    simp [rLs, bLs]
theorem rL_hole {s t : Tm} (h1 : s.op = t.op) (h2 : s.kids.length = t.kids.length) (h4 : s.op = 4) : rL s t = (differL s.perm t.perm).map (fun a => (a, s.num)) ∧ bL s t = (s.num == t.num) := by
  cases s with
  | mk o n p ks =>
    rw [op_mk] at h1 h4
    rw [kids_mk] at h2
    rw [num_mk, perm_mk]
    have h3 : ¬ (o = 3 ∧ n ≠ t.num) := fun h => by omega
    have hc : ¬ (o ≠ t.op ∨ ks.length ≠ t.kids.length) := fun h => h.elim (fun e => e h1) (fun e => e h2)
    rw [rL, bL, if_neg hc, if_neg hc, if_neg h3, if_neg h3, if_pos h4, if_pos h4]
    exact ⟨rfl, rfl⟩
theorem rL_kids {s t : Tm} (h1 : s.op = t.op) (h2 : s.kids.length = t.kids.length) (h3 : ¬ (s.op = 3 ∧ s.num ≠ t.num)) (h4 : ¬ s.op = 4) : rL s t = rLs s.kids t.kids ∧ bL s t = ((s.num == t.num) && bLs s.kids t.kids) := by
  cases s with
  | mk o n p ks =>
    rw [op_mk] at h1 h3 h4
    rw [num_mk] at h3
    rw [kids_mk] at h2
    rw [num_mk, kids_mk]
    have hc : ¬ (o ≠ t.op ∨ ks.length ≠ t.kids.length) := fun h => h.elim (fun e => e h1) (fun e => e h2)
    rw [rL, bL, if_neg hc, if_neg hc, if_neg h3, if_neg h3, if_neg h4, if_neg h4]
    exact ⟨rfl, rfl⟩
theorem rLs_take_len : ∀ (ks ls : List Tm) (i : Nat), (rLs (ks.take i) (ls.take i)).length ≤ (rLs ks ls).length
  | [], _, i => by simp [rLs]
  | _ :: _, [], i => by cases i <;> simp [rLs]
  | s :: r, t :: q, 0 => by simp [rLs]
  | s :: r, t :: q, i + 1 => by
    rw [List.take_succ_cons, List.take_succ_cons, rLs, rLs, List.length_append, List.length_append]
    have := rLs_take_len r q i
    omega
theorem bindJoin (a : Int) (l : Tm) (R : List (Int × Int)) : joinF (frL a l) (sortF R) = sortF ((if okT a l then ndT a l else []) ++ R) := by
  unfold frL
  split
  · rw [sortF_join]
  · have h := sortF_join [] R
    simpa [sortF, joinF] using h

set_option maxRecDepth 100000 in
set_option maxHeartbeats 8000000 in
theorem l3Equal_step (s t : Tm) (x y : Value) (w : World) (hx : TmIn w x s) (hy : TmIn w y t) (hs : ShT s) (ht : ShT t) (hsz : szT s ≤ 60) (hsz' : szT t ≤ 60) (hP : OkP 1048576 s) (hP' : OkP 1048576 t) (hR : (rL s t).length ≤ 900000)
    (ihB : s.op = 3 → s.num ≠ t.num → 0 < s.kids.length → 0 < t.kids.length → ∀ (w' : World) (u v : Value), TmIn w' u (tmAt s.kids 0) → TmIn w' v (actT (swapL s.num t.num) (tmAt t.kids 0)) → Calls Tryz.prog 68 #[u, v] w' (NewFreshsB (sortF (rL (tmAt s.kids 0) (actT (swapL s.num t.num) (tmAt t.kids 0)))) (bL (tmAt s.kids 0) (actT (swapL s.num t.num) (tmAt t.kids 0))) w'))
    (ihK : ∀ i, i < s.kids.length → i < t.kids.length → ∀ (w' : World) (u v : Value), TmIn w' u (tmAt s.kids i) → TmIn w' v (tmAt t.kids i) → Calls Tryz.prog 68 #[u, v] w' (NewFreshsB (sortF (rL (tmAt s.kids i) (tmAt t.kids i))) (bL (tmAt s.kids i) (tmAt t.kids i)) w')) :
    Calls Tryz.prog 68 #[x, y] w (NewFreshsB (sortF (rL s t)) (bL s t) w) := by
  have hx' := hx
  have hy' := hy
  obtain ⟨A, c, kv, rfl, hp, hk⟩ := hx
  obtain ⟨B, d, rfl⟩ := hk.form
  obtain ⟨A', c', kv', rfl, hp', hk'⟩ := hy
  obtain ⟨B', d', rfl⟩ := hk'.form
  have hbA : Below w.heap.size w ((w.alloc (.cells #[.int .i64 s.op, .int .i64 s.num, .slice A s.perm.length c, .slice B s.kids.length d] 31)).alloc (.cells #[.int .i64 t.op, .int .i64 t.num, .slice A' t.perm.length c', .slice B' t.kids.length d'] 31)) := ((Below.refl _ w).alloc (Nat.le_refl _) _).alloc (by simp) _
  have hb0 : Below w.heap.size w (((w.alloc (.cells #[.int .i64 s.op, .int .i64 s.num, .slice A s.perm.length c, .slice B s.kids.length d] 31)).alloc (.cells #[.int .i64 t.op, .int .i64 t.num, .slice A' t.perm.length c', .slice B' t.kids.length d'] 31)).alloc (.cells #[] 102)) := hbA.alloc hbA.size _
  have k0 : (((w.alloc (.cells #[.int .i64 s.op, .int .i64 s.num, .slice A s.perm.length c, .slice B s.kids.length d] 31)).alloc (.cells #[.int .i64 t.op, .int .i64 t.num, .slice A' t.perm.length c', .slice B' t.kids.length d'] 31)).alloc (.cells #[] 102)).heap[w.heap.size]? = some (.cells #[.int .i64 s.op, .int .i64 s.num, .slice A s.perm.length c, .slice B s.kids.length d] 31 (0, 0)) :=
    (Below.heap_alloc _ _ _ (by simp; omega)).trans ((Below.heap_alloc _ _ _ (by simp)).trans (heap_alloc_new w _))
  have k1 : (((w.alloc (.cells #[.int .i64 s.op, .int .i64 s.num, .slice A s.perm.length c, .slice B s.kids.length d] 31)).alloc (.cells #[.int .i64 t.op, .int .i64 t.num, .slice A' t.perm.length c', .slice B' t.kids.length d'] 31)).alloc (.cells #[] 102)).heap[w.heap.size + 1]? = some (.cells #[.int .i64 t.op, .int .i64 t.num, .slice A' t.perm.length c', .slice B' t.kids.length d'] 31 (0, 0)) := by
    have h := heap_alloc_new (w.alloc (.cells #[.int .i64 s.op, .int .i64 s.num, .slice A s.perm.length c, .slice B s.kids.length d] 31)) (.cells #[.int .i64 t.op, .int .i64 t.num, .slice A' t.perm.length c', .slice B' t.kids.length d'] 31)
    rw [World.size_alloc] at h
    exact (Below.heap_alloc _ _ _ (by simp)).trans h
  have ho0 : JoinAt w.heap.size (((w.alloc (.cells #[.int .i64 s.op, .int .i64 s.num, .slice A s.perm.length c, .slice B s.kids.length d] 31)).alloc (.cells #[.int .i64 t.op, .int .i64 t.num, .slice A' t.perm.length c', .slice B' t.kids.length d'] 31)).alloc (.cells #[] 102)) (.slice (some ⟨w.heap.size + 1 + 1, 0, none⟩) 0 0) (sortF []) := by
    have h := World.ownsRow_lit (e := 102) (size := 2) ((w.alloc (.cells #[.int .i64 s.op, .int .i64 s.num, .slice A s.perm.length c, .slice B s.kids.length d] 31)).alloc (.cells #[.int .i64 t.op, .int .i64 t.num, .slice A' t.perm.length c', .slice B' t.kids.length d'] 31)) #[] 0 (Nat.le_refl _) (by decide) rfl
    rw [World.size_alloc, World.size_alloc] at h
    exact own_le h (by omega)
  have hsz0 : (((w.alloc (.cells #[.int .i64 s.op, .int .i64 s.num, .slice A s.perm.length c, .slice B s.kids.length d] 31)).alloc (.cells #[.int .i64 t.op, .int .i64 t.num, .slice A' t.perm.length c', .slice B' t.kids.length d'] 31)).alloc (.cells #[] 102)).heap.size = w.heap.size + 3 := by simp
  obtain ⟨a0, a1, a2, a3⟩ := row4' k0
  obtain ⟨a4, a5, a6, a7⟩ := row4' k1
  by_cases hno : s.op ≠ t.op ∨ s.kids.length ≠ t.kids.length
  · have hR0 := rL_no hno
    rw [hR0.1, hR0.2]
    have hpost : NewFreshsB (sortF []) false w (.returned (.tuple #[.slice (some ⟨w.heap.size + 1 + 1, 0, none⟩) 0 0, .bool false])) (((w.alloc (.cells #[.int .i64 s.op, .int .i64 s.num, .slice A s.perm.length c, .slice B s.kids.length d] 31)).alloc (.cells #[.int .i64 t.op, .int .i64 t.num, .slice A' t.perm.length c', .slice B' t.kids.length d'] 31)).alloc (.cells #[] 102)) := ⟨_, rfl, ho0, hb0⟩
    clear hp hk hp' hk' hx' hy' hbA k0 k1 ho0 hR0 hb0 ihB ihK hs ht hP hP'
    by_cases hop : s.op = t.op
    · have hq1 : (s.op != t.op) = false := by simp [hop]
      have hq2 : ((s.kids.length : Int) != (t.kids.length : Int)) = true := by simp; omega
      clear hop hno
      go_enter Tryz.func68, Tryz.ntmps68
      go_wp2
      go_ret2
      exact hpost
    · have hq1 : (s.op != t.op) = true := by simp [hop]
      clear hop hno
      go_enter Tryz.func68, Tryz.ntmps68
      go_wp2
      go_ret2
      exact hpost
  · have hop : s.op = t.op := by omega
    have hl : s.kids.length = t.kids.length := by omega
    have hq1 : (s.op != t.op) = false := by simp [hop]
    have hq2 : ((s.kids.length : Int) != (t.kids.length : Int)) = false := by simp [hl]
    by_cases hbd : s.op = 3 ∧ s.num ≠ t.num
    · have hk1 : s.kids.length = 1 := by
        cases s with
        | mk o n p ks => exact hs.2.2.1 hbd.1
      have hRB := rL_bind hop hl hbd.1 hbd.2 hk1
      have hP1 : OkP 1048576 (tmAt t.kids 0) := by
        cases t with
        | mk o n p ks => exact okP_at hP'.2.2 (by rw [kids_mk] at hl; omega)
      have hz := szT_at (ts := t.kids) (i := 0) (by omega)
      rw [szT_eq] at hsz'
      have hct := l3Bodies_any s t _ _ _ (hx'.below hb0) (hy'.below hb0) (by omega) (by omega) (by omega) hP1 (by rw [hRB.1, List.length_append] at hR; omega) (ihB hbd.1 hbd.2 (by omega) (by omega))
      rw [bindJoin, ← hRB.1, ← hRB.2] at hct
      have hq3 : (s.op == 3) = true := by simp [hbd.1]
      have hq4 : (s.num != t.num) = true := by simp [hbd.2]
      clear hp hk hp' hk' hx' hy' hbA k0 k1 ho0 ihB ihK hs ht hP hP' hRB hP1 hbd hno hop hl hz hk1
      go_enter Tryz.func68, Tryz.ntmps68
      go_wp2_with fail
      refine hct.mono ?_
      rintro e w2 ⟨v2, rfl, ho2, hb2⟩
      have hpost : NewFreshsB (sortF (rL s t)) (bL s t) w (.returned (.tuple #[v2, .bool (bL s t)])) w2 := newFreshsB_later ho2 hb2 hb0
      clear hct ho2 hb2 hb0
      go_wp2
      go_ret2
      exact hpost
    · by_cases h4 : s.op = 4
      · have hRH := rL_hole hop hl h4
        have hq3 : (s.op == 3) = false := by simp [h4]
        have hq4 : (s.op == 4) = true := by simp [h4]
        have hl1 : s.perm.length ≤ 1048576 := by
          cases s with
          | mk o n p ks => exact hP.2.1
        have hl2 : t.perm.length ≤ 1048576 := by
          cases t with
          | mk o n p ks => exact hP'.2.1
        have hdi := l1Differ_any A A' c c' s.perm t.perm (((w.alloc (.cells #[.int .i64 s.op, .int .i64 s.num, .slice A s.perm.length c, .slice B s.kids.length d] 31)).alloc (.cells #[.int .i64 t.op, .int .i64 t.num, .slice A' t.perm.length c', .slice B' t.kids.length d'] 31)).alloc (.cells #[] 102)) (hp.below hb0) (hp'.below hb0) hl1 hl2
        rw [hRH.1] at hR ⊢
        rw [hRH.2]
        rw [List.length_map] at hR
        generalize differL s.perm t.perm = D at *
        clear hp hk hp' hk' hx' hy' hbA k0 k1 ihB ihK hs ht hP hP' hbd hno hop hl hRH h4 hl1 hl2
        go_enter Tryz.func68, Tryz.ntmps68
        go_wp2_with fail
        refine hdi.mono ?_
        rintro e w2 ⟨v2, rfl, ho2, hb2⟩
        obtain ⟨G, gc, rfl, hI⟩ := own_intsAt ho2
        have hbW := hb0.trans (hb2.mono hb0.size)
        have hst := own_below ho0 hb2
        have z1 := (hb2.cell (p := ⟨w.heap.size, 1, none⟩) (show w.heap.size < (((w.alloc (.cells #[.int .i64 s.op, .int .i64 s.num, .slice A s.perm.length c, .slice B s.kids.length d] 31)).alloc (.cells #[.int .i64 t.op, .int .i64 t.num, .slice A' t.perm.length c', .slice B' t.kids.length d'] 31)).alloc (.cells #[] 102)).heap.size by omega)).trans a1
        have z5 := (hb2.cell (p := ⟨w.heap.size + 1, 1, none⟩) (show w.heap.size + 1 < (((w.alloc (.cells #[.int .i64 s.op, .int .i64 s.num, .slice A s.perm.length c, .slice B s.kids.length d] 31)).alloc (.cells #[.int .i64 t.op, .int .i64 t.num, .slice A' t.perm.length c', .slice B' t.kids.length d'] 31)).alloc (.cells #[] 102)).heap.size by omega)).trans a5
        have hs2 := hb2.size
        rw [hsz0] at hs2
        clear hdi ho0 hb0 hb2 ho2 a0 a1 a2 a3 a4 a5 a6 a7 hsz0
        go_wp2
        go_loopw [6, 53] (fun v i wr => ∃ k : Nat, k ≤ D.length ∧ i = .int .i64 k ∧ JoinAt w.heap.size wr v (sortF ((D.take k).map fun a => (a, s.num))) ∧ Below w2.heap.size w2 wr) (fun _ i _ => D.length - (intOf i).toNat)
        case atStart => exact ⟨0, Nat.zero_le _, rfl, hst, Below.refl _ _⟩
        case round =>
          clear hst
          obtain ⟨k, hk, rfl, ho, hbw⟩ := hrel
          have y1 := (hbw.cell (p := ⟨w.heap.size, 1, none⟩) (show w.heap.size < w2.heap.size by omega)).trans z1
          have y5 := (hbw.cell (p := ⟨w.heap.size + 1, 1, none⟩) (show w.heap.size + 1 < w2.heap.size by omega)).trans z5
          by_cases hlt : k < D.length
          · obtain ⟨g, off, rfl, hgl, hc⟩ := hI (by omega)
            have c0 := (hbw.cell (p := ⟨g, off + k, none⟩) hgl).trans (hc k hlt)
            have hsl := sortF_len_le ((D.take k).map fun a => (a, s.num))
            rw [List.length_map, List.length_take] at hsl
            obtain ⟨G1, q1, rfl, hP1⟩ := own_pairsAt ho
            have hj := l3Put_any G1 q1 _ (itAt D k, s.num) wr hP1 (by omega)
            have hnx : putF (sortF ((D.take k).map fun a => (a, s.num))) (itAt D k, s.num) = sortF ((D.take (k + 1)).map fun a => (a, s.num)) := by
              rw [← sortF_snoc, itake_next hlt, List.map_append]; rfl
            rw [hnx] at hj
            generalize itAt D k = a at c0 hj
            generalize (sortF ((D.take k).map fun a => (a, s.num))).length = N1 at hj ⊢
            clear hnx hP1 ho hc hI hsl z1 z5 y5
            go_wp2_with fail
            refine hj.mono ?_
            rintro e w3 ⟨v3, rfl, ho3, hb3⟩
            have hb4 := hbw.trans (hb3.mono hbw.size)
            have ho4 : JoinAt w.heap.size w3 v3 (sortF ((D.take (k + 1)).map fun a => (a, s.num))) := own_le ho3 (by have := hbw.size; omega)
            clear hj ho3 hb3 hbw y1 c0
            go_wp2
            refine ⟨⟨k + 1, by omega, by go_num, ho4, hb4⟩, ?_⟩
            simp only [intOf]
            omega
          · have ek : k = D.length := by omega
            rw [ek, List.take_length] at ho
            have hpost : ∀ nq v, JoinAt w.heap.size wr v (sortF (D.map fun a => (a, s.num))) → NewFreshsB (sortF (D.map fun a => (a, s.num))) (s.num == t.num) w (.returned (.tuple #[v, .bool (s.num == t.num)])) (wr.drewN nq) := fun nq v hv =>
              ⟨_, rfl, own_below hv ⟨rfl, rfl, rfl, Nat.le_refl _, fun _ _ => rfl⟩, (hbW.trans (hbw.mono hbW.size)).trans ⟨rfl, rfl, rfl, Nat.le_refl _, fun _ _ => rfl⟩⟩
            have hpost2 := fun nq => hpost nq _ ho
            clear hpost ho hbw hbW hI z1 z5
            go_wp2
            go_quiet (fail)
            go_wp2
            go_ret2
            exact hpost2 _
      · have hRK := rL_kids hop hl hbd h4
        have hq4 : (s.op == 4) = false := by simp [h4]
        rw [hRK.1] at hR ⊢
        rw [hRK.2]
        have HLEN := Lib.hid hl
        have hk60 : s.kids.length ≤ 60 := by have h := szT_eq s; have := len_szTs s.kids; omega
        clear hp hp' hx' hy' hbA k0 k1 ihB hs ht hP hP' hno hRK h4 hl
        by_cases h3 : s.op = 3
        · have hq3 : (s.op == 3) = true := by simp [h3]
          have hq5 : (s.num != t.num) = false := by
            by_cases e : s.num = t.num
            · simp [e]
            · exact absurd ⟨h3, e⟩ hbd
          clear hbd h3 hop
          go_enter Tryz.func68, Tryz.ntmps68
          go_wp2
          go_loopw [6, 9, 78] (fun v gd i wr => ∃ k : Nat, k ≤ s.kids.length ∧ i = .int .i64 k ∧ gd = .bool ((s.num == t.num) && bLs (s.kids.take k) (t.kids.take k)) ∧ JoinAt w.heap.size wr v (sortF (rLs (s.kids.take k) (t.kids.take k))) ∧ Below (((w.alloc (.cells #[.int .i64 s.op, .int .i64 s.num, .slice A s.perm.length c, .slice B s.kids.length d] 31)).alloc (.cells #[.int .i64 t.op, .int .i64 t.num, .slice A' t.perm.length c', .slice B' t.kids.length d'] 31)).alloc (.cells #[] 102)).heap.size (((w.alloc (.cells #[.int .i64 s.op, .int .i64 s.num, .slice A s.perm.length c, .slice B s.kids.length d] 31)).alloc (.cells #[.int .i64 t.op, .int .i64 t.num, .slice A' t.perm.length c', .slice B' t.kids.length d'] 31)).alloc (.cells #[] 102)) wr) (fun _ _ i _ => s.kids.length - (intOf i).toNat)
          case atStart => exact ⟨0, Nat.zero_le _, rfl, by simp [bLs], (by rw [List.take_zero, List.take_zero, rLs]; exact ho0), Below.refl _ _⟩
          case round =>
            clear ho0
            obtain ⟨k, hkk, rfl, rfl, ho, hbw⟩ := hrel
            have hb := hb0.trans (hbw.mono hb0.size)
            by_cases hlt : k < s.kids.length
            · have hlt2 : k < t.kids.length := by have := HLEN.out; omega
              have y3 := (hbw.cell (p := ⟨w.heap.size, 3, none⟩) (show w.heap.size < (((w.alloc (.cells #[.int .i64 s.op, .int .i64 s.num, .slice A s.perm.length c, .slice B s.kids.length d] 31)).alloc (.cells #[.int .i64 t.op, .int .i64 t.num, .slice A' t.perm.length c', .slice B' t.kids.length d'] 31)).alloc (.cells #[] 102)).heap.size by omega)).trans a3
              have y7 := (hbw.cell (p := ⟨w.heap.size + 1, 3, none⟩) (show w.heap.size + 1 < (((w.alloc (.cells #[.int .i64 s.op, .int .i64 s.num, .slice A s.perm.length c, .slice B s.kids.length d] 31)).alloc (.cells #[.int .i64 t.op, .int .i64 t.num, .slice A' t.perm.length c', .slice B' t.kids.length d'] 31)).alloc (.cells #[] 102)).heap.size by omega)).trans a7
              obtain ⟨g, off, rfl, hgl, hget⟩ := (hk.below hb).get (by omega)
              obtain ⟨g', off', rfl, hgl', hget'⟩ := (hk'.below hb).get (by omega)
              obtain ⟨A1, c1, kv1, d0, d1, d2, d3, hp1, hk1⟩ := hget k hlt
              obtain ⟨B1, e1, rfl⟩ := hk1.form
              obtain ⟨A2, c2, kv2, f0, f1, f2, f3, hp2, hk2⟩ := hget' k hlt2
              obtain ⟨B2, e2, rfl⟩ := hk2.form
              have hdw : Below wr.heap.size wr wr.drew := ⟨rfl, rfl, rfl, Nat.le_refl _, fun _ _ => rfl⟩
              have hct := ihK k hlt hlt2 wr.drew _ _ ⟨A1, c1, _, rfl, hp1.below hdw, hk1.below hdw⟩ ⟨A2, c2, _, rfl, hp2.below hdw, hk2.below hdw⟩
              have hn1 := rLs_next hlt hlt2
              have hn2 := bLs_next hlt hlt2
              have g1 := sortF_len_le (rLs (s.kids.take k) (t.kids.take k))
              have g2 := sortF_len_le (rL (tmAt s.kids k) (tmAt t.kids k))
              have g3 := rLs_take_len s.kids t.kids k
              have g4 := rLs_take_len s.kids t.kids (k + 1)
              rw [hn1, List.length_append] at g4
              have HGB := Lib.hid (show ((s.num == t.num) && bLs (s.kids.take (k + 1)) (t.kids.take (k + 1))) = (((s.num == t.num) && bLs (s.kids.take k) (t.kids.take k)) && bL (tmAt s.kids k) (tmAt t.kids k)) by rw [hn2, Bool.and_assoc])
              have HN1 := Lib.hid hn1
              have i1 : (k : Int) < (s.kids.length : Int) := by omega
              have i2 : (k : Int) < (t.kids.length : Int) := by omega
              have i3 : (0 : Int) ≤ (k : Int) := by omega
              have HLT := Lib.hid hlt
              have hox := own_below ho hdw
              generalize hgb : ((s.num == t.num) && bLs (s.kids.take k) (t.kids.take k)) = gb at HGB ⊢
              generalize rLs (s.kids.take k) (t.kids.take k) = X at *
              generalize tmAt s.kids k = ks at *
              generalize tmAt t.kids k = kt at *
              generalize rL ks kt = Y at *
              generalize bL ks kt = ok at *
              have b0 : wr.drew.cell? ⟨w.heap.size, 3, none⟩ = _ := y3
              have b1 : wr.drew.cell? ⟨w.heap.size + 1, 3, none⟩ = _ := y7
              have b2 : wr.drew.cell? ⟨g, off + k * 4, none⟩ = _ := d0
              have b3 : wr.drew.cell? ⟨g, off + k * 4 + 1, none⟩ = _ := d1
              have b4 : wr.drew.cell? ⟨g, off + k * 4 + 2, none⟩ = _ := d2
              have b5 : wr.drew.cell? ⟨g, off + k * 4 + 3, none⟩ = _ := d3
              have b6 : wr.drew.cell? ⟨g', off' + k * 4, none⟩ = _ := f0
              have b7 : wr.drew.cell? ⟨g', off' + k * 4 + 1, none⟩ = _ := f1
              have b8 : wr.drew.cell? ⟨g', off' + k * 4 + 2, none⟩ = _ := f2
              have b9 : wr.drew.cell? ⟨g', off' + k * 4 + 3, none⟩ = _ := f3
              have hw0 : w.heap.size + 1 < wr.drew.heap.size := by have := hbw.size; show _ < wr.heap.size; omega
              have hw1 : g < wr.drew.heap.size := hgl
              have hw2 : g' < wr.drew.heap.size := hgl'
              clear hget hget' hp1 hk1 hp2 hk2 ihK ho hn1 hn2 hgb y3 y7 d0 d1 d2 d3 f0 f1 f2 f3
              go_wp2
              go_region_held3 (fun w' => w'.cell? ⟨w.heap.size, 3, none⟩ = some (.slice (some ⟨g, off, none⟩) s.kids.length d) ∧ w'.cell? ⟨w.heap.size + 1, 3, none⟩ = some (.slice (some ⟨g', off', none⟩) t.kids.length d') ∧ w'.cell? ⟨g, off + k * 4, none⟩ = some (.int .i64 ks.op) ∧ w'.cell? ⟨g, off + k * 4 + 1, none⟩ = some (.int .i64 ks.num) ∧ w'.cell? ⟨g, off + k * 4 + 2, none⟩ = some (.slice A1 ks.perm.length c1) ∧ w'.cell? ⟨g, off + k * 4 + 3, none⟩ = some (.slice B1 ks.kids.length e1) ∧ w'.cell? ⟨g', off' + k * 4, none⟩ = some (.int .i64 kt.op) ∧ w'.cell? ⟨g', off' + k * 4 + 1, none⟩ = some (.int .i64 kt.num) ∧ w'.cell? ⟨g', off' + k * 4 + 2, none⟩ = some (.slice A2 kt.perm.length c2) ∧ w'.cell? ⟨g', off' + k * 4 + 3, none⟩ = some (.slice B2 kt.kids.length e2))
                (first | (with_reducible exact ⟨by assumption, by assumption, by assumption, by assumption, by assumption, by assumption, by assumption, by assumption, by assumption, by assumption⟩) | ((try dsimp only); exact ⟨by assumption, by assumption, by assumption, by assumption, by assumption, by assumption, by assumption, by assumption, by assumption, by assumption⟩) | go_keep)
                (first
                  | (go_at_call 68; refine hct.mono ?_; rintro e w2 ⟨v2, rfl, ho2, hb2⟩; have n0 := (hb2.cell (p := ⟨w.heap.size, 3, none⟩) (by show w.heap.size < _; omega)).trans b0; have n1 := (hb2.cell (p := ⟨w.heap.size + 1, 3, none⟩) hw0).trans b1; have n2 := (hb2.cell (p := ⟨g, off + k * 4, none⟩) hw1).trans b2; have n3 := (hb2.cell (p := ⟨g, off + k * 4 + 1, none⟩) hw1).trans b3; have n4 := (hb2.cell (p := ⟨g, off + k * 4 + 2, none⟩) hw1).trans b4; have n5 := (hb2.cell (p := ⟨g, off + k * 4 + 3, none⟩) hw1).trans b5; have n6 := (hb2.cell (p := ⟨g', off' + k * 4, none⟩) hw2).trans b6; have n7 := (hb2.cell (p := ⟨g', off' + k * 4 + 1, none⟩) hw2).trans b7; have n8 := (hb2.cell (p := ⟨g', off' + k * 4 + 2, none⟩) hw2).trans b8; have n9 := (hb2.cell (p := ⟨g', off' + k * 4 + 3, none⟩) hw2).trans b9)
                  | fail)
              have hox2 := own_below hox hb2
              obtain ⟨G1, q1, rfl, hP1⟩ := own_pairsAt hox2
              obtain ⟨G2, q2, rfl, hP2⟩ := own_pairsAt ho2
              have hj := l3Join_any G1 G2 q1 q2 (sortF X) (sortF Y) w2 hP1 hP2 (by omega) (by omega)
              rw [sortF_join, ← HN1.out] at hj
              have hbs := (hbw.trans ((hdw.trans (hb2.mono hdw.size)).mono hbw.size))
              have hz := hbs.size
              rw [hsz0] at hz
              generalize (sortF X).length = N1 at *
              generalize (sortF Y).length = N2 at *
              clear hct hox hox2 ho2 hb2 hP1 hP2 hdw hbw hb n0 n1 n2 n3 n4 n5 n6 n7 n8 n9 b0 b1 b2 b3 b4 b5 b6 b7 b8 b9 hw0 hw1 hw2 HN1
              go_wp2_with fail
              refine hj.mono ?_
              rintro e w3 ⟨v3, rfl, ho3, hb3⟩
              have ho4 : JoinAt w.heap.size w3 v3 (sortF (rLs (s.kids.take (k + 1)) (t.kids.take (k + 1)))) := own_le ho3 (by omega)
              have hb4 := hbs.trans (hb3.mono hbs.size)
              clear hj ho3 hb3 hbs
              cases gb with
              | true =>
                go_wp2
                have hlt' := HLT.out
                refine ⟨⟨k + 1, by omega, by go_num, (by rw [HGB.out]; rfl), ho4, hb4⟩, ?_⟩
                simp only [intOf]
                omega
              | false =>
                go_wp2
                have hlt' := HLT.out
                refine ⟨⟨k + 1, by omega, by go_num, (by rw [HGB.out]; rfl), ho4, hb4⟩, ?_⟩
                simp only [intOf]
                omega
            · have ek : k = s.kids.length := by omega
              have ek2 : k = t.kids.length := by have := HLEN.out; omega
              rw [List.take_of_length_le (show s.kids.length ≤ k by omega), List.take_of_length_le (show t.kids.length ≤ k by omega)] at ho ⊢
              have hpost' : ∀ v, JoinAt w.heap.size wr v (sortF (rLs s.kids t.kids)) → NewFreshsB (sortF (rLs s.kids t.kids)) ((s.num == t.num) && bLs s.kids t.kids) w (.returned (.tuple #[v, .bool ((s.num == t.num) && bLs s.kids t.kids)])) wr := fun v hv => ⟨_, rfl, hv, hb⟩
              have hpost := hpost' _ ho
              generalize ((s.num == t.num) && bLs s.kids t.kids) = gb at *
              clear hpost' ho hbw hb ihK hk hk'
              go_wp2
              go_ret2
              exact hpost
        · have hq3 : (s.op == 3) = false := by simp [h3]
          clear hbd h3 hop
          go_enter Tryz.func68, Tryz.ntmps68
          go_wp2
          go_loopw [6, 9, 78] (fun v gd i wr => ∃ k : Nat, k ≤ s.kids.length ∧ i = .int .i64 k ∧ gd = .bool ((s.num == t.num) && bLs (s.kids.take k) (t.kids.take k)) ∧ JoinAt w.heap.size wr v (sortF (rLs (s.kids.take k) (t.kids.take k))) ∧ Below (((w.alloc (.cells #[.int .i64 s.op, .int .i64 s.num, .slice A s.perm.length c, .slice B s.kids.length d] 31)).alloc (.cells #[.int .i64 t.op, .int .i64 t.num, .slice A' t.perm.length c', .slice B' t.kids.length d'] 31)).alloc (.cells #[] 102)).heap.size (((w.alloc (.cells #[.int .i64 s.op, .int .i64 s.num, .slice A s.perm.length c, .slice B s.kids.length d] 31)).alloc (.cells #[.int .i64 t.op, .int .i64 t.num, .slice A' t.perm.length c', .slice B' t.kids.length d'] 31)).alloc (.cells #[] 102)) wr) (fun _ _ i _ => s.kids.length - (intOf i).toNat)
          case atStart => exact ⟨0, Nat.zero_le _, rfl, by simp [bLs], (by rw [List.take_zero, List.take_zero, rLs]; exact ho0), Below.refl _ _⟩
          case round =>
            clear ho0
            obtain ⟨k, hkk, rfl, rfl, ho, hbw⟩ := hrel
            have hb := hb0.trans (hbw.mono hb0.size)
            by_cases hlt : k < s.kids.length
            · have hlt2 : k < t.kids.length := by have := HLEN.out; omega
              have y3 := (hbw.cell (p := ⟨w.heap.size, 3, none⟩) (show w.heap.size < (((w.alloc (.cells #[.int .i64 s.op, .int .i64 s.num, .slice A s.perm.length c, .slice B s.kids.length d] 31)).alloc (.cells #[.int .i64 t.op, .int .i64 t.num, .slice A' t.perm.length c', .slice B' t.kids.length d'] 31)).alloc (.cells #[] 102)).heap.size by omega)).trans a3
              have y7 := (hbw.cell (p := ⟨w.heap.size + 1, 3, none⟩) (show w.heap.size + 1 < (((w.alloc (.cells #[.int .i64 s.op, .int .i64 s.num, .slice A s.perm.length c, .slice B s.kids.length d] 31)).alloc (.cells #[.int .i64 t.op, .int .i64 t.num, .slice A' t.perm.length c', .slice B' t.kids.length d'] 31)).alloc (.cells #[] 102)).heap.size by omega)).trans a7
              obtain ⟨g, off, rfl, hgl, hget⟩ := (hk.below hb).get (by omega)
              obtain ⟨g', off', rfl, hgl', hget'⟩ := (hk'.below hb).get (by omega)
              obtain ⟨A1, c1, kv1, d0, d1, d2, d3, hp1, hk1⟩ := hget k hlt
              obtain ⟨B1, e1, rfl⟩ := hk1.form
              obtain ⟨A2, c2, kv2, f0, f1, f2, f3, hp2, hk2⟩ := hget' k hlt2
              obtain ⟨B2, e2, rfl⟩ := hk2.form
              have hdw : Below wr.heap.size wr wr.drew := ⟨rfl, rfl, rfl, Nat.le_refl _, fun _ _ => rfl⟩
              have hct := ihK k hlt hlt2 wr.drew _ _ ⟨A1, c1, _, rfl, hp1.below hdw, hk1.below hdw⟩ ⟨A2, c2, _, rfl, hp2.below hdw, hk2.below hdw⟩
              have hn1 := rLs_next hlt hlt2
              have hn2 := bLs_next hlt hlt2
              have g1 := sortF_len_le (rLs (s.kids.take k) (t.kids.take k))
              have g2 := sortF_len_le (rL (tmAt s.kids k) (tmAt t.kids k))
              have g3 := rLs_take_len s.kids t.kids k
              have g4 := rLs_take_len s.kids t.kids (k + 1)
              rw [hn1, List.length_append] at g4
              have HGB := Lib.hid (show ((s.num == t.num) && bLs (s.kids.take (k + 1)) (t.kids.take (k + 1))) = (((s.num == t.num) && bLs (s.kids.take k) (t.kids.take k)) && bL (tmAt s.kids k) (tmAt t.kids k)) by rw [hn2, Bool.and_assoc])
              have HN1 := Lib.hid hn1
              have i1 : (k : Int) < (s.kids.length : Int) := by omega
              have i2 : (k : Int) < (t.kids.length : Int) := by omega
              have i3 : (0 : Int) ≤ (k : Int) := by omega
              have HLT := Lib.hid hlt
              have hox := own_below ho hdw
              generalize hgb : ((s.num == t.num) && bLs (s.kids.take k) (t.kids.take k)) = gb at HGB ⊢
              generalize rLs (s.kids.take k) (t.kids.take k) = X at *
              generalize tmAt s.kids k = ks at *
              generalize tmAt t.kids k = kt at *
              generalize rL ks kt = Y at *
              generalize bL ks kt = ok at *
              have b0 : wr.drew.cell? ⟨w.heap.size, 3, none⟩ = _ := y3
              have b1 : wr.drew.cell? ⟨w.heap.size + 1, 3, none⟩ = _ := y7
              have b2 : wr.drew.cell? ⟨g, off + k * 4, none⟩ = _ := d0
              have b3 : wr.drew.cell? ⟨g, off + k * 4 + 1, none⟩ = _ := d1
              have b4 : wr.drew.cell? ⟨g, off + k * 4 + 2, none⟩ = _ := d2
              have b5 : wr.drew.cell? ⟨g, off + k * 4 + 3, none⟩ = _ := d3
              have b6 : wr.drew.cell? ⟨g', off' + k * 4, none⟩ = _ := f0
              have b7 : wr.drew.cell? ⟨g', off' + k * 4 + 1, none⟩ = _ := f1
              have b8 : wr.drew.cell? ⟨g', off' + k * 4 + 2, none⟩ = _ := f2
              have b9 : wr.drew.cell? ⟨g', off' + k * 4 + 3, none⟩ = _ := f3
              have hw0 : w.heap.size + 1 < wr.drew.heap.size := by have := hbw.size; show _ < wr.heap.size; omega
              have hw1 : g < wr.drew.heap.size := hgl
              have hw2 : g' < wr.drew.heap.size := hgl'
              clear hget hget' hp1 hk1 hp2 hk2 ihK ho hn1 hn2 hgb y3 y7 d0 d1 d2 d3 f0 f1 f2 f3
              go_wp2
              go_region_held3 (fun w' => w'.cell? ⟨w.heap.size, 3, none⟩ = some (.slice (some ⟨g, off, none⟩) s.kids.length d) ∧ w'.cell? ⟨w.heap.size + 1, 3, none⟩ = some (.slice (some ⟨g', off', none⟩) t.kids.length d') ∧ w'.cell? ⟨g, off + k * 4, none⟩ = some (.int .i64 ks.op) ∧ w'.cell? ⟨g, off + k * 4 + 1, none⟩ = some (.int .i64 ks.num) ∧ w'.cell? ⟨g, off + k * 4 + 2, none⟩ = some (.slice A1 ks.perm.length c1) ∧ w'.cell? ⟨g, off + k * 4 + 3, none⟩ = some (.slice B1 ks.kids.length e1) ∧ w'.cell? ⟨g', off' + k * 4, none⟩ = some (.int .i64 kt.op) ∧ w'.cell? ⟨g', off' + k * 4 + 1, none⟩ = some (.int .i64 kt.num) ∧ w'.cell? ⟨g', off' + k * 4 + 2, none⟩ = some (.slice A2 kt.perm.length c2) ∧ w'.cell? ⟨g', off' + k * 4 + 3, none⟩ = some (.slice B2 kt.kids.length e2))
                (first | (with_reducible exact ⟨by assumption, by assumption, by assumption, by assumption, by assumption, by assumption, by assumption, by assumption, by assumption, by assumption⟩) | ((try dsimp only); exact ⟨by assumption, by assumption, by assumption, by assumption, by assumption, by assumption, by assumption, by assumption, by assumption, by assumption⟩) | go_keep)
                (first
                  | (go_at_call 68; refine hct.mono ?_; rintro e w2 ⟨v2, rfl, ho2, hb2⟩; have n0 := (hb2.cell (p := ⟨w.heap.size, 3, none⟩) (by show w.heap.size < _; omega)).trans b0; have n1 := (hb2.cell (p := ⟨w.heap.size + 1, 3, none⟩) hw0).trans b1; have n2 := (hb2.cell (p := ⟨g, off + k * 4, none⟩) hw1).trans b2; have n3 := (hb2.cell (p := ⟨g, off + k * 4 + 1, none⟩) hw1).trans b3; have n4 := (hb2.cell (p := ⟨g, off + k * 4 + 2, none⟩) hw1).trans b4; have n5 := (hb2.cell (p := ⟨g, off + k * 4 + 3, none⟩) hw1).trans b5; have n6 := (hb2.cell (p := ⟨g', off' + k * 4, none⟩) hw2).trans b6; have n7 := (hb2.cell (p := ⟨g', off' + k * 4 + 1, none⟩) hw2).trans b7; have n8 := (hb2.cell (p := ⟨g', off' + k * 4 + 2, none⟩) hw2).trans b8; have n9 := (hb2.cell (p := ⟨g', off' + k * 4 + 3, none⟩) hw2).trans b9)
                  | fail)
              have hox2 := own_below hox hb2
              obtain ⟨G1, q1, rfl, hP1⟩ := own_pairsAt hox2
              obtain ⟨G2, q2, rfl, hP2⟩ := own_pairsAt ho2
              have hj := l3Join_any G1 G2 q1 q2 (sortF X) (sortF Y) w2 hP1 hP2 (by omega) (by omega)
              rw [sortF_join, ← HN1.out] at hj
              have hbs := (hbw.trans ((hdw.trans (hb2.mono hdw.size)).mono hbw.size))
              have hz := hbs.size
              rw [hsz0] at hz
              generalize (sortF X).length = N1 at *
              generalize (sortF Y).length = N2 at *
              clear hct hox hox2 ho2 hb2 hP1 hP2 hdw hbw hb n0 n1 n2 n3 n4 n5 n6 n7 n8 n9 b0 b1 b2 b3 b4 b5 b6 b7 b8 b9 hw0 hw1 hw2 HN1
              go_wp2_with fail
              refine hj.mono ?_
              rintro e w3 ⟨v3, rfl, ho3, hb3⟩
              have ho4 : JoinAt w.heap.size w3 v3 (sortF (rLs (s.kids.take (k + 1)) (t.kids.take (k + 1)))) := own_le ho3 (by omega)
              have hb4 := hbs.trans (hb3.mono hbs.size)
              clear hj ho3 hb3 hbs
              cases gb with
              | true =>
                go_wp2
                have hlt' := HLT.out
                refine ⟨⟨k + 1, by omega, by go_num, (by rw [HGB.out]; rfl), ho4, hb4⟩, ?_⟩
                simp only [intOf]
                omega
              | false =>
                go_wp2
                have hlt' := HLT.out
                refine ⟨⟨k + 1, by omega, by go_num, (by rw [HGB.out]; rfl), ho4, hb4⟩, ?_⟩
                simp only [intOf]
                omega
            · have ek : k = s.kids.length := by omega
              have ek2 : k = t.kids.length := by have := HLEN.out; omega
              rw [List.take_of_length_le (show s.kids.length ≤ k by omega), List.take_of_length_le (show t.kids.length ≤ k by omega)] at ho ⊢
              have hpost' : ∀ v, JoinAt w.heap.size wr v (sortF (rLs s.kids t.kids)) → NewFreshsB (sortF (rLs s.kids t.kids)) ((s.num == t.num) && bLs s.kids t.kids) w (.returned (.tuple #[v, .bool ((s.num == t.num) && bLs s.kids t.kids)])) wr := fun v hv => ⟨_, rfl, hv, hb⟩
              have hpost := hpost' _ ho
              generalize ((s.num == t.num) && bLs s.kids t.kids) = gb at *
              clear hpost' ho hbw hb ihK hk hk'
              go_wp2
              go_ret2
              exact hpost

end Go.Proofs.YtbfkfklaplgebaaGreat
end

