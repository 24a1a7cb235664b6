/-
  Steps by indices in the model: nodes whose kids hold the first redex, or none. Steps by indices in the model, at every index term; StepIndices of the model.
-/
import Derived.Test.YtihijigbdpjcoaaKStepIndices17
section
namespace Go.Proofs.Ytihijigbdpjcoaa
open Go.RowKit Go.Sort
set_option linter.unusedVariables false

/-- A value of a list gives way to another, with a tree of its own. -/
theorem OwnL.swap {w : World} {R : List Nat} {u' : Value} {m' : Mem} (hn : Own w R u' m') : ∀ {S : List Nat} {vs : List Value} {ms : List Mem}, OwnL w S vs ms → (∀ b ∈ R, b ∉ S) → ∀ (j : Nat) (m : Mem), ms[j]? = some m →
    ∃ S', OwnL w S' (vs.set j u') (ms.set j m') ∧ ∀ b ∈ S', b ∈ R ∨ b ∈ S
  | _, _, _, .nil, _, j, m, h => by simp at h
  | _, _, _, .cons (S := S) (T := T) h0 k hd, hr, 0, m, hm =>
    ⟨R ++ T, .cons hn k fun b hb ht => hr b hb (List.mem_append_right _ ht), fun b hb => by
      rcases List.mem_append.1 hb with h | h
      · exact .inl h
      · exact .inr (List.mem_append_right _ h)⟩
  | _, _, _, .cons (S := S) (T := T) h0 k hd, hr, j + 1, m, hm => by
    obtain ⟨S', h1, h2⟩ := k.swap hn (fun b hb ht => hr b hb (List.mem_append_right _ ht)) j m (by simpa using hm)
    refine ⟨S ++ S', .cons h0 h1 (fun b hb hs => (h2 b hs).elim (fun h => hr b h (List.mem_append_left _ hb)) (hd b hb)), fun b hb => ?_⟩
    rcases List.mem_append.1 hb with h | h
    · exact .inr (List.mem_append_left _ h)
    · exact (h2 b h).elim .inl (fun h => .inr (List.mem_append_right _ h))

theorem own_kids3 {w : World} {S : List Nat} {a b v : Value} {t : Ix} (h : OwnL w S [a, b, v] (encIx t)) : ∃ T, Own w T v (ixsMem t.kids) ∧ ∀ b ∈ T, b ∈ S := by
  rw [encIx_eq] at h
  cases h with
  | cons h0 k _ =>
    cases k with
    | cons h1 k _ =>
      cases k with
      | cons h2 k _ => exact ⟨_, h2, fun b hb => by simp [hb]⟩

theorem encIxs_set : ∀ {ks : List Ix} {j : Nat} {r : Ix}, j < ks.length →
    (((encIxs ks).set (j * 3) (.cell (.int .i64 r.op))).set (j * 3 + 1) (.cell (.int .i64 r.num))).set (j * 3 + 2) (ixsMem r.kids) = encIxs (ks.set j r)
  | [], _, _, h => by simp at h
  | t :: l, 0, r, _ => by
    rw [encIxs, encIx_eq, List.set_cons_zero, encIxs, encIx_eq r]
    rfl
  | t :: l, j + 1, r, h => by
    have ih := encIxs_set (ks := l) (j := j) (r := r) (by simpa using h)
    rw [encIxs, encIx_eq, List.set_cons_succ, encIxs, encIx_eq t, ← ih, show (j + 1) * 3 = j * 3 + 3 by omega, show j * 3 + 3 + 1 = j * 3 + 1 + 3 by omega, show j * 3 + 3 + 2 = j * 3 + 2 + 3 by omega]
    rfl

set_option maxRecDepth 100000 in
set_option maxHeartbeats 8000000 in
theorem ind_loop (o n : Int) (B : Option Addr) (d : Nat) (ks : List Ix) (w : World) (bs : Nat → Bool) (rs : Nat → Ix) (r : Ix) (b : Bool) (hl3 : ks.length ≤ 1048576) (hk : IxsIn w (.slice B ks.length d) ks)
    (hg : (o == 4) = false ∨ ((o == 4) = true ∧ 0 < ks.length ∧ ((ixAt ks 0).op == 3) = false))
    (hT : ∀ j, j < ks.length → (∀ i, i < j → bs i = false) → bs j = true → b = true ∧ r = .mk o n (ks.set j (rs j)))
    (hF : (∀ i, i < ks.length → bs i = false) → b = false ∧ r = ix0)
    (ih : ∀ i, i < ks.length → ∀ (w' : World) (y : Value), Below w.heap.size w w' → IxIn w' y (ixAt ks i) → Calls Try.prog 58 #[y] w' (IxBPost (rs i) (bs i) w'))
    (ic : ∀ (w' : World) (x : Value), IxIn w' x (.mk o n ks) → Calls Try.prog 89 #[x, .int .i64 0, .int .i64 0] w' (IxOut (.mk o n ks) w')) :
    Calls Try.prog 58 #[.agg #[.int .i64 o, .int .i64 n, .slice B ks.length d]] w (IxBPost r b w) := by
  rcases hg with h4 | ⟨h4, hp, h3⟩
  · have START : Hid (((w.alloc (.cells #[.int .i64 o, .int .i64 n, .slice B ks.length d] 42)).alloc (.cells #[.int .i64 0, .int .i64 0, .slice none 0 0] 42)).heap[w.heap.size + 1]? = some (.cells #[.int .i64 0, .int .i64 0, .slice none 0 0] 42 (0, 0)) ∧ ((w.alloc (.cells #[.int .i64 o, .int .i64 n, .slice B ks.length d] 42)).alloc (.cells #[.int .i64 0, .int .i64 0, .slice none 0 0] 42)).heap[w.heap.size]? = some (.cells #[.int .i64 o, .int .i64 n, .slice B ks.length d] 42 (0, 0)) ∧ Below w.heap.size w ((w.alloc (.cells #[.int .i64 o, .int .i64 n, .slice B ks.length d] 42)).alloc (.cells #[.int .i64 0, .int .i64 0, .slice none 0 0] 42))) :=
      Lib.hid ⟨secondI w (.cells #[.int .i64 o, .int .i64 n, .slice B ks.length d] 42) #[.int .i64 0, .int .i64 0, .slice none 0 0] 42, (Below.heap_alloc (w.alloc (.cells #[.int .i64 o, .int .i64 n, .slice B ks.length d] 42)) _ _ (by simp)).trans (heap_alloc_new w _), ((Below.refl _ _).alloc (Nat.le_refl _) _).alloc (by simp) _⟩
    go_enter Try.func58, Try.ntmps58
    go_wp2
    go_loopw [35] (fun i wr => ∃ j : Nat, j ≤ ks.length ∧ i = .int .i64 j ∧ wr.heap[w.heap.size + 1]? = some (.cells #[.int .i64 0, .int .i64 0, .slice none 0 0] 42 (0, 0)) ∧ wr.heap[w.heap.size]? = some (.cells #[.int .i64 o, .int .i64 n, .slice B ks.length d] 42 (0, 0)) ∧ Below w.heap.size w wr ∧ (∀ i, i < j → bs i = false)) (fun i _ => ks.length - (intOf i).toNat)
    case atStart => exact ⟨0, Nat.zero_le _, rfl, START.out.1, START.out.2.1, START.out.2.2, fun i hi => by omega⟩
    case round =>
      clear START
      obtain ⟨j, hj, rfl, hr1, hx0, hb, hall⟩ := hrel
      have hlt0 : w.heap.size < wr.heap.size := Args8S.box_lt hx0
      have hlt1 : w.heap.size + 1 < wr.heap.size := Args8S.box_lt hr1
      by_cases hlt : j < ks.length
      · have HK := Lib.hid hk
        have IC := Lib.hid ic
        obtain ⟨b0, off, B1, e1, hB, hbl, d0, d1, d2, hy⟩ := kid_ix (hk.below hb) hlt
        subst hB
        have hdw : Below wr.heap.size wr (wr.alloc (.cells #[.int .i64 (ixAt ks j).op, .int .i64 (ixAt ks j).num, .slice B1 (ixAt ks j).kids.length e1] 42)) := (Below.refl _ _).alloc (Nat.le_refl _) _
        have hct := ih j hlt (wr.alloc (.cells #[.int .i64 (ixAt ks j).op, .int .i64 (ixAt ks j).num, .slice B1 (ixAt ks j).kids.length e1] 42)) _ (hb.trans (hdw.mono hb.size)) (hy.below hdw)
        have HDW := Lib.hid hdw
        have HB := Lib.hid hb
        have HX := Lib.hid hx0
        have HR := Lib.hid hr1
        clear hdw hb hx0 hr1 hy hk ic ih hbl
        cases hbj : bs j with
        | false =>
          rw [hbj] at hct
          clear hT hF
          generalize rs j = r1 at hct
          generalize ixAt ks j = u at hct d0 d1 d2 HDW
          go_wp2_with fail
          refine hct.mono ?_
          rintro e w2 ⟨A2, c2, S2, rfl, hS2, hS2b, hb2⟩
          have hb3 : Below wr.heap.size wr (w2.alloc (.cells #[.int .i64 r1.op, .int .i64 r1.num, .slice A2 r1.kids.length c2] 42)) := (HDW.out.trans (hb2.mono HDW.out.size)).alloc (by have h1 := HDW.out.size; have h2 := hb2.size; omega) _
          have hbN := HB.out.trans (hb3.mono HB.out.size)
          have k1 := (hb3.block (w.heap.size + 1) hlt1).trans HR.out
          have k0 := (hb3.block (w.heap.size) hlt0).trans HX.out
          clear hct hS2 hS2b hb2 hb3 d0 d1 d2 HDW HB HX HR HK IC hlt0 hlt1
          go_wp2
          refine ⟨⟨j + 1, by omega, by go_num, k1, k0, hbN, fun i hi => ?_⟩, ?_⟩
          · rcases (by omega : i < j ∨ i = j) with h | h
            · exact hall i h
            · rw [h]; exact hbj
          · simp only [intOf]
            omega
        | true =>
          rw [hbj] at hct
          obtain ⟨eb, er⟩ := hT j hlt hall hbj
          subst eb
          subst er
          clear hT hF hall
          generalize rs j = r1 at *
          have HJ := Lib.hid hlt
          generalize ixAt ks j = u at hct d0 d1 d2 HDW
          go_wp2_with fail
          refine hct.mono ?_
          rintro e w2 ⟨A2, c2, S2, rfl, hS2, hS2b, hb2⟩
          have hb3 : Below wr.heap.size wr (w2.alloc (.cells #[.int .i64 r1.op, .int .i64 r1.num, .slice A2 r1.kids.length c2] 42)) := (HDW.out.trans (hb2.mono HDW.out.size)).alloc (by have h1 := HDW.out.size; have h2 := hb2.size; omega) _
          have hbN := HB.out.trans (hb3.mono HB.out.size)
          have k1 := (hb3.block (w.heap.size + 1) hlt1).trans HR.out
          have k0 := (hb3.block (w.heap.size) hlt0).trans HX.out
          have had := IC.out (w2.alloc (.cells #[.int .i64 r1.op, .int .i64 r1.num, .slice A2 r1.kids.length c2] 42)) _ (⟨_, d, rfl, HK.out.below hbN⟩ : IxIn (w2.alloc (.cells #[.int .i64 r1.op, .int .i64 r1.num, .slice A2 r1.kids.length c2] 42)) (.agg #[.int .i64 o, .int .i64 n, .slice (some ⟨b0, off, none⟩) ks.length d]) (.mk o n ks))
          obtain ⟨m0, m1, m2⟩ := IxK.row3 k0
          have H2 := Lib.hid (And.intro hS2 (And.intro hS2b hb2))
          have H3 := Lib.hid (And.intro hb3 (And.intro hbN k1))
          clear hct hS2 hS2b hb2 hb3 hbN k0 k1 d0 d1 d2
          go_wp2_with fail
          refine had.mono ?_
          rintro e w3 ⟨A3, c3, S3, rfl, hS3, hS3b, hb4⟩
          simp only [ixop_mk, ixnum_mk, ixkids_mk]
          obtain ⟨hS2, hS2b, hb2⟩ := H2.out
          obtain ⟨hb3, hbN, k1⟩ := H3.out
          obtain ⟨T3, hT3, hT3s⟩ := own_kids3 hS3
          obtain ⟨xs, S', ho, hL, hSs, hvS⟩ := own_ixs0 hT3
          simp only [ixkids_mk] at ho hL
          obtain ⟨g, eg⟩ : ∃ g, A3 = some ⟨g, 0, none⟩ := by
            rcases ho.2 with ⟨_, h0⟩ | ⟨g, cap, cur, e0, _⟩
            · omega
            · injection e0 with e1 e2 e3
              exact ⟨g, e1⟩
          subst eg
          have hg := hvS g rfl
          have hgb := hS3b g (hT3s g hg.1)
          have hgl := hS3.lt g (hT3s g hg.1)
          have s2 : w2.heap.size < (w2.alloc (.cells #[.int .i64 r1.op, .int .i64 r1.num, .slice A2 r1.kids.length c2] 42)).heap.size := by simp
          have hbx : Below w3.heap.size w3 (w3.alloc (.cells #[.int .i64 o, .int .i64 n, .slice (some ⟨g, 0, none⟩) ks.length c3] 42)) := (Below.refl _ _).alloc (Nat.le_refl _) _
          have ho4 := own_below ho hbx
          have hxl := ho4.1
          obtain ⟨v0, q0⟩ := some_of_lt xs (j * 3) (by omega)
          obtain ⟨v1, q1⟩ := some_of_lt xs (j * 3 + 1) (by omega)
          obtain ⟨v2, q2⟩ := some_of_lt xs (j * 3 + 2) (by omega)
          have g0 := (ho4.cellAt (j * 3) (by omega)).trans q0
          have g1 := (ho4.cellAt (j * 3 + 1) (by omega)).trans q1
          have g2 := (ho4.cellAt (j * 3 + 2) (by omega)).trans q2
          have f0 := ho4.frozenAt (j * 3)
          have f1 := ho4.frozenAt (j * 3 + 1)
          have f2 := ho4.frozenAt (j * 3 + 2)
          obtain ⟨o1, p1⟩ := ho4.stored (j * 3) (.int .i64 r1.op)
          obtain ⟨o2, p2⟩ := o1.stored (j * 3 + 1) (.int .i64 r1.num)
          obtain ⟨o3, p3⟩ := o2.stored (j * 3 + 2) (.slice A2 r1.kids.length c2)
          have hq := grownBy_trans p1 (grownBy_trans p2 p3)
          have h24 := hb4.size
          have h23 := hb3.size
          obtain ⟨a0, a1, a2⟩ := IxK.row3 ((hbx.block w2.heap.size (by omega)).trans ((hb4.block w2.heap.size s2).trans (heap_alloc_new w2 _)))
          obtain ⟨t0, t1, t2⟩ := IxK.row3 ((hq.block w3.heap.size (by simp) (fun e => by injection e with e; omega)).trans (heap_alloc_new w3 _))
          have hr7 := (hq.block (w.heap.size + 1) (by simp; omega) (fun e => by injection e with e; omega)).trans ((hbx.block (w.heap.size + 1) (by omega)).trans ((hb4.block (w.heap.size + 1) (by omega)).trans k1))
          obtain ⟨r0, r1', r2⟩ := IxK.row3 hr7
          have z0 := frozen_of_row _ _ 0 _ _ hr7
          have z1 := frozen_of_row _ _ 1 _ _ hr7
          have z2 := frozen_of_row _ _ 2 _ _ hr7
          have hbw3 := hbN.trans (hb4.mono hbN.size)
          have hb7 := (hbw3.alloc hbw3.size (.cells #[.int .i64 o, .int .i64 n, .slice (some ⟨g, 0, none⟩) ks.length c3] 42)).grown hq (by have h1 := hbw3.size; simp; omega) (fun k hk' => by injection hk' with hk'; have h1 := hbN.size; omega)
          obtain ⟨RZ, hRZ, hRZs⟩ := own_kids3 hS2
          have hSz : ∀ bb ∈ RZ, bb < w2.heap.size := fun bb hbb => hRZ.lt bb hbb
          have hRZ4 := hRZ.alike (w' := (w3.alloc (.cells #[.int .i64 o, .int .i64 n, .slice (some ⟨g, 0, none⟩) ks.length c3] 42))) (fun bb hbb => by have h1 := hSz bb hbb; exact (hbx.block bb (by omega)).trans ((hb4.block bb (by omega)).trans (Below.heap_alloc w2 _ bb h1)))
          have hRZ7 := hRZ4.alike (w' := ((((w3.alloc (.cells #[.int .i64 o, .int .i64 n, .slice (some ⟨g, 0, none⟩) ks.length c3] 42)).setCell ⟨g, j * 3, none⟩ (.int .i64 r1.op)).setCell ⟨g, j * 3 + 1, none⟩ (.int .i64 r1.num)).setCell ⟨g, j * 3 + 2, none⟩ (.slice A2 r1.kids.length c2))) (fun bb hbb => hq.block bb (hRZ4.lt bb hbb) (fun e => by have h1 := hSz bb hbb; injection e with e; omega))
          have hL7 := (hL.alike (w' := (w3.alloc (.cells #[.int .i64 o, .int .i64 n, .slice (some ⟨g, 0, none⟩) ks.length c3] 42))) (fun bb hbb => hbx.block bb (hL.lt bb hbb))).kept hq (fun bb hbb => by intro e; injection e with e; exact hg.2 (e ▸ hbb))
          have hS'b : ∀ bb ∈ S', (w2.alloc (.cells #[.int .i64 r1.op, .int .i64 r1.num, .slice A2 r1.kids.length c2] 42)).heap.size ≤ bb := fun bb hbb => hS3b bb (hT3s bb (hSs bb hbb))
          have hpr := encIxs_parts (ts := ks) (i := j) HJ.out
          obtain ⟨S9, hL9, hS9⟩ := (((hL7.setCell (j * 3) _ (.int .i64 r1.op) hpr.1).setCell (j * 3 + 1) _ (.int .i64 r1.num) (by rw [List.getElem?_set_ne (by omega)]; exact hpr.2.1))).swap hRZ7 (fun bb h1 h2 => by have h3 := hSz bb h1; have h4 := hS'b bb h2; omega) (j * 3 + 2) _ (by rw [List.getElem?_set_ne (by omega), List.getElem?_set_ne (by omega)]; exact hpr.2.2)
          rw [encIxs_set HJ.out] at hL9
          have hg9 : g ∉ S9 := fun h => by
            rcases hS9 g h with h1 | h1
            · have := hSz g h1; omega
            · exact hg.2 h1
          have hO7 := own_of_ixs (by rw [List.length_set]) o3 hL9 hg9
          have hL := ownL_ix (t := .mk o n (ks.set j r1)) hO7
          have hlow : ∀ bb ∈ (g :: S9) ++ [], w.heap.size + 2 ≤ bb := fun bb hbb => by
            rw [List.append_nil] at hbb
            have h1 := hbN.size
            rcases List.mem_cons.1 hbb with h | h
            · omega
            · rcases hS9 bb h with h2 | h2
              · have h3 := hS2b bb (hRZs bb h2); have h4 := HDW.out.size; omega
              · have := hS'b bb h2; omega
          have hL8 := set3_own hL (R := w.heap.size + 1) (fun bb hbb => by have := hlow bb hbb; omega) (.int .i64 o) (.int .i64 n) (.slice (some ⟨g, 0, none⟩) ks.length c3)
          have hbel := set3_below hb7 (show w.heap.size ≤ w.heap.size + 1 from Nat.le_succ _) (.int .i64 o) (.int .i64 n) (.slice (some ⟨g, 0, none⟩) ks.length c3)
          have hpost : IxBPost (.mk o n (ks.set j r1)) true w (.returned (.tuple #[.agg #[.int .i64 o, .int .i64 n, .slice (some ⟨g, 0, none⟩) ks.length c3], .bool true])) _ := ⟨some ⟨g, 0, none⟩, c3, _, by simp only [ixop_mk, ixnum_mk, ixkids_mk, List.length_set], by simp only [ixop_mk, ixnum_mk, ixkids_mk, List.length_set] at hL8 ⊢; exact hL8, fun bb hbb => by have := hlow bb hbb; omega, hbel⟩
          clear had hS3 hS3b hb4 hS2 hS2b hb2 hb3 hbN k1 hT3 hT3s ho hL hSs hvS hg hgb hgl s2 hbx ho4 hxl q0 q1 q2 o1 o2 o3 p1 p2 p3 hq h24 h23 hr7 hbw3 hb7 hRZ hRZs hSz hRZ4 hRZ7 hL7 hS'b hpr hL9 hS9 hg9 hO7 hlow hL8 hbel H2 H3 HDW HB HX HR HK IC HJ hlt0 hlt1 m0 m1 m2
          go_wp2
          exact bodyPost_ret (v := .tuple #[.agg #[.int .i64 o, .int .i64 n, .slice (some ⟨g, 0, none⟩) ks.length c3], .bool true]) (by simp [results, Try.results58, go_sem, r0, r1', r2]) rfl hpost
      · obtain ⟨eb, er⟩ := hF (fun i hi => hall i (by omega))
        subst eb
        subst er
        have ej : ¬ j < ks.length := hlt
        obtain ⟨r0, r1', r2⟩ := IxK.row3 hr1
        have z0 := frozen_of_row _ _ 0 _ _ hr1
        have z1 := frozen_of_row _ _ 1 _ _ hr1
        have z2 := frozen_of_row _ _ 2 _ _ hr1
        have hbel := set3_below hb (show w.heap.size ≤ w.heap.size + 1 from Nat.le_succ _) (.int .i64 0) (.int .i64 0) (.slice none 0 0)
        have hpost : IxBPost ix0 false w (.returned (.tuple #[.agg #[.int .i64 0, .int .i64 0, .slice none 0 0], .bool false])) _ := ⟨none, 0, _, rfl, ownL_leafI 0 0, fun bb hbb => by simp at hbb, hbel⟩
        clear hbel hr1 hb hx0 hT hF ih ic hk hall hlt0 hlt1
        go_wp2
        exact bodyPost_ret (v := .tuple #[.agg #[.int .i64 0, .int .i64 0, .slice none 0 0], .bool false]) (by simp [results, Try.results58, go_sem, r0, r1', r2]) rfl hpost
  · obtain ⟨b0, off, B9, e9, rfl, hbl9, p0, _, _, _⟩ := kid_ix hk hp
    rw [Nat.zero_mul, Nat.add_zero] at p0
    have START : Hid (((w.alloc (.cells #[.int .i64 o, .int .i64 n, .slice (some ⟨b0, off, none⟩) ks.length d] 42)).alloc (.cells #[.int .i64 0, .int .i64 0, .slice none 0 0] 42)).heap[w.heap.size + 1]? = some (.cells #[.int .i64 0, .int .i64 0, .slice none 0 0] 42 (0, 0)) ∧ ((w.alloc (.cells #[.int .i64 o, .int .i64 n, .slice (some ⟨b0, off, none⟩) ks.length d] 42)).alloc (.cells #[.int .i64 0, .int .i64 0, .slice none 0 0] 42)).heap[w.heap.size]? = some (.cells #[.int .i64 o, .int .i64 n, .slice (some ⟨b0, off, none⟩) ks.length d] 42 (0, 0)) ∧ Below w.heap.size w ((w.alloc (.cells #[.int .i64 o, .int .i64 n, .slice (some ⟨b0, off, none⟩) ks.length d] 42)).alloc (.cells #[.int .i64 0, .int .i64 0, .slice none 0 0] 42))) :=
      Lib.hid ⟨secondI w (.cells #[.int .i64 o, .int .i64 n, .slice (some ⟨b0, off, none⟩) ks.length d] 42) #[.int .i64 0, .int .i64 0, .slice none 0 0] 42, (Below.heap_alloc (w.alloc (.cells #[.int .i64 o, .int .i64 n, .slice (some ⟨b0, off, none⟩) ks.length d] 42)) _ _ (by simp)).trans (heap_alloc_new w _), ((Below.refl _ _).alloc (Nat.le_refl _) _).alloc (by simp) _⟩
    have p0' := (START.out.2.2.cell (p := ⟨b0, off, none⟩) hbl9).trans p0
    have hp1 : ¬ (ks.length : Int) ≤ 0 := by omega
    clear p0 hbl9
    go_enter Try.func58, Try.ntmps58
    go_wp2
    clear p0' hp1 h3
    go_loopw [35] (fun i wr => ∃ j : Nat, j ≤ ks.length ∧ i = .int .i64 j ∧ wr.heap[w.heap.size + 1]? = some (.cells #[.int .i64 0, .int .i64 0, .slice none 0 0] 42 (0, 0)) ∧ wr.heap[w.heap.size]? = some (.cells #[.int .i64 o, .int .i64 n, .slice (some ⟨b0, off, none⟩) ks.length d] 42 (0, 0)) ∧ Below w.heap.size w wr ∧ (∀ i, i < j → bs i = false)) (fun i _ => ks.length - (intOf i).toNat)
    case atStart => exact ⟨0, Nat.zero_le _, rfl, START.out.1, START.out.2.1, START.out.2.2, fun i hi => by omega⟩
    case round =>
      clear START
      obtain ⟨j, hj, rfl, hr1, hx0, hb, hall⟩ := hrel
      have hlt0 : w.heap.size < wr.heap.size := Args8S.box_lt hx0
      have hlt1 : w.heap.size + 1 < wr.heap.size := Args8S.box_lt hr1
      by_cases hlt : j < ks.length
      · have HK := Lib.hid hk
        have IC := Lib.hid ic
        obtain ⟨b', off', B1, e1, hB, hbl, d0, d1, d2, hy⟩ := kid_ix (hk.below hb) hlt
        injection hB with hB; injection hB with hB1 hB2; subst hB1; subst hB2
        have hdw : Below wr.heap.size wr (wr.alloc (.cells #[.int .i64 (ixAt ks j).op, .int .i64 (ixAt ks j).num, .slice B1 (ixAt ks j).kids.length e1] 42)) := (Below.refl _ _).alloc (Nat.le_refl _) _
        have hct := ih j hlt (wr.alloc (.cells #[.int .i64 (ixAt ks j).op, .int .i64 (ixAt ks j).num, .slice B1 (ixAt ks j).kids.length e1] 42)) _ (hb.trans (hdw.mono hb.size)) (hy.below hdw)
        have HDW := Lib.hid hdw
        have HB := Lib.hid hb
        have HX := Lib.hid hx0
        have HR := Lib.hid hr1
        clear hdw hb hx0 hr1 hy hk ic ih hbl
        cases hbj : bs j with
        | false =>
          rw [hbj] at hct
          clear hT hF
          generalize rs j = r1 at hct
          generalize ixAt ks j = u at hct d0 d1 d2 HDW
          go_wp2_with fail
          refine hct.mono ?_
          rintro e w2 ⟨A2, c2, S2, rfl, hS2, hS2b, hb2⟩
          have hb3 : Below wr.heap.size wr (w2.alloc (.cells #[.int .i64 r1.op, .int .i64 r1.num, .slice A2 r1.kids.length c2] 42)) := (HDW.out.trans (hb2.mono HDW.out.size)).alloc (by have h1 := HDW.out.size; have h2 := hb2.size; omega) _
          have hbN := HB.out.trans (hb3.mono HB.out.size)
          have k1 := (hb3.block (w.heap.size + 1) hlt1).trans HR.out
          have k0 := (hb3.block (w.heap.size) hlt0).trans HX.out
          clear hct hS2 hS2b hb2 hb3 d0 d1 d2 HDW HB HX HR HK IC hlt0 hlt1
          go_wp2
          refine ⟨⟨j + 1, by omega, by go_num, k1, k0, hbN, fun i hi => ?_⟩, ?_⟩
          · rcases (by omega : i < j ∨ i = j) with h | h
            · exact hall i h
            · rw [h]; exact hbj
          · simp only [intOf]
            omega
        | true =>
          rw [hbj] at hct
          obtain ⟨eb, er⟩ := hT j hlt hall hbj
          subst eb
          subst er
          clear hT hF hall
          generalize rs j = r1 at *
          have HJ := Lib.hid hlt
          generalize ixAt ks j = u at hct d0 d1 d2 HDW
          go_wp2_with fail
          refine hct.mono ?_
          rintro e w2 ⟨A2, c2, S2, rfl, hS2, hS2b, hb2⟩
          have hb3 : Below wr.heap.size wr (w2.alloc (.cells #[.int .i64 r1.op, .int .i64 r1.num, .slice A2 r1.kids.length c2] 42)) := (HDW.out.trans (hb2.mono HDW.out.size)).alloc (by have h1 := HDW.out.size; have h2 := hb2.size; omega) _
          have hbN := HB.out.trans (hb3.mono HB.out.size)
          have k1 := (hb3.block (w.heap.size + 1) hlt1).trans HR.out
          have k0 := (hb3.block (w.heap.size) hlt0).trans HX.out
          have had := IC.out (w2.alloc (.cells #[.int .i64 r1.op, .int .i64 r1.num, .slice A2 r1.kids.length c2] 42)) _ (⟨_, d, rfl, HK.out.below hbN⟩ : IxIn (w2.alloc (.cells #[.int .i64 r1.op, .int .i64 r1.num, .slice A2 r1.kids.length c2] 42)) (.agg #[.int .i64 o, .int .i64 n, .slice (some ⟨b0, off, none⟩) ks.length d]) (.mk o n ks))
          obtain ⟨m0, m1, m2⟩ := IxK.row3 k0
          have H2 := Lib.hid (And.intro hS2 (And.intro hS2b hb2))
          have H3 := Lib.hid (And.intro hb3 (And.intro hbN k1))
          clear hct hS2 hS2b hb2 hb3 hbN k0 k1 d0 d1 d2
          go_wp2_with fail
          refine had.mono ?_
          rintro e w3 ⟨A3, c3, S3, rfl, hS3, hS3b, hb4⟩
          simp only [ixop_mk, ixnum_mk, ixkids_mk]
          obtain ⟨hS2, hS2b, hb2⟩ := H2.out
          obtain ⟨hb3, hbN, k1⟩ := H3.out
          obtain ⟨T3, hT3, hT3s⟩ := own_kids3 hS3
          obtain ⟨xs, S', ho, hL, hSs, hvS⟩ := own_ixs0 hT3
          simp only [ixkids_mk] at ho hL
          obtain ⟨g, eg⟩ : ∃ g, A3 = some ⟨g, 0, none⟩ := by
            rcases ho.2 with ⟨_, h0⟩ | ⟨g, cap, cur, e0, _⟩
            · omega
            · injection e0 with e1 e2 e3
              exact ⟨g, e1⟩
          subst eg
          have hg := hvS g rfl
          have hgb := hS3b g (hT3s g hg.1)
          have hgl := hS3.lt g (hT3s g hg.1)
          have s2 : w2.heap.size < (w2.alloc (.cells #[.int .i64 r1.op, .int .i64 r1.num, .slice A2 r1.kids.length c2] 42)).heap.size := by simp
          have hbx : Below w3.heap.size w3 (w3.alloc (.cells #[.int .i64 o, .int .i64 n, .slice (some ⟨g, 0, none⟩) ks.length c3] 42)) := (Below.refl _ _).alloc (Nat.le_refl _) _
          have ho4 := own_below ho hbx
          have hxl := ho4.1
          obtain ⟨v0, q0⟩ := some_of_lt xs (j * 3) (by omega)
          obtain ⟨v1, q1⟩ := some_of_lt xs (j * 3 + 1) (by omega)
          obtain ⟨v2, q2⟩ := some_of_lt xs (j * 3 + 2) (by omega)
          have g0 := (ho4.cellAt (j * 3) (by omega)).trans q0
          have g1 := (ho4.cellAt (j * 3 + 1) (by omega)).trans q1
          have g2 := (ho4.cellAt (j * 3 + 2) (by omega)).trans q2
          have f0 := ho4.frozenAt (j * 3)
          have f1 := ho4.frozenAt (j * 3 + 1)
          have f2 := ho4.frozenAt (j * 3 + 2)
          obtain ⟨o1, p1⟩ := ho4.stored (j * 3) (.int .i64 r1.op)
          obtain ⟨o2, p2⟩ := o1.stored (j * 3 + 1) (.int .i64 r1.num)
          obtain ⟨o3, p3⟩ := o2.stored (j * 3 + 2) (.slice A2 r1.kids.length c2)
          have hq := grownBy_trans p1 (grownBy_trans p2 p3)
          have h24 := hb4.size
          have h23 := hb3.size
          obtain ⟨a0, a1, a2⟩ := IxK.row3 ((hbx.block w2.heap.size (by omega)).trans ((hb4.block w2.heap.size s2).trans (heap_alloc_new w2 _)))
          obtain ⟨t0, t1, t2⟩ := IxK.row3 ((hq.block w3.heap.size (by simp) (fun e => by injection e with e; omega)).trans (heap_alloc_new w3 _))
          have hr7 := (hq.block (w.heap.size + 1) (by simp; omega) (fun e => by injection e with e; omega)).trans ((hbx.block (w.heap.size + 1) (by omega)).trans ((hb4.block (w.heap.size + 1) (by omega)).trans k1))
          obtain ⟨r0, r1', r2⟩ := IxK.row3 hr7
          have z0 := frozen_of_row _ _ 0 _ _ hr7
          have z1 := frozen_of_row _ _ 1 _ _ hr7
          have z2 := frozen_of_row _ _ 2 _ _ hr7
          have hbw3 := hbN.trans (hb4.mono hbN.size)
          have hb7 := (hbw3.alloc hbw3.size (.cells #[.int .i64 o, .int .i64 n, .slice (some ⟨g, 0, none⟩) ks.length c3] 42)).grown hq (by have h1 := hbw3.size; simp; omega) (fun k hk' => by injection hk' with hk'; have h1 := hbN.size; omega)
          obtain ⟨RZ, hRZ, hRZs⟩ := own_kids3 hS2
          have hSz : ∀ bb ∈ RZ, bb < w2.heap.size := fun bb hbb => hRZ.lt bb hbb
          have hRZ4 := hRZ.alike (w' := (w3.alloc (.cells #[.int .i64 o, .int .i64 n, .slice (some ⟨g, 0, none⟩) ks.length c3] 42))) (fun bb hbb => by have h1 := hSz bb hbb; exact (hbx.block bb (by omega)).trans ((hb4.block bb (by omega)).trans (Below.heap_alloc w2 _ bb h1)))
          have hRZ7 := hRZ4.alike (w' := ((((w3.alloc (.cells #[.int .i64 o, .int .i64 n, .slice (some ⟨g, 0, none⟩) ks.length c3] 42)).setCell ⟨g, j * 3, none⟩ (.int .i64 r1.op)).setCell ⟨g, j * 3 + 1, none⟩ (.int .i64 r1.num)).setCell ⟨g, j * 3 + 2, none⟩ (.slice A2 r1.kids.length c2))) (fun bb hbb => hq.block bb (hRZ4.lt bb hbb) (fun e => by have h1 := hSz bb hbb; injection e with e; omega))
          have hL7 := (hL.alike (w' := (w3.alloc (.cells #[.int .i64 o, .int .i64 n, .slice (some ⟨g, 0, none⟩) ks.length c3] 42))) (fun bb hbb => hbx.block bb (hL.lt bb hbb))).kept hq (fun bb hbb => by intro e; injection e with e; exact hg.2 (e ▸ hbb))
          have hS'b : ∀ bb ∈ S', (w2.alloc (.cells #[.int .i64 r1.op, .int .i64 r1.num, .slice A2 r1.kids.length c2] 42)).heap.size ≤ bb := fun bb hbb => hS3b bb (hT3s bb (hSs bb hbb))
          have hpr := encIxs_parts (ts := ks) (i := j) HJ.out
          obtain ⟨S9, hL9, hS9⟩ := (((hL7.setCell (j * 3) _ (.int .i64 r1.op) hpr.1).setCell (j * 3 + 1) _ (.int .i64 r1.num) (by rw [List.getElem?_set_ne (by omega)]; exact hpr.2.1))).swap hRZ7 (fun bb h1 h2 => by have h3 := hSz bb h1; have h4 := hS'b bb h2; omega) (j * 3 + 2) _ (by rw [List.getElem?_set_ne (by omega), List.getElem?_set_ne (by omega)]; exact hpr.2.2)
          rw [encIxs_set HJ.out] at hL9
          have hg9 : g ∉ S9 := fun h => by
            rcases hS9 g h with h1 | h1
            · have := hSz g h1; omega
            · exact hg.2 h1
          have hO7 := own_of_ixs (by rw [List.length_set]) o3 hL9 hg9
          have hL := ownL_ix (t := .mk o n (ks.set j r1)) hO7
          have hlow : ∀ bb ∈ (g :: S9) ++ [], w.heap.size + 2 ≤ bb := fun bb hbb => by
            rw [List.append_nil] at hbb
            have h1 := hbN.size
            rcases List.mem_cons.1 hbb with h | h
            · omega
            · rcases hS9 bb h with h2 | h2
              · have h3 := hS2b bb (hRZs bb h2); have h4 := HDW.out.size; omega
              · have := hS'b bb h2; omega
          have hL8 := set3_own hL (R := w.heap.size + 1) (fun bb hbb => by have := hlow bb hbb; omega) (.int .i64 o) (.int .i64 n) (.slice (some ⟨g, 0, none⟩) ks.length c3)
          have hbel := set3_below hb7 (show w.heap.size ≤ w.heap.size + 1 from Nat.le_succ _) (.int .i64 o) (.int .i64 n) (.slice (some ⟨g, 0, none⟩) ks.length c3)
          have hpost : IxBPost (.mk o n (ks.set j r1)) true w (.returned (.tuple #[.agg #[.int .i64 o, .int .i64 n, .slice (some ⟨g, 0, none⟩) ks.length c3], .bool true])) _ := ⟨some ⟨g, 0, none⟩, c3, _, by simp only [ixop_mk, ixnum_mk, ixkids_mk, List.length_set], by simp only [ixop_mk, ixnum_mk, ixkids_mk, List.length_set] at hL8 ⊢; exact hL8, fun bb hbb => by have := hlow bb hbb; omega, hbel⟩
          clear had hS3 hS3b hb4 hS2 hS2b hb2 hb3 hbN k1 hT3 hT3s ho hL hSs hvS hg hgb hgl s2 hbx ho4 hxl q0 q1 q2 o1 o2 o3 p1 p2 p3 hq h24 h23 hr7 hbw3 hb7 hRZ hRZs hSz hRZ4 hRZ7 hL7 hS'b hpr hL9 hS9 hg9 hO7 hlow hL8 hbel H2 H3 HDW HB HX HR HK IC HJ hlt0 hlt1 m0 m1 m2
          go_wp2
          exact bodyPost_ret (v := .tuple #[.agg #[.int .i64 o, .int .i64 n, .slice (some ⟨g, 0, none⟩) ks.length c3], .bool true]) (by simp [results, Try.results58, go_sem, r0, r1', r2]) rfl hpost
      · obtain ⟨eb, er⟩ := hF (fun i hi => hall i (by omega))
        subst eb
        subst er
        have ej : ¬ j < ks.length := hlt
        obtain ⟨r0, r1', r2⟩ := IxK.row3 hr1
        have z0 := frozen_of_row _ _ 0 _ _ hr1
        have z1 := frozen_of_row _ _ 1 _ _ hr1
        have z2 := frozen_of_row _ _ 2 _ _ hr1
        have hbel := set3_below hb (show w.heap.size ≤ w.heap.size + 1 from Nat.le_succ _) (.int .i64 0) (.int .i64 0) (.slice none 0 0)
        have hpost : IxBPost ix0 false w (.returned (.tuple #[.agg #[.int .i64 0, .int .i64 0, .slice none 0 0], .bool false])) _ := ⟨none, 0, _, rfl, ownL_leafI 0 0, fun bb hbb => by simp at hbb, hbel⟩
        clear hbel hr1 hb hx0 hT hF ih ic hk hall hlt0 hlt1
        go_wp2
        exact bodyPost_ret (v := .tuple #[.agg #[.int .i64 0, .int .i64 0, .slice none 0 0], .bool false]) (by simp [results, Try.results58, go_sem, r0, r1', r2]) rfl hpost

end Go.Proofs.Ytihijigbdpjcoaa
end

section
namespace Go.Proofs.Ytihijigbdpjcoaa
open Go.RowKit Go.Sort
set_option linter.unusedVariables false

/-- What l8Indices answers. -/
def stA (l : Li) : Ix := if stepB l then liIx (stepD l) else ix0
theorem stA_no {l : Li} (h : stepB l = false) : stA l = ix0 := by unfold stA; rw [h]; rfl
theorem stA_yes {l : Li} (h : stepB l = true) : stA l = liIx (stepD l) := by unfold stA; rw [h]; rfl
theorem op_notFn : ∀ {l : Li}, notFn l → ((liIx l).op == 3) = false
  | .bnd _, _ => rfl
  | .free _, _ => rfl
  | .fn _, h => h.elim
  | .app _ _, _ => rfl
theorem add_0 (l : Li) (ho : okL l) (hs : szL l ≤ 1048576) (w : World) (x : Value) (hx : IxIn w x (liIx l)) :
    Calls Try.prog 89 #[x, .int .i64 0, .int .i64 0] w (IxOut (liIx l) w) := by
  have h := l8Add_any l 0 0 w x hx ho (by omega) (by omega) (by omega) (by omega)
  rwa [raise_0] at h
theorem ind_app (f g : Li) (hnf : notFn f) (ho : okL (.app f g)) (hs : szL (.app f g) ≤ 1048576) (B : Option Addr) (d : Nat) (w : World) (hk : IxsIn w (.slice B 2 d) [liIx f, liIx g])
    (ihf : ∀ (w' : World) (y : Value), IxIn w' y (liIx f) → Calls Try.prog 58 #[y] w' (IxBPost (stA f) (stepB f) w'))
    (ihg : ∀ (w' : World) (y : Value), IxIn w' y (liIx g) → Calls Try.prog 58 #[y] w' (IxBPost (stA g) (stepB g) w')) :
    Calls Try.prog 58 #[.agg #[.int .i64 4, .int .i64 0, .slice B 2 d]] w (IxBPost (stA (.app f g)) (stepB (.app f g)) w) := by
  refine ind_loop 4 0 B d [liIx f, liIx g] w (fun i => if i = 0 then stepB f else stepB g) (fun i => if i = 0 then stA f else stA g) _ _ (by simp) hk (.inr ⟨rfl, by simp, op_notFn hnf⟩) ?_ ?_ ?_ (fun w' x hx => add_0 (.app f g) ho hs w' x hx)
  · intro j hj hall hb
    have e : j = 0 ∨ j = 1 := by simp at hj; omega
    rcases e with rfl | rfl
    · have hb' : stepB f = true := hb
      have e1 : stepB (.app f g) = true := by rw [stepB_app hnf, if_pos hb']
      refine ⟨e1, ?_⟩
      rw [stA_yes e1, stepD_app hnf, if_pos hb', liIx]
      show _ = Ix.mk 4 0 [stA f, liIx g]
      rw [stA_yes hb']
    · have hb' : stepB g = true := hb
      have h0 : stepB f = false := hall 0 (by omega)
      have e1 : stepB (.app f g) = true := by rw [stepB_app hnf, if_neg (by rw [h0]; simp)]; exact hb'
      refine ⟨e1, ?_⟩
      rw [stA_yes e1, stepD_app hnf, if_neg (by rw [h0]; simp), liIx]
      show _ = Ix.mk 4 0 [liIx f, stA g]
      rw [stA_yes hb']
  · intro hall
    have h0 : stepB f = false := hall 0 (by simp)
    have h1 : stepB g = false := hall 1 (by simp)
    have e1 : stepB (.app f g) = false := by rw [stepB_app hnf, if_neg (by rw [h0]; simp)]; exact h1
    exact ⟨e1, stA_no e1⟩
  · intro i hi w' y hw hy
    have e : i = 0 ∨ i = 1 := by simp at hi; omega
    rcases e with rfl | rfl
    · exact ihf w' y hy
    · exact ihg w' y hy

theorem l8Indices_any : ∀ (l : Li) (w : World) (x : Value), IxIn w x (liIx l) → okL l → szL l ≤ 1048576 → Calls Try.prog 58 #[x] w (IxBPost (stA l) (stepB l) w)
  | .bnd n, w, x, hx, ho, hs => by
    obtain ⟨B, d, rfl, hk⟩ := hx
    exact ind_leaf 1 n B d w rfl
  | .free n, w, x, hx, ho, hs => by
    obtain ⟨B, d, rfl, hk⟩ := hx
    exact ind_leaf 2 n B d w rfl
  | .fn y, w, x, hx, ho, hs => by
    obtain ⟨B, d, rfl, hk⟩ := hx
    have hs' : szL y ≤ 1048576 := by rw [szL] at hs; omega
    refine ind_loop 3 0 B d [liIx y] w (fun _ => stepB y) (fun _ => stA y) _ _ (by simp) hk (.inl rfl) ?_ ?_ ?_ (fun w' x hx => add_0 (.fn y) ho hs w' x hx)
    · intro j hj hall hb
      have e : j = 0 := by simp at hj; omega
      subst e
      have hb' : stepB y = true := hb
      have e1 : stepB (.fn y) = true := hb'
      refine ⟨e1, ?_⟩
      rw [stA_yes e1, stepD, liIx]
      show _ = Ix.mk 3 0 [stA y]
      rw [stA_yes hb']
    · intro hall
      have h0 : stepB y = false := hall 0 (by simp)
      have e1 : stepB (.fn y) = false := h0
      exact ⟨e1, stA_no e1⟩
    · intro i hi w' z hw hz
      have e : i = 0 := by simp at hi; omega
      subst e
      exact l8Indices_any y w' z hz ho hs'
  | .app f g, w, x, hx, ho, hs => by
    obtain ⟨B, d, rfl, hk⟩ := hx
    have hs' := hs
    rw [szL] at hs'
    have ihf := fun w' y h => l8Indices_any f w' y h ho.1 (by omega)
    have ihg := fun w' y h => l8Indices_any g w' y h ho.2 (by omega)
    cases f with
    | fn b =>
      rw [szL] at hs'
      exact ind_redex 0 0 (liIx b) (liIx g) (liIx (fillL b 0 g)) B d w hk (fun w' x z hx hz => l8Fill_any g ho.2 (by omega) b 0 w' x z hx hz ho.1 (by omega) (by omega))
    | bnd n => exact ind_app (.bnd n) g (show notFn (.bnd n) from trivial) ho hs B d w hk ihf ihg
    | free n => exact ind_app (.free n) g (show notFn (.free n) from trivial) ho hs B d w hk ihf ihg
    | app f1 f2 => exact ind_app (.app f1 f2) g (show notFn (.app f1 f2) from trivial) ho hs B d w hk ihf ihg

set_option maxRecDepth 100000 in
set_option maxHeartbeats 4000000 in
theorem stepIndices_spec (t : Ix) (x : Value) (w : World) (hx : IxIn w x t) (hc : cntIx t ≤ 1048576) :
    Calls Try.prog 22 #[x] w (IxBPost (stepR t) (stepOk t) w) := by
  have hit := fun W hW => isIndexTerm_spec t x W hW hc
  have hx' := hx
  obtain ⟨B, d, rfl, hk⟩ := hx
  have hb0 : Below w.heap.size w ((w.alloc (.cells #[.int .i64 t.op, .int .i64 t.num, .slice B t.kids.length d] 42)).alloc (.cells #[.int .i64 0, .int .i64 0, .slice none 0 0] 42)) := ((Below.refl _ _).alloc (Nat.le_refl _) _).alloc (by simp) _
  have hres := secondI w (.cells #[.int .i64 t.op, .int .i64 t.num, .slice B t.kids.length d] 42) #[.int .i64 0, .int .i64 0, .slice none 0 0] 42
  have hbox : ((w.alloc (.cells #[.int .i64 t.op, .int .i64 t.num, .slice B t.kids.length d] 42)).alloc (.cells #[.int .i64 0, .int .i64 0, .slice none 0 0] 42)).heap[w.heap.size]? = some (.cells #[.int .i64 t.op, .int .i64 t.num, .slice B t.kids.length d] 42 (0, 0)) := (Below.heap_alloc (w.alloc (.cells #[.int .i64 t.op, .int .i64 t.num, .slice B t.kids.length d] 42)) _ _ (by simp)).trans (heap_alloc_new w _)
  have hi0 := hit _ (hx'.below hb0)
  have HR : Hid (∀ w' : World, Below ((w.alloc (.cells #[.int .i64 t.op, .int .i64 t.num, .slice B t.kids.length d] 42)).alloc (.cells #[.int .i64 0, .int .i64 0, .slice none 0 0] 42)).heap.size ((w.alloc (.cells #[.int .i64 t.op, .int .i64 t.num, .slice B t.kids.length d] 42)).alloc (.cells #[.int .i64 0, .int .i64 0, .slice none 0 0] 42)) w' → w'.heap[w.heap.size + 1]? = some (.cells #[.int .i64 0, .int .i64 0, .slice none 0 0] 42 (0, 0)) ∧ w'.heap[w.heap.size]? = some (.cells #[.int .i64 t.op, .int .i64 t.num, .slice B t.kids.length d] 42 (0, 0))) := Lib.hid (fun w' h => ⟨(h.block (w.heap.size + 1) (by simp)).trans hres, (h.block w.heap.size (by simp; omega)).trans hbox⟩)
  have hsz : ((w.alloc (.cells #[.int .i64 t.op, .int .i64 t.num, .slice B t.kids.length d] 42)).alloc (.cells #[.int .i64 0, .int .i64 0, .slice none 0 0] 42)).heap.size = w.heap.size + 2 := by simp
  have HSZ := Lib.hid hsz
  have HB0 := Lib.hid hb0
  have HX := Lib.hid (fun W (hW : Below w.heap.size w W) => hx'.below hW)
  clear hit hk hres hbox hsz hx' hb0
  cases h1 : isIndexB t with
  | false =>
    have h2 : stepOk t = false := by unfold stepOk; rw [h1, Bool.false_and]
    rw [stepR_no h2, h2]
    rw [h1] at hi0
    clear h1 h2 HX
    go_enter Try.func22, Try.ntmps22
    go_wp2_with fail
    refine hi0.mono ?_
    rintro e w1 ⟨rfl, hb1⟩
    have hres9 := (HR.out w1 hb1).1
    obtain ⟨r0, r1, r2⟩ := IxK.row3 hres9
    have z0 := frozen_of_row _ _ 0 _ _ hres9
    have z1 := frozen_of_row _ _ 1 _ _ hres9
    have z2 := frozen_of_row _ _ 2 _ _ hres9
    have hbel := set3_below (HB0.out.trans (hb1.mono HB0.out.size)) (show w.heap.size ≤ w.heap.size + 1 by omega) (.int .i64 0) (.int .i64 0) (.slice none 0 0)
    have hpost : IxBPost ix0 false w (.returned (.tuple #[.agg #[.int .i64 0, .int .i64 0, .slice none 0 0], .bool false])) _ := ⟨none, 0, _, rfl, ownL_leafI 0 0, fun b hb => by simp at hb, hbel⟩
    clear hi0 hb1 HR HSZ HB0 hbel hres9
    go_wp2
    exact bodyPost_ret (v := .tuple #[.agg #[.int .i64 0, .int .i64 0, .slice none 0 0], .bool false]) (by simp [results, Try.results22, go_sem, r0, r1, r2]) rfl hpost
  | true =>
    obtain ⟨hl, hok, hs60⟩ := li_parts h1
    rw [h1] at hi0
    have hli : ∀ W : World, Below w.heap.size w W → Calls Try.prog 58 #[.agg #[.int .i64 t.op, .int .i64 t.num, .slice B t.kids.length d]] W (IxBPost (stA (liOf t)) (stepB (liOf t)) W) := fun W hW => l8Indices_any (liOf t) W _ (by rw [← hl]; exact HX.out W hW) hok (by omega)
    cases hsb : stepB (liOf t) with
    | false =>
      have h2 : stepOk t = false := by unfold stepOk; rw [hsb]; simp
      rw [stepR_no h2, h2]
      rw [hsb] at hli
      generalize stA (liOf t) = r at hli
      clear h1 h2 HX hl hok hs60 hsb
      go_enter Try.func22, Try.ntmps22
      go_wp2_with fail
      refine hi0.mono ?_
      rintro e w1 ⟨rfl, hb1⟩
      obtain ⟨b0, b1, b2⟩ := IxK.row3 (HR.out w1 hb1).2
      have hf0 := hli w1 (HB0.out.trans (hb1.mono HB0.out.size))
      clear hi0 hli
      go_wp2_with fail
      refine hf0.mono ?_
      rintro e w2 ⟨A2, c2, S2, rfl, hS2, hS2b, hb2⟩
      have hb12 := hb1.trans (hb2.mono hb1.size)
      have hb13 : Below ((w.alloc (.cells #[.int .i64 t.op, .int .i64 t.num, .slice B t.kids.length d] 42)).alloc (.cells #[.int .i64 0, .int .i64 0, .slice none 0 0] 42)).heap.size ((w.alloc (.cells #[.int .i64 t.op, .int .i64 t.num, .slice B t.kids.length d] 42)).alloc (.cells #[.int .i64 0, .int .i64 0, .slice none 0 0] 42)) (w2.alloc (.cells #[.int .i64 r.op, .int .i64 r.num, .slice A2 r.kids.length c2] 42)) := hb12.alloc hb12.size _
      clear hf0 hb1 hb2 hb12 hS2 hS2b b0 b1 b2
      have hres9 := (HR.out (w2.alloc (.cells #[.int .i64 r.op, .int .i64 r.num, .slice A2 r.kids.length c2] 42)) hb13).1
      obtain ⟨r0, r1, r2⟩ := IxK.row3 hres9
      have z0 := frozen_of_row _ _ 0 _ _ hres9
      have z1 := frozen_of_row _ _ 1 _ _ hres9
      have z2 := frozen_of_row _ _ 2 _ _ hres9
      have hbel := set3_below (HB0.out.trans (hb13.mono HB0.out.size)) (show w.heap.size ≤ w.heap.size + 1 by omega) (.int .i64 0) (.int .i64 0) (.slice none 0 0)
      have hpost : IxBPost ix0 false w (.returned (.tuple #[.agg #[.int .i64 0, .int .i64 0, .slice none 0 0], .bool false])) _ := ⟨none, 0, _, rfl, ownL_leafI 0 0, fun b hb => by simp at hb, hbel⟩
      clear hb13 HR HSZ HB0 hbel hres9
      go_wp2
      exact bodyPost_ret (v := .tuple #[.agg #[.int .i64 0, .int .i64 0, .slice none 0 0], .bool false]) (by simp [results, Try.results22, go_sem, r0, r1, r2]) rfl hpost
    | true =>
      have hc2 : cntIx (liIx (stepD (liOf t))) ≤ 1048576 := by
        have e1 := cnt_li (stepD (liOf t))
        have e2 := szL_step (liOf t)
        have e3 : szL (liOf t) * szL (liOf t) ≤ 60 * 60 := Nat.mul_le_mul hs60 hs60
        omega
      have hit2 := fun W y hy => isIndexTerm_spec (liIx (stepD (liOf t))) y W hy hc2
      rw [hsb, stA_yes hsb] at hli
      have hsr : stepOk t = isIndexB (liIx (stepD (liOf t))) := by unfold stepOk; rw [h1, hsb]; simp
      have hsr2 : stepR t = if isIndexB (liIx (stepD (liOf t))) then liIx (stepD (liOf t)) else ix0 := by unfold stepR; rw [hsr]
      rw [hsr, hsr2]
      generalize liIx (stepD (liOf t)) = r at *
      clear h1 HX hl hok hs60 hsb hsr hsr2 hc2
      cases hq : isIndexB r with
      | false =>
        rw [hq] at hit2
        rw [if_neg (by simp)]
        clear hq
        go_enter Try.func22, Try.ntmps22
        go_wp2_with fail
        refine hi0.mono ?_
        rintro e w1 ⟨rfl, hb1⟩
        obtain ⟨b0, b1, b2⟩ := IxK.row3 (HR.out w1 hb1).2
        have hf0 := hli w1 (HB0.out.trans (hb1.mono HB0.out.size))
        clear hi0 hli
        go_wp2_with fail
        refine hf0.mono ?_
        rintro e w2 ⟨A2, c2, S2, rfl, hS2, hS2b, hb2⟩
        have hb12 := hb1.trans (hb2.mono hb1.size)
        have hb13 : Below ((w.alloc (.cells #[.int .i64 t.op, .int .i64 t.num, .slice B t.kids.length d] 42)).alloc (.cells #[.int .i64 0, .int .i64 0, .slice none 0 0] 42)).heap.size ((w.alloc (.cells #[.int .i64 t.op, .int .i64 t.num, .slice B t.kids.length d] 42)).alloc (.cells #[.int .i64 0, .int .i64 0, .slice none 0 0] 42)) (w2.alloc (.cells #[.int .i64 r.op, .int .i64 r.num, .slice A2 r.kids.length c2] 42)) := hb12.alloc hb12.size _
        have hi2 := hit2 (w2.alloc (.cells #[.int .i64 r.op, .int .i64 r.num, .slice A2 r.kids.length c2] 42)) _ ((ixOut_in hS2).below ((Below.refl _ _).alloc (Nat.le_refl _) _))
        clear hf0 hb1 hb2 hb12 hS2 hS2b hit2 b0 b1 b2
        go_wp2_with fail
        refine hi2.mono ?_
        rintro e w3 ⟨rfl, hb3⟩
        have hb14 := hb13.trans (hb3.mono hb13.size)
        clear hi2 hb3 hb13
        have hres9 := (HR.out w3 hb14).1
        obtain ⟨r0, r1, r2⟩ := IxK.row3 hres9
        have z0 := frozen_of_row _ _ 0 _ _ hres9
        have z1 := frozen_of_row _ _ 1 _ _ hres9
        have z2 := frozen_of_row _ _ 2 _ _ hres9
        have hbel := set3_below (HB0.out.trans (hb14.mono HB0.out.size)) (show w.heap.size ≤ w.heap.size + 1 by omega) (.int .i64 0) (.int .i64 0) (.slice none 0 0)
        have hpost : IxBPost ix0 false w (.returned (.tuple #[.agg #[.int .i64 0, .int .i64 0, .slice none 0 0], .bool false])) _ := ⟨none, 0, _, rfl, ownL_leafI 0 0, fun b hb => by simp at hb, hbel⟩
        clear hb14 HR HSZ HB0 hbel hres9
        go_wp2
        exact bodyPost_ret (v := .tuple #[.agg #[.int .i64 0, .int .i64 0, .slice none 0 0], .bool false]) (by simp [results, Try.results22, go_sem, r0, r1, r2]) rfl hpost
      | true =>
        rw [hq] at hit2
        rw [if_pos rfl]
        clear hq
        go_enter Try.func22, Try.ntmps22
        go_wp2_with fail
        refine hi0.mono ?_
        rintro e w1 ⟨rfl, hb1⟩
        obtain ⟨b0, b1, b2⟩ := IxK.row3 (HR.out w1 hb1).2
        have hf0 := hli w1 (HB0.out.trans (hb1.mono HB0.out.size))
        clear hi0 hli
        go_wp2_with fail
        refine hf0.mono ?_
        rintro e w2 ⟨A2, c2, S2, rfl, hS2, hS2b, hb2⟩
        have hb12 := hb1.trans (hb2.mono hb1.size)
        have hb13 : Below ((w.alloc (.cells #[.int .i64 t.op, .int .i64 t.num, .slice B t.kids.length d] 42)).alloc (.cells #[.int .i64 0, .int .i64 0, .slice none 0 0] 42)).heap.size ((w.alloc (.cells #[.int .i64 t.op, .int .i64 t.num, .slice B t.kids.length d] 42)).alloc (.cells #[.int .i64 0, .int .i64 0, .slice none 0 0] 42)) (w2.alloc (.cells #[.int .i64 r.op, .int .i64 r.num, .slice A2 r.kids.length c2] 42)) := hb12.alloc hb12.size _
        have hbx : Below w2.heap.size w2 (w2.alloc (.cells #[.int .i64 r.op, .int .i64 r.num, .slice A2 r.kids.length c2] 42)) := (Below.refl _ _).alloc (Nat.le_refl _) _
        have hi2 := hit2 (w2.alloc (.cells #[.int .i64 r.op, .int .i64 r.num, .slice A2 r.kids.length c2] 42)) _ ((ixOut_in hS2).below hbx)
        have hk2 := heap_alloc_new w2 (.cells #[.int .i64 r.op, .int .i64 r.num, .slice A2 r.kids.length c2] 42)
        have hSb : ∀ b ∈ S2, w.heap.size + 2 ≤ b ∧ b < w2.heap.size := fun b hb => ⟨by have h1 := hS2b b hb; have h3 := hb1.size; have h4 := HSZ.out; omega, hS2.lt b hb⟩
        have hS3 := hS2.alike (w' := (w2.alloc (.cells #[.int .i64 r.op, .int .i64 r.num, .slice A2 r.kids.length c2] 42))) (fun b hb => hbx.block b (hSb b hb).2)
        have hlt1 : w.heap.size + 1 < w2.heap.size := by have h1 := hb12.size; rw [HSZ.out] at h1; omega
        clear hf0 hb1 hb2 hb12 hbx hS2 hS2b hit2 b0 b1 b2
        go_wp2_with fail
        refine hi2.mono ?_
        rintro e w3 ⟨rfl, hb3⟩
        have hb14 := hb13.trans (hb3.mono hb13.size)
        have hr3 := (HR.out w3 hb14).1
        have hk3 := (hb3.block w2.heap.size (Args8S.box_lt hk2)).trans hk2
        obtain ⟨r0, r1, r2⟩ := IxK.row3 hr3
        obtain ⟨k0, k1, k2⟩ := IxK.row3 hk3
        have z0 := frozen_of_row _ _ 0 _ _ hr3
        have z1 := frozen_of_row _ _ 1 _ _ hr3
        have z2 := frozen_of_row _ _ 2 _ _ hr3
        have hne : w.heap.size + 1 ≠ w2.heap.size := Nat.ne_of_lt hlt1
        have hS4 := hS3.alike (w' := w3) (fun b hb => hb3.block b (hS3.lt b hb))
        have hL := set3_own hS4 (R := w.heap.size + 1) (fun b hb => by have := (hSb b hb).1; omega) (.int .i64 r.op) (.int .i64 r.num) (.slice A2 r.kids.length c2)
        have hbel := set3_below (HB0.out.trans (hb14.mono HB0.out.size)) (show w.heap.size ≤ w.heap.size + 1 by omega) (.int .i64 r.op) (.int .i64 r.num) (.slice A2 r.kids.length c2)
        have hpost : IxBPost r true w (.returned (.tuple #[.agg #[.int .i64 r.op, .int .i64 r.num, .slice A2 r.kids.length c2], .bool true])) _ := ⟨A2, c2, S2, rfl, hL, fun b hb => by have := (hSb b hb).1; omega, hbel⟩
        clear hi2 hb3 hb13 hb14 hr3 hk2 hk3 hbel hL hS3 hS4 hSb HR HSZ HB0 hlt1
        go_wp2
        exact bodyPost_ret (v := .tuple #[.agg #[.int .i64 r.op, .int .i64 r.num, .slice A2 r.kids.length c2], .bool true]) (by simp [results, Try.results22, go_sem, r0, r1, r2]) rfl hpost

end Go.Proofs.Ytihijigbdpjcoaa
end

