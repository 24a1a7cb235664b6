/-
  The paths of a term, in the model, as contracts.
-/
import Derived.Test.YtnnebndcjjdhoaaKPathsOf23
import Derived.Test.YtnnebndcjjdhoaaKPathsOf2
import Derived.Deep.Onto
namespace Go.Proofs.Ytnnebndcjjdhoaa
open Go.RowKit Go.Sort
set_option linter.unusedVariables false

def PathM (t : Tm) : Prop := ∀ (p : List Int) (A0 : Option Addr) (c0 : Nat) (x : Value) (w : World), TmIn w x t → IntsAt w A0 p → (A0 = none → c0 = 0) → p.length + szT t ≤ 4096 → Calls Try.prog 16 #[x, .slice A0 p.length c0] w (Pth.Post (pthT p t) [] w)
set_option maxRecDepth 100000 in
set_option maxHeartbeats 8000000 in
theorem l5Paths_step (t : Tm) (ih : ∀ i, i < t.kids.length → PathM (tmAt t.kids i)) : PathM t := by
  intro p A0 c0 x w hx hA hz hsz
  obtain ⟨Ap, cp, kv, rfl, hpp, hk⟩ := hx
  obtain ⟨Bk, dk, rfl⟩ := TmsIn.form hk
  have hks := kids_sz t
  have hse := szT_eq t
  have hb1 : Below w.heap.size w (w.alloc (.cells #[.int .i64 t.op, .int .i64 t.num, .slice Ap t.perm.length cp, .slice Bk t.kids.length dk] 32)) := (Below.refl _ _).alloc (Nat.le_refl _) _
  have hx1 := heap_alloc_new w (.cells #[.int .i64 t.op, .int .i64 t.num, .slice Ap t.perm.length cp, .slice Bk t.kids.length dk] 32)
  have hcp := l1Copy_ints A0 c0 p (w.alloc (.cells #[.int .i64 t.op, .int .i64 t.num, .slice Ap t.perm.length cp, .slice Bk t.kids.length dk] 32)) (hA.below hb1) hz (by omega)
  have HX1 := Lib.hid hx1
  have HB1 := Lib.hid hb1
  have HK := Lib.hid hk
  have HA := Lib.hid hA
  have HZ := Lib.hid hz
  have HIH := Lib.hid ih
  clear hb1 hx1 hk hA hz hpp ih
  go_enter Try.func16, Try.ntmps16
  go_wp2_with fail
  (with_reducible refine hcp.mono ?_)
  rintro e w1 ⟨v1, rfl, ho1, hb1⟩
  obtain ⟨S1, hS1, hS1b, _⟩ := own_intRow ho1
  obtain ⟨Ac, cc, rfl, _⟩ := own_intSlice hS1
  have hO2 := Pth.one_row hS1
  have hb2 : Below w1.heap.size w1 (w1.alloc (.cells #[.slice Ac p.length cc] 46)) := (Below.refl _ _).alloc (Nat.le_refl _) _
  have hx2 := (hb2.block _ (Pth.blt ((hb1.block _ (Pth.blt HX1.out)).trans HX1.out))).trans ((hb1.block _ (Pth.blt HX1.out)).trans HX1.out)
  obtain ⟨x0, x1, x2, x3⟩ := Pth.box4 hx2
  have hb01 := HB1.out.trans (hb1.mono HB1.out.size)
  have hbz := hb01.trans (hb2.mono hb01.size)
  have hsw := hb01.size
  have HRR : Hid (∀ b ∈ w1.heap.size :: S1, b ∈ ([] : List Nat) ∨ w.heap.size ≤ b) := Lib.hid (fun b hb => by
    have h9 := HB1.out.size
    rcases List.mem_cons.1 hb with h | h
    · exact .inr (by omega)
    · have := hS1b b h; exact .inr (by omega))
  have HO2 := Lib.hid hO2
  have HBZ := Lib.hid hbz
  clear hcp ho1 hb1 hS1 hS1b hO2 hb2 hx2 hb01 hbz HX1
  go_wp2
  clear x0 x1 x2 x3
  go_loopw [5, 6, 7, 14] (fun v5 _ _ i wr => ∃ (k : Nat) (T : List Nat), k ≤ t.kids.length ∧ i = .int .i64 k ∧ Own wr T v5 (rowsMem (p :: pthTs p 0 (t.kids.take k))) ∧ (∀ b ∈ T, b ∈ ([] : List Nat) ∨ w.heap.size ≤ b) ∧ (∀ b, v5.ownBlock = some b → w.heap.size ≤ b) ∧ Below w.heap.size w wr) (fun _ _ _ i _ => t.kids.length - (intOf i).toNat)
  case atStart => exact ⟨0, w1.heap.size :: S1, Nat.zero_le _, rfl, HO2.out, HRR.out, fun b hb => by simp [Value.ownBlock] at hb; omega, HBZ.out⟩
  case round =>
    obtain ⟨k, T, hkl, rfl, hO, hT, hg, hb⟩ := hrel
    by_cases hlt : k < t.kids.length
    · have hlen : (p :: pthTs p 0 (t.kids.take k)).length ≤ 1 + szTs t.kids := by
        rw [List.length_cons, pthTs_len]
        have := Pth.take_sz t.kids k
        omega
      obtain ⟨b, off, rfl, hbl, hc⟩ := (HK.out.below (hb.mono (Nat.le_refl _))).get (by omega)
      obtain ⟨A1, c1, kv, q0, q1, q2, q3, hp1, hk1⟩ := hc k hlt
      obtain ⟨B1, d1, rfl⟩ := TmsIn.form hk1
      have hy := HIH.out k hlt
      have hnx := pthTs_next (p := p) hlt
      have hys := szT_at hlt
      have hli : (k : Int) < (t.kids.length : Int) := by omega
      have hlk : (t.kids.length : Int) ≤ 4096 := by omega
      have hTI : ∀ W : World, Below wr.heap.size wr W → TmIn W (.agg #[.int .i64 (tmAt t.kids k).op, .int .i64 (tmAt t.kids k).num, .slice A1 (tmAt t.kids k).perm.length c1, .slice B1 (tmAt t.kids k).kids.length d1]) (tmAt t.kids k) := fun W h => ⟨A1, c1, _, rfl, hp1.below h, hk1.below h⟩
      have hpl := pthT_len (p ++ [(k : Int)]) (tmAt t.kids k)
      have hzp := szT_eq (tmAt t.kids k)
      generalize tmAt t.kids k = y at q0 q1 q2 q3 hy hnx hys hTI hpl hzp
      have hw3 : Below wr.heap.size wr (wr.alloc (.cells #[.int .i64 y.op, .int .i64 y.num, .slice A1 y.perm.length c1, .slice B1 y.kids.length d1] 32)) := (Below.refl _ _).alloc (Nat.le_refl _) _
      have hw4 : Below wr.heap.size wr ((wr.alloc (.cells #[.int .i64 y.op, .int .i64 y.num, .slice A1 y.perm.length c1, .slice B1 y.kids.length d1] 32)).alloc (.cells #[.int .i64 k] 3)) := hw3.alloc (by rw [World.size_alloc]; omega) _
      have e1 := heap_alloc_new wr (.cells #[.int .i64 y.op, .int .i64 y.num, .slice A1 y.perm.length c1, .slice B1 y.kids.length d1] 32)
      have e2 := heap_alloc_new (wr.alloc (.cells #[.int .i64 y.op, .int .i64 y.num, .slice A1 y.perm.length c1, .slice B1 y.kids.length d1] 32)) (.cells #[.int .i64 k] 3)
      rw [World.size_alloc] at e2
      have e1a := (Below.heap_alloc (wr.alloc (.cells #[.int .i64 y.op, .int .i64 y.num, .slice A1 y.perm.length c1, .slice B1 y.kids.length d1] 32)) (.cells #[.int .i64 k] 3) _ (Pth.blt e1)).trans e1
      have hAw := HA.out.below (hb.mono (Nat.le_refl _))
      have hcp1 := l1Copy_ints A0 c0 p ((wr.alloc (.cells #[.int .i64 y.op, .int .i64 y.num, .slice A1 y.perm.length c1, .slice B1 y.kids.length d1] 32))).drew (IntsAt.below hAw hw3.drew) HZ.out (by omega)
      have hcp2 := l1Copy_ints A0 c0 p (((wr.alloc (.cells #[.int .i64 y.op, .int .i64 y.num, .slice A1 y.perm.length c1, .slice B1 y.kids.length d1] 32)).alloc (.cells #[.int .i64 k] 3))).drew (IntsAt.below hAw hw4.drew) HZ.out (by omega)
      have E1 : Hid (((wr.alloc (.cells #[.int .i64 y.op, .int .i64 y.num, .slice A1 y.perm.length c1, .slice B1 y.kids.length d1] 32))).drew.heap[wr.heap.size]? = _) := Lib.hid e1
      have E2 : Hid ((((wr.alloc (.cells #[.int .i64 y.op, .int .i64 y.num, .slice A1 y.perm.length c1, .slice B1 y.kids.length d1] 32)).alloc (.cells #[.int .i64 k] 3))).drew.heap[wr.heap.size]? = _) := Lib.hid e1a
      have E3 : Hid ((((wr.alloc (.cells #[.int .i64 y.op, .int .i64 y.num, .slice A1 y.perm.length c1, .slice B1 y.kids.length d1] 32)).alloc (.cells #[.int .i64 k] 3))).drew.heap[wr.heap.size + 1]? = _) := Lib.hid e2
      have HW3 : Hid (Below wr.heap.size wr ((wr.alloc (.cells #[.int .i64 y.op, .int .i64 y.num, .slice A1 y.perm.length c1, .slice B1 y.kids.length d1] 32))).drew) := Lib.hid hw3.drew
      have HW4 : Hid (Below wr.heap.size wr (((wr.alloc (.cells #[.int .i64 y.op, .int .i64 y.num, .slice A1 y.perm.length c1, .slice B1 y.kids.length d1] 32)).alloc (.cells #[.int .i64 k] 3))).drew) := Lib.hid hw4.drew
      have HL3 : Hid (wr.heap.size ≤ ((wr.alloc (.cells #[.int .i64 y.op, .int .i64 y.num, .slice A1 y.perm.length c1, .slice B1 y.kids.length d1] 32))).drew.heap.size) := Lib.hid hw3.size
      have HL4 : Hid (wr.heap.size ≤ (((wr.alloc (.cells #[.int .i64 y.op, .int .i64 y.num, .slice A1 y.perm.length c1, .slice B1 y.kids.length d1] 32)).alloc (.cells #[.int .i64 k] 3))).drew.heap.size) := Lib.hid hw4.size
      have HL3b : Hid (wr.heap.size + 1 ≤ ((wr.alloc (.cells #[.int .i64 y.op, .int .i64 y.num, .slice A1 y.perm.length c1, .slice B1 y.kids.length d1] 32))).drew.heap.size) := Lib.hid (by show wr.heap.size + 1 ≤ ((wr.alloc (.cells #[.int .i64 y.op, .int .i64 y.num, .slice A1 y.perm.length c1, .slice B1 y.kids.length d1] 32))).heap.size; rw [World.size_alloc]; omega)
      have HL4b : Hid (wr.heap.size + 1 ≤ (((wr.alloc (.cells #[.int .i64 y.op, .int .i64 y.num, .slice A1 y.perm.length c1, .slice B1 y.kids.length d1] 32)).alloc (.cells #[.int .i64 k] 3))).drew.heap.size) := Lib.hid (by show wr.heap.size + 1 ≤ (((wr.alloc (.cells #[.int .i64 y.op, .int .i64 y.num, .slice A1 y.perm.length c1, .slice B1 y.kids.length d1] 32)).alloc (.cells #[.int .i64 k] 3))).heap.size; rw [World.size_alloc, World.size_alloc]; omega)
      have HTI := Lib.hid hTI
      have HO := Lib.hid hO
      have HNB : Hid (∀ b, u5.ownBlock = some b → b < wr.heap.size) := Lib.hid (fun b hb => by obtain ⟨_, _, h1, _⟩ := own_split hO; exact (h1.lt b hb).2)
      have HY := Lib.hid hy
      have HPL := Lib.hid hpl
      have HZP := Lib.hid hzp
      obtain ⟨f0, f1, f2, f3⟩ := Pth.box4 (w := (wr.alloc (.cells #[.int .i64 y.op, .int .i64 y.num, .slice A1 y.perm.length c1, .slice B1 y.kids.length d1] 32)).drew) e1
      clear hw3 hw4 e1 e2 e1a hAw hTI hO hy hc hp1 hk1
      go_upto_region 5 with fail
      clear q0 q1 q2 q3
      go_region_held3 (fun w' => w'.cell? ⟨wr.heap.size, 0, none⟩ = some (.int .i64 y.op) ∧ w'.cell? ⟨wr.heap.size, 1, none⟩ = some (.int .i64 y.num) ∧ w'.cell? ⟨wr.heap.size, 2, none⟩ = some (.slice A1 y.perm.length c1) ∧ w'.cell? ⟨wr.heap.size, 3, none⟩ = some (.slice B1 y.kids.length d1))
        (first | (with_reducible exact ⟨by assumption, by assumption, by assumption, by assumption⟩) | (go_split_ands; with_reducible exact ⟨Pth.drew_al (by assumption), Pth.drew_al (by assumption), Pth.drew_al (by assumption), Pth.drew_al (by assumption)⟩) | go_keep)
      (first
        | (go_at_call 30; first | ((with_reducible refine hcp1.mono ?_); rintro e w4 ⟨v4, rfl, ho4, hb4⟩; have hb34 := HW3.out.trans (hb4.mono HW3.out.size); have e14 := (hb4.block _ (Pth.blt E1.out)).trans E1.out; have hlit : Below w4.heap.size w4 (w4.alloc (.cells #[.int .i64 k] 3)) := (Below.refl _ _).alloc (Nat.le_refl _) _; have e15 := (hlit.block _ (Pth.blt e14)).trans e14; obtain ⟨g0, g1, g2, g3⟩ := Pth.box4 e14; obtain ⟨g4, g5, g6, g7⟩ := Pth.box4 e15; have hoX := (ho4.mono HL3.out).alloc (.cells #[.int .i64 k] 3); have hAX : IntsAt (w4.alloc (.cells #[.int .i64 k] 3)) (some ⟨w4.heap.size, 0, none⟩) [(k : Int)] := Pth.lit1b (heap_alloc_new w4 _); have hBX := hb34.trans (hlit.mono hb34.size); have hnb : ∀ b, v4.ownBlock = some b → wr.heap.size + 1 ≤ b := (fun b hb => by have h1 := (ho4.lt b hb).1; have h2 := HL3b.out; omega)) | ((with_reducible refine hcp2.mono ?_); rintro e w4 ⟨v4, rfl, ho4, hb4⟩; have hb34 := HW4.out.trans (hb4.mono HW4.out.size); have e15 := (hb4.block _ (Pth.blt E2.out)).trans E2.out; obtain ⟨g0, g1, g2, g3⟩ := Pth.box4 e15; have hoX := ho4.mono HL4.out; have hAX : IntsAt w4 (some ⟨wr.heap.size + 1, 0, none⟩) [(k : Int)] := (Pth.lit1b E3.out).below hb4; have hBX := hb34; have hnb : ∀ b, v4.ownBlock = some b → wr.heap.size + 1 ≤ b := (fun b hb => by have h1 := (ho4.lt b hb).1; have h2 := HL4b.out; omega)))
        | (refine step_append_intsG (by rfl) _ _ (by rfl) wr.heap.size _ p.length _ (by rfl) hoX _ 1 [(k : Int)] (by rfl) hAX (by simp; omega) hBX.size ?_; intro v6 w6 ho6 hg6; have e16 := (hg6.block _ (Pth.blt e15) (fun e => by have := hnb _ e.symm; omega)).trans e15; obtain ⟨j0, j1, j2, j3⟩ := Pth.box4 e16; have hb6 := hBX.grown hg6 hBX.size (fun q e => by have := hnb _ e; omega); have ho6b : w6.ownsRow wr.heap.size 3 1 v6 (p ++ [(k : Int)]).length (icells (p ++ [(k : Int)])) := (by rw [List.length_append, icells_append]; exact ho6); obtain ⟨A6, c6, rfl, hA6⟩ := own_intsAt ho6b; have hz6 : A6 = none → c6 = 0 := (fun e => by obtain ⟨_, _, e2, _⟩ := hA6 (by simp); rw [e] at e2; cases e2); have hrec := HY.out (p ++ [(k : Int)]) A6 c6 _ w6 (HTI.out w6 hb6) hA6 hz6 (by rw [List.length_append, List.length_singleton]; omega); rw [show (p ++ [(k : Int)]).length = p.length + 1 by simp] at hrec)
        | (go_at_call 16; (with_reducible refine hrec.mono ?_); rintro e w7 ⟨v7, T7, rfl, hO7, hT7, hb7⟩; have hb37 := hb6.trans (hb7.mono hb6.size); have hO7a := HO.out.alike (w' := w7) (fun b hb => hb37.block b (HO.out.lt b hb)); have e17 := (hb7.block _ (Pth.blt e16)).trans e16; obtain ⟨m0, m1, m2, m3⟩ := Pth.box4 e17; have hdj : ∀ b ∈ T, b ∉ T7 := (fun b h1 h2 => by have h3 := HO.out.lt b h1; have h7 := hb6.size; rcases hT7 b h2 with h4 | h4; (cases h4); omega))
        | (refine step_append_many (by rfl) _ _ (by rfl) _ T _ (by rfl) hO7a _ _ T7 (by rfl) hO7 (by rw [hpl]; omega) hdj (by rw [hpl]; omega) ?_; intro g8 cap8 T8 w8 hO8 hT8 hg8 hg8b; have e18 := (hg8.block _ (Pth.blt e17) (fun e => by have := HNB.out _ e.symm; omega)).trans e17; obtain ⟨h0, h1, h2, h3⟩ := Pth.box4 e18)
        | fail)
      all_goals
        have hw6 := hb6.size
        have HT8 : Hid (∀ b ∈ T8, b ∈ ([] : List Nat) ∨ w.heap.size ≤ b) := Lib.hid (fun b hbm => by
          have h7 := hb.size; have h6 := hb7.size
          rcases hT8 b hbm with h1 | h1 | h1
          · exact hT b h1
          · rcases hT7 b h1 with h2 | h2
            · cases h2
            · exact .inr (by omega)
          · exact .inr (by omega))
        have HB8 : Hid (Below w.heap.size w w8) := Lib.hid ((hb.trans (hb37.mono hb.size)).grown hg8 (hb.trans (hb37.mono hb.size)).size (fun q e => hg q e))
        have hO9 : Own w8 T8 (.slice (some ⟨g8, 0, none⟩) ((p :: pthTs p 0 (t.kids.take k)).length + (pthT (p ++ [(k : Int)]) y).length) cap8) (rowsMem (p :: pthTs p 0 (t.kids.take (k + 1)))) := by rw [hnx, ← List.cons_append]; exact hO8
        have HO9 := Lib.hid hO9
        have HG8 : Hid (w.heap.size ≤ g8) := Lib.hid (by
          have h7 := hb.size; have h6 := hb7.size
          rcases hg8b with h1 | h1
          · exact hg g8 h1
          · omega)
        clear hpl hzp hO8 hO9 hT8 hg8 hg8b hO7 hO7a hT7 hb7 hb37 hb4 hb6 hdj
        go_wp2
        refine ⟨⟨k + 1, T8, by omega, by go_num, by have h := HO9.out; rw [List.length_cons, HPL.out, HZP.out] at h; exact h, HT8.out, fun b hb => by simp [Value.ownBlock] at hb; have := HG8.out; omega, HB8.out⟩, ?_⟩
        simp only [intOf]
        omega
    · have e : k = t.kids.length := by omega
      subst e
      rw [List.take_length, ← pthT_eq] at hO
      go_wp2
      go_ret
      exact ⟨_, T, rfl, hO, hT, hb⟩

theorem l5Paths_any : ∀ (n : Nat) (t : Tm), szT t ≤ n → PathM t
  | 0, t, h => by have := szT_eq t; omega
  | n + 1, t, h => l5Paths_step t fun i hi => l5Paths_any n (tmAt t.kids i) (by have := szT_eq t; have := szT_at hi; omega)
set_option maxRecDepth 100000 in
set_option maxHeartbeats 4000000 in
theorem pathsOf_spec (t : Tm) (hf : cntT t ≤ 1048576) (x : Value) (w : World) (hx : TmIn w x t) : Calls Try.prog 5 #[x] w (RowsOut (pathsR t) w) := by
  have hX := hx
  obtain ⟨Ap, cp, kv, rfl, hpp, hk⟩ := hx
  obtain ⟨Bk, dk, rfl⟩ := TmsIn.form hk
  have hb1 : Below w.heap.size w (w.alloc (.cells #[.int .i64 t.op, .int .i64 t.num, .slice Ap t.perm.length cp, .slice Bk t.kids.length dk] 32)) := (Below.refl _ _).alloc (Nat.le_refl _) _
  have hx1 := heap_alloc_new w (.cells #[.int .i64 t.op, .int .i64 t.num, .slice Ap t.perm.length cp, .slice Bk t.kids.length dk] 32)
  have his := isTerm_spec t _ _ (hX.below hb1) hf
  obtain ⟨x0, x1, x2, x3⟩ := Pth.box4 hx1
  have HX1 := Lib.hid hx1
  have HB1 := Lib.hid hb1
  have HX := Lib.hid hX
  clear hx1 hb1 hX hpp hk
  unfold pathsR
  cases hb : isTermB t with
  | false =>
    rw [hb] at his
    go_enter Try.func5, Try.ntmps5
    go_wp2_with fail
    (with_reducible refine his.mono ?_)
    rintro e w2 ⟨rfl, hb2⟩
    have hbz := HB1.out.trans (hb2.mono HB1.out.size)
    have hb3 : Below w2.heap.size w2 (w2.alloc (.cells #[] 46)) := (Below.refl _ _).alloc (Nat.le_refl _) _
    have hpost : Hid (RowsOut [] w (.returned (.slice (some ⟨w2.heap.size, 0, none⟩) 0 0)) (w2.alloc (.cells #[] 46))) := Lib.hid ⟨_, _, rfl, own_lit0 w2, fun b h => by simp at h; have := hbz.size; omega, hbz.trans (hb3.mono hbz.size)⟩
    clear his hb2 hbz hb3 x0 x1 x2 x3
    go_wp2
    go_ret
    exact hpost.out
  | true =>
    rw [hb] at his
    have h60 : szT t ≤ 60 := by unfold isTermB at hb; simp at hb; exact hb.2
    go_enter Try.func5, Try.ntmps5
    go_wp2_with fail
    (with_reducible refine his.mono ?_)
    rintro e w2 ⟨rfl, hb2⟩
    have hbz := HB1.out.trans (hb2.mono HB1.out.size)
    have hpf := l5Paths_any 60 t h60 [] none 0 _ w2 (HX.out.below (hbz.mono (Nat.le_refl _))) (fun h => by simp at h) (fun _ => rfl) (by simp; omega)
    rw [show ([] : List Int).length = 0 from rfl] at hpf
    have e3 := (hb2.block _ (Pth.blt HX1.out)).trans HX1.out
    obtain ⟨y0, y1, y2, y3⟩ := Pth.box4 e3
    have HZ := Lib.hid hbz
    have h12 := hbz.size
    clear his hb2 hbz e3 x0 x1 x2 x3
    go_wp2_with fail
    (with_reducible refine hpf.mono ?_)
    rintro e w4 ⟨v, T, rfl, hO, hT, hb4⟩
    have hpost : Hid (RowsOut (pthT [] t) w (.returned v) w4) := Lib.hid ⟨v, T, rfl, hO, fun b hbm => by
      rcases hT b hbm with h1 | h1
      · cases h1
      · omega, HZ.out.trans (hb4.mono HZ.out.size)⟩
    clear hpf hO hT hb4 y0 y1 y2 y3
    go_wp2
    go_ret
    exact hpost.out
end Go.Proofs.Ytnnebndcjjdhoaa
