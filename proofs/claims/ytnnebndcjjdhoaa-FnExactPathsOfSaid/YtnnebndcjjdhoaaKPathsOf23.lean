/-
  The paths below a term, in the program, as a contract.
-/
import Derived.Test.YtnnebndcjjdhoaaKPathsOf14
import Derived.Test.YtnnebndcjjdhoaaKPathsOf21
import Derived.Test.YtnnebndcjjdhoaaKPathsOf22
import Derived.Test.YtnnebndcjjdhoaaKPathsOf18
import Derived.Deep.RegionHeld3
import Derived.Deep.DeepCutAuto
namespace Go.Proofs.Ytnnebndcjjdhoaa
open Go.RowKit Go.Sort
set_option linter.unusedVariables false

def PathI (t : Tm) : Prop := ∀ (p : List Int) (vp x : Value) (R : List Nat) (w : World), TmIn w x t → Own w R vp (intMem p) → p.length + szT t ≤ 4096 → Calls Try.prog 20 #[vp, x] w (Pth.Post (pthT p t) R w)
theorem kids_sz (t : Tm) : t.kids.length ≤ szTs t.kids := by
  have h : ∀ l : List Tm, l.length ≤ szTs l := fun l => by
    induction l with
    | nil => simp [szTs]
    | cons a r ih => rw [szTs, List.length_cons, szT_eq a]; omega
  exact h _
set_option maxRecDepth 100000 in
set_option maxHeartbeats 8000000 in
theorem pathsFrom_step (t : Tm) (ih : ∀ i, i < t.kids.length → PathI (tmAt t.kids i)) : PathI t := by
  intro p vp x R w hx hR hsz
  obtain ⟨A0, c0, rfl, hA, hz⟩ := own_intSlice hR
  obtain ⟨Ap, cp, kv, rfl, hpp, hk⟩ := hx
  obtain ⟨Bk, dk, rfl⟩ := TmsIn.form hk
  have hks := kids_sz t
  have hse := szT_eq t
  have hb1 : Below w.heap.size w (w.alloc (.cells #[.int .i64 t.op, .int .i64 t.num, .slice Ap t.perm.length cp, .slice Bk t.kids.length dk] 32)) := (Below.refl _ _).alloc (Nat.le_refl _) _
  have hR1 := hR.alike (w' := w.alloc (.cells #[.int .i64 t.op, .int .i64 t.num, .slice Ap t.perm.length cp, .slice Bk t.kids.length dk] 32)) (fun b hb => hb1.block b (hR.lt b hb))
  have hO2 := Pth.one_row hR1
  have hb2 : Below (w.alloc (.cells #[.int .i64 t.op, .int .i64 t.num, .slice Ap t.perm.length cp, .slice Bk t.kids.length dk] 32)).heap.size (w.alloc (.cells #[.int .i64 t.op, .int .i64 t.num, .slice Ap t.perm.length cp, .slice Bk t.kids.length dk] 32)) ((w.alloc (.cells #[.int .i64 t.op, .int .i64 t.num, .slice Ap t.perm.length cp, .slice Bk t.kids.length dk] 32)).alloc (.cells #[.slice A0 p.length c0] 46)) := (Below.refl _ _).alloc (Nat.le_refl _) _
  have hbz := hb1.trans (hb2.mono hb1.size)
  have hx1 := heap_alloc_new w (.cells #[.int .i64 t.op, .int .i64 t.num, .slice Ap t.perm.length cp, .slice Bk t.kids.length dk] 32)
  have hx2 := (hb2.block w.heap.size (Pth.blt hx1)).trans hx1
  obtain ⟨x0, x1, x2, x3⟩ := Pth.box4 hx2
  rw [World.size_alloc] at hO2
  have HRR : Hid (∀ b ∈ (w.heap.size + 1) :: R, b ∈ R ∨ w.heap.size ≤ b) := Lib.hid (fun b hb => by rcases List.mem_cons.1 hb with h | h; exact .inr (by omega); exact .inl h)
  have HO2 := Lib.hid hO2
  have HBZ := Lib.hid hbz
  have HRW := Lib.hid hR
  have HK := Lib.hid hk
  have HA := Lib.hid hA
  have HIH := Lib.hid ih
  clear hb1 hR1 hO2 hb2 hbz hx1 hx2 hR hk hA hpp ih
  go_enter Try.func20, Try.ntmps20
  go_wp2
  clear x0 x1 x2 x3
  go_loopw [5, 6, 7, 13] (fun v5 _ _ i wr => ∃ (k : Nat) (T : List Nat), k ≤ t.kids.length ∧ i = .int .i64 k ∧ Own wr T v5 (rowsMem (p :: pthTs p 0 (t.kids.take k))) ∧ (∀ b ∈ T, b ∈ R ∨ w.heap.size ≤ b) ∧ (∀ b, v5.ownBlock = some b → w.heap.size ≤ b) ∧ Below w.heap.size w wr) (fun _ _ _ i _ => t.kids.length - (intOf i).toNat)
  case atStart => exact ⟨0, (w.heap.size + 1) :: R, Nat.zero_le _, rfl, HO2.out, HRR.out, fun b hb => by simp [Value.ownBlock] at hb; omega, HBZ.out⟩
  case round =>
    obtain ⟨k, T, hkl, rfl, hO, hT, hg, hb⟩ := hrel
    by_cases hlt : k < t.kids.length
    · have hlen : (p :: pthTs p 0 (t.kids.take k)).length ≤ 1 + szTs t.kids := by
        rw [List.length_cons, pthTs_len]
        have := Pth.take_sz t.kids k
        omega
      obtain ⟨b, off, rfl, hbl, hc⟩ := (HK.out.below (hb.mono (Nat.le_refl _))).get (by omega)
      obtain ⟨A1, c1, kv, q0, q1, q2, q3, hp1, hk1⟩ := hc k hlt
      obtain ⟨B1, d1, rfl⟩ := TmsIn.form hk1
      have hy := HIH.out k hlt
      have hnx := pthTs_next (p := p) hlt
      have hys := szT_at hlt
      have hli : (k : Int) < (t.kids.length : Int) := by omega
      have hlk : (t.kids.length : Int) ≤ 4096 := by omega
      have hTI : ∀ W : World, Below wr.heap.size wr W → TmIn W (.agg #[.int .i64 (tmAt t.kids k).op, .int .i64 (tmAt t.kids k).num, .slice A1 (tmAt t.kids k).perm.length c1, .slice B1 (tmAt t.kids k).kids.length d1]) (tmAt t.kids k) := fun W h => ⟨A1, c1, _, rfl, hp1.below h, hk1.below h⟩
      have hpl := pthT_len (p ++ [(k : Int)]) (tmAt t.kids k)
      have hzp := szT_eq (tmAt t.kids k)
      generalize tmAt t.kids k = y at q0 q1 q2 q3 hy hnx hys hTI hpl hzp
      have hw3 : Below wr.heap.size wr (wr.alloc (.cells #[.int .i64 y.op, .int .i64 y.num, .slice A1 y.perm.length c1, .slice B1 y.kids.length d1] 32)) := (Below.refl _ _).alloc (Nat.le_refl _) _
      have hw4 : Below wr.heap.size wr ((wr.alloc (.cells #[.int .i64 y.op, .int .i64 y.num, .slice A1 y.perm.length c1, .slice B1 y.kids.length d1] 32)).alloc (.cells #[.int .i64 k] 3)) := hw3.alloc (by rw [World.size_alloc]; omega) _
      have hw5 : Below wr.heap.size wr (((wr.alloc (.cells #[.int .i64 y.op, .int .i64 y.num, .slice A1 y.perm.length c1, .slice B1 y.kids.length d1] 32)).alloc (.cells #[.int .i64 k] 3)).alloc (.cells #[.slice A0 p.length c0, .slice (some ⟨wr.heap.size + 1, 0, none⟩) 1 1] 46)) := hw4.alloc (by rw [World.size_alloc, World.size_alloc]; omega) _
      have e1 := heap_alloc_new wr (.cells #[.int .i64 y.op, .int .i64 y.num, .slice A1 y.perm.length c1, .slice B1 y.kids.length d1] 32)
      have e2 := heap_alloc_new (wr.alloc (.cells #[.int .i64 y.op, .int .i64 y.num, .slice A1 y.perm.length c1, .slice B1 y.kids.length d1] 32)) (.cells #[.int .i64 k] 3)
      have e3 := heap_alloc_new ((wr.alloc (.cells #[.int .i64 y.op, .int .i64 y.num, .slice A1 y.perm.length c1, .slice B1 y.kids.length d1] 32)).alloc (.cells #[.int .i64 k] 3)) (.cells #[.slice A0 p.length c0, .slice (some ⟨wr.heap.size + 1, 0, none⟩) 1 1] 46)
      rw [World.size_alloc] at e2
      rw [World.size_alloc, World.size_alloc] at e3
      have e1a := (Below.heap_alloc (wr.alloc (.cells #[.int .i64 y.op, .int .i64 y.num, .slice A1 y.perm.length c1, .slice B1 y.kids.length d1] 32)) (.cells #[.int .i64 k] 3) _ (Pth.blt e1)).trans e1
      have e1b := (Below.heap_alloc ((wr.alloc (.cells #[.int .i64 y.op, .int .i64 y.num, .slice A1 y.perm.length c1, .slice B1 y.kids.length d1] 32)).alloc (.cells #[.int .i64 k] 3)) (.cells #[.slice A0 p.length c0, .slice (some ⟨wr.heap.size + 1, 0, none⟩) 1 1] 46) _ (Pth.blt e1a)).trans e1a
      have e2b := (Below.heap_alloc ((wr.alloc (.cells #[.int .i64 y.op, .int .i64 y.num, .slice A1 y.perm.length c1, .slice B1 y.kids.length d1] 32)).alloc (.cells #[.int .i64 k] 3)) (.cells #[.slice A0 p.length c0, .slice (some ⟨wr.heap.size + 1, 0, none⟩) 1 1] 46) _ (Pth.blt e2)).trans e2
      have hAc : IntsAt (((wr.alloc (.cells #[.int .i64 y.op, .int .i64 y.num, .slice A1 y.perm.length c1, .slice B1 y.kids.length d1] 32)).alloc (.cells #[.int .i64 k] 3)).alloc (.cells #[.slice A0 p.length c0, .slice (some ⟨wr.heap.size + 1, 0, none⟩) 1 1] 46)) A0 p := (HA.out.below (hb.mono (Nat.le_refl _))).below hw5
      have hcat := concat_any (some ⟨wr.heap.size + 1 + 1, 0, none⟩) 2 [p, [(k : Int)]] ((((wr.alloc (.cells #[.int .i64 y.op, .int .i64 y.num, .slice A1 y.perm.length c1, .slice B1 y.kids.length d1] 32)).alloc (.cells #[.int .i64 k] 3)).alloc (.cells #[.slice A0 p.length c0, .slice (some ⟨wr.heap.size + 1, 0, none⟩) 1 1] 46))).drew (Pth.cat2 (w := ((((wr.alloc (.cells #[.int .i64 y.op, .int .i64 y.num, .slice A1 y.perm.length c1, .slice B1 y.kids.length d1] 32)).alloc (.cells #[.int .i64 k] 3)).alloc (.cells #[.slice A0 p.length c0, .slice (some ⟨wr.heap.size + 1, 0, none⟩) 1 1] 46))).drew) hAc hz e2b e3) (by simp) (by simp [sumR]; omega)
      rw [show [p, [(k : Int)]].flatten = p ++ [(k : Int)] by simp, show [p, [(k : Int)]].length = 2 from rfl] at hcat
      have E1 := Lib.hid e1b
      have HW5 : Hid (Below wr.heap.size wr ((((wr.alloc (.cells #[.int .i64 y.op, .int .i64 y.num, .slice A1 y.perm.length c1, .slice B1 y.kids.length d1] 32)).alloc (.cells #[.int .i64 k] 3)).alloc (.cells #[.slice A0 p.length c0, .slice (some ⟨wr.heap.size + 1, 0, none⟩) 1 1] 46))).drew) := Lib.hid hw5.drew
      have HTI := Lib.hid hTI
      have HO := Lib.hid hO
      have HNB : Hid (∀ b, u5.ownBlock = some b → b < wr.heap.size) := Lib.hid (fun b hb => by obtain ⟨_, _, h1, _⟩ := own_split hO; exact (h1.lt b hb).2)
      have HY := Lib.hid hy
      have HPL := Lib.hid hpl
      have HZP := Lib.hid hzp
      obtain ⟨f0, f1, f2, f3⟩ := Pth.box4 (w := (wr.alloc (.cells #[.int .i64 y.op, .int .i64 y.num, .slice A1 y.perm.length c1, .slice B1 y.kids.length d1] 32)).drew) e1
      have hzz : wr.heap.size + 3 ≤ ((((wr.alloc (.cells #[.int .i64 y.op, .int .i64 y.num, .slice A1 y.perm.length c1, .slice B1 y.kids.length d1] 32)).alloc (.cells #[.int .i64 k] 3)).alloc (.cells #[.slice A0 p.length c0, .slice (some ⟨wr.heap.size + 1, 0, none⟩) 1 1] 46))).drew.heap.size := by
        show wr.heap.size + 3 ≤ ((((wr.alloc (.cells #[.int .i64 y.op, .int .i64 y.num, .slice A1 y.perm.length c1, .slice B1 y.kids.length d1] 32)).alloc (.cells #[.int .i64 k] 3)).alloc (.cells #[.slice A0 p.length c0, .slice (some ⟨wr.heap.size + 1, 0, none⟩) 1 1] 46))).heap.size
        rw [World.size_alloc, World.size_alloc, World.size_alloc]
        omega
      have HZZ := Lib.hid hzz
      clear hw3 hw4 hw5 e1 e2 e3 e1a e1b e2b hAc hTI hO hy hc hp1 hk1 hzz
      go_upto_region 5 with fail
      clear q0 q1 q2 q3
      go_region_held3 (fun w' => w'.cell? ⟨wr.heap.size, 0, none⟩ = some (.int .i64 y.op) ∧ w'.cell? ⟨wr.heap.size, 1, none⟩ = some (.int .i64 y.num) ∧ w'.cell? ⟨wr.heap.size, 2, none⟩ = some (.slice A1 y.perm.length c1) ∧ w'.cell? ⟨wr.heap.size, 3, none⟩ = some (.slice B1 y.kids.length d1))
        (first | (with_reducible exact ⟨by assumption, by assumption, by assumption, by assumption⟩) | (go_split_ands; with_reducible exact ⟨Pth.drew_al (by assumption), Pth.drew_al (by assumption), Pth.drew_al (by assumption), Pth.drew_al (by assumption)⟩) | go_keep)
        (first
        | (go_at_call 33; (with_reducible refine hcat.mono ?_); rintro e w4 ⟨v4, rfl, ho4, hb4⟩; obtain ⟨S4, hS4, hS4b, _⟩ := own_intRow ho4; obtain ⟨Ac, cc, rfl, _⟩ := own_intSlice hS4; have e14 := (hb4.block _ (Pth.blt E1.out)).trans E1.out; obtain ⟨g0, g1, g2, g3⟩ := Pth.box4 e14; have hbw4 := HW5.out.trans (hb4.mono HW5.out.size); have hrec := HY.out (p ++ [(k : Int)]) _ _ S4 w4 (HTI.out w4 hbw4) hS4 (by rw [List.length_append, List.length_singleton]; omega); rw [show (p ++ [(k : Int)]).length = p.length + 1 by simp] at hrec)
        | (go_at_call 20; (with_reducible refine hrec.mono ?_); rintro e w5 ⟨v5b, T5, rfl, hO5, hT5, hb5⟩; have hb35 := hbw4.trans (hb5.mono hbw4.size); have hO5a := HO.out.alike (w' := w5) (fun b hb => hb35.block b (HO.out.lt b hb)); have e15 := (hb5.block _ (Pth.blt e14)).trans e14; obtain ⟨g4, g5, g6, g7⟩ := Pth.box4 e15; have hdj : ∀ b ∈ T, b ∉ T5 := (fun b h1 h2 => by have h3 := HO.out.lt b h1; have h6 := HZZ.out; have h7 := hb4.size; rcases hT5 b h2 with h4 | h4; (have h5 := hS4b b h4; omega); omega))
        | (refine step_append_many (by rfl) _ _ (by rfl) _ T _ (by rfl) hO5a _ _ T5 (by rfl) hO5 (by rw [hpl]; omega) hdj (by rw [hpl]; omega) ?_; intro g8 cap8 T8 w8 hO8 hT8 hg8 hg8b; have e18 := (hg8.block _ (Pth.blt e15) (fun e => by have := HNB.out _ e.symm; omega)).trans e15; obtain ⟨h0, h1, h2, h3⟩ := Pth.box4 e18)
        | fail)
      all_goals
        have HT8 : Hid (∀ b ∈ T8, b ∈ R ∨ w.heap.size ≤ b) := Lib.hid (fun b hbm => by
          have h9 := HZZ.out; have h8 := hb4.size; have h7 := hb.size; have h6 := hb5.size
          rcases hT8 b hbm with h1 | h1 | h1
          · exact hT b h1
          · rcases hT5 b h1 with h2 | h2
            · have := hS4b b h2; exact .inr (by omega)
            · exact .inr (by omega)
          · exact .inr (by omega))
        have HB8 : Hid (Below w.heap.size w w8) := Lib.hid ((hb.trans (hb35.mono hb.size)).grown hg8 (hb.trans (hb35.mono hb.size)).size (fun q e => hg q e))
        have hO9 : Own w8 T8 (.slice (some ⟨g8, 0, none⟩) ((p :: pthTs p 0 (t.kids.take k)).length + (pthT (p ++ [(k : Int)]) y).length) cap8) (rowsMem (p :: pthTs p 0 (t.kids.take (k + 1)))) := by rw [hnx, ← List.cons_append]; exact hO8
        have HO9 := Lib.hid hO9
        have HG8 : Hid (w.heap.size ≤ g8) := Lib.hid (by
          have h9 := HZZ.out; have h8 := hb4.size; have h7 := hb.size; have h6 := hb5.size
          rcases hg8b with h1 | h1
          · exact hg g8 h1
          · omega)
        clear hpl hzp hO8 hO9 hT8 hg8 hg8b hO5 hO5a hT5 hb5 hb35 hb4 hbw4 hdj
        go_wp2
        refine ⟨⟨k + 1, T8, by omega, by go_num, by have h := HO9.out; rw [List.length_cons, HPL.out, HZP.out] at h; exact h, HT8.out, fun b hb => by simp [Value.ownBlock] at hb; have := HG8.out; omega, HB8.out⟩, ?_⟩
        simp only [intOf]
        omega
    · have e : k = t.kids.length := by omega
      subst e
      rw [List.take_length, ← pthT_eq] at hO
      go_wp2
      go_ret
      exact ⟨_, T, rfl, hO, hT, hb⟩

theorem pathsFrom_any : ∀ (n : Nat) (t : Tm), szT t ≤ n → PathI t
  | 0, t, h => by have := szT_eq t; omega
  | n + 1, t, h => pathsFrom_step t fun i hi => pathsFrom_any n (tmAt t.kids i) (by have := szT_eq t; have := szT_at hi; omega)
def pathsR (t : Tm) : List (List Int) := if isTermB t then pthT [] t else []
theorem pathsR_fit (t : Tm) : (pathsR t).length + sumR (pathsR t) ≤ 1048576 := by
  unfold pathsR
  cases h : isTermB t with
  | false => simp [sumR]
  | true =>
    rw [if_pos rfl]
    have h60 : szT t ≤ 60 := by unfold isTermB at h; simp at h; exact h.2
    have h1 := pthT_len [] t
    have h2 := sumR_le (B := 60) (ls := pthT [] t) fun q hq => by have := pthT_row [] t q hq; simp at this; omega
    have h3 : (pthT [] t).length * 60 ≤ 60 * 60 := Nat.mul_le_mul_right _ (by omega)
    omega
theorem pathsR_fitR (t : Tm) : FitR (pathsR t) := fitR_of (by have := pathsR_fit t; omega)
theorem pathsR_sum (t : Tm) : sumR (pathsR t) ≤ 2097152 := by have := pathsR_fit t; omega
set_option maxRecDepth 100000 in
set_option maxHeartbeats 4000000 in
theorem pathsOf_impl (t : Tm) (hf : Fit t) (x : Value) (w : World) (hx : TmIn w x t) : Calls Try.prog 7 #[x] w (RowsOut (pathsR t) w) := by
  have hX := hx
  obtain ⟨Ap, cp, kv, rfl, hpp, hk⟩ := hx
  obtain ⟨Bk, dk, rfl⟩ := TmsIn.form hk
  have hb1 : Below w.heap.size w (w.alloc (.cells #[.int .i64 t.op, .int .i64 t.num, .slice Ap t.perm.length cp, .slice Bk t.kids.length dk] 32)) := (Below.refl _ _).alloc (Nat.le_refl _) _
  have hx1 := heap_alloc_new w (.cells #[.int .i64 t.op, .int .i64 t.num, .slice Ap t.perm.length cp, .slice Bk t.kids.length dk] 32)
  have his := isTerm_impl t _ _ (hX.below hb1) hf
  obtain ⟨x0, x1, x2, x3⟩ := Pth.box4 hx1
  have HX1 := Lib.hid hx1
  have HB1 := Lib.hid hb1
  have HX := Lib.hid hX
  clear hx1 hb1 hX hpp hk
  unfold pathsR
  cases hb : isTermB t with
  | false =>
    rw [hb] at his
    go_enter Try.func7, Try.ntmps7
    go_wp2_with fail
    (with_reducible refine his.mono ?_)
    rintro e w2 ⟨rfl, hb2⟩
    have hbz := HB1.out.trans (hb2.mono HB1.out.size)
    have hb3 : Below w2.heap.size w2 (w2.alloc (.cells #[] 46)) := (Below.refl _ _).alloc (Nat.le_refl _) _
    have hpost : Hid (RowsOut [] w (.returned (.slice (some ⟨w2.heap.size, 0, none⟩) 0 0)) (w2.alloc (.cells #[] 46))) := Lib.hid ⟨_, _, rfl, own_lit0 w2, fun b h => by simp at h; have := hbz.size; omega, hbz.trans (hb3.mono hbz.size)⟩
    clear his hb2 hbz hb3 x0 x1 x2 x3
    go_wp2
    go_ret
    exact hpost.out
  | true =>
    rw [hb] at his
    have h60 : szT t ≤ 60 := by unfold isTermB at hb; simp at hb; exact hb.2
    go_enter Try.func7, Try.ntmps7
    go_wp2_with fail
    (with_reducible refine his.mono ?_)
    rintro e w2 ⟨rfl, hb2⟩
    have hbz := HB1.out.trans (hb2.mono HB1.out.size)
    have hb3 : Below w2.heap.size w2 (w2.alloc (.cells #[] 3)) := (Below.refl _ _).alloc (Nat.le_refl _) _
    have ho : (w2.alloc (.cells #[] 3)).ownsRow w2.heap.size 3 1 (.slice (some ⟨w2.heap.size, 0, none⟩) 0 0) ([] : List Int).length (icells []) := World.ownsRow_lit w2 #[] 0 (Nat.le_refl _) (by decide) rfl
    obtain ⟨S, hS, hSb, _⟩ := own_intRow ho
    have hb13 := hbz.trans (hb3.mono hbz.size)
    have hpf := pathsFrom_any 60 t h60 [] _ _ S (w2.alloc (.cells #[] 3)) (HX.out.below (hb13.mono (Nat.le_refl _))) hS (by simp; omega)
    have e3 := (hb3.block _ (Pth.blt ((hb2.block _ (Pth.blt HX1.out)).trans HX1.out))).trans ((hb2.block _ (Pth.blt HX1.out)).trans HX1.out)
    obtain ⟨y0, y1, y2, y3⟩ := Pth.box4 e3
    have HZ := Lib.hid hb13
    have HSB := Lib.hid hSb
    have h12 := hbz.size
    clear his hb2 hbz hb3 ho hb13 e3 hS x0 x1 x2 x3
    go_wp2_with fail
    (with_reducible refine hpf.mono ?_)
    rintro e w4 ⟨v, T, rfl, hO, hT, hb4⟩
    have hpost : Hid (RowsOut (pthT [] t) w (.returned v) w4) := Lib.hid ⟨v, T, rfl, hO, fun b hbm => by
      rcases hT b hbm with h1 | h1
      · have := HSB.out b h1; omega
      · have h2 : w2.heap.size ≤ (w2.alloc (.cells #[] 3)).heap.size := by rw [World.size_alloc]; omega
        omega, HZ.out.trans (hb4.mono HZ.out.size)⟩
    clear hpf hO hT hb4 y0 y1 y2 y3
    go_wp2
    go_ret
    exact hpost.out
end Go.Proofs.Ytnnebndcjjdhoaa
