/-
  Numbering the cells of formulas, and looking whether they are still numbered so, as contracts.
-/
import Derived.Test.YthjkogighppeaaaKSetOfFormula2
import Derived.Test.YthjkogighppeaaaKSetOfFormula6
import Derived.Test.YthjkogighppeaaaKSetOfFormula4
import Derived.Test.YthjkogighppeaaaKSetOfFormula23
namespace Go.Proofs.Ythjkogighppeaaa
open Go.RowKit
set_option linter.unusedVariables false

mutual
/-- How many numbers an formula in a list takes. -/
def mcFm : Fm → Nat
  | .mk _ _ _ ks => 3 + mcFms ks
def mcFms : List Fm → Nat
  | [] => 0
  | t :: r => mcFm t + mcFms r
end
mutual
/-- Formulas numbered from k on. -/
def mkFm (k : Int) : Fm → Fm
  | .mk _ _ _ ks => .mk k (k + 1) (k + 1 + 1) (mkFms (k + 1 + 1 + 1) ks)
def mkFms (k : Int) : List Fm → List Fm
  | [] => []
  | t :: r => mkFm k t :: mkFms (k + mcFm t) r
end
theorem fmop_mk (o n b : Int) (ks : List Fm) : (Fm.mk o n b ks).op = o := rfl
theorem fmfa_mk (o n b : Int) (ks : List Fm) : (Fm.mk o n b ks).fa = n := rfl
theorem fmfb_mk (o n b : Int) (ks : List Fm) : (Fm.mk o n b ks).fb = b := rfl
theorem fmkids_mk (o n b : Int) (ks : List Fm) : (Fm.mk o n b ks).kids = ks := rfl
theorem fm_drop {ts : List Fm} {k : Nat} (h : k < ts.length) : ts.drop k = fmAt ts k :: ts.drop (k + 1) := by
  rw [List.drop_eq_getElem_cons h, fmAt_get ts k h]
theorem mcFm_eq (t : Fm) : mcFm t = 3 + mcFms t.kids := by cases t; simp [mcFm, Fm.kids]
theorem mkFm_eq (k : Int) (t : Fm) : mkFm k t = .mk k (k + 1) (k + 1 + 1) (mkFms (k + 1 + 1 + 1) t.kids) := by cases t; simp [mkFm, Fm.kids]
theorem mcFms_append : ∀ a b : List Fm, mcFms (a ++ b) = mcFms a + mcFms b
  | [], b => by simp [mcFms]
  | t :: r, b => by rw [List.cons_append, mcFms, mcFms, mcFms_append r b]; omega
theorem mcFms_next {ts : List Fm} {k : Nat} (h : k < ts.length) : mcFms (ts.take (k + 1)) = mcFms (ts.take k) + mcFm (fmAt ts k) := by
  rw [fm_take_next h, mcFms_append]
  simp [mcFms]
theorem mcFms_take (ts : List Fm) (k : Nat) : mcFms (ts.take k) ≤ mcFms ts := by
  have := mcFms_append (ts.take k) (ts.drop k)
  rw [List.take_append_drop] at this
  omega
theorem mkFms_append : ∀ (a b : List Fm) (k : Int), mkFms k (a ++ b) = mkFms k a ++ mkFms (k + mcFms a) b
  | [], b, k => by simp [mkFms, mcFms]
  | t :: r, b, k => by
    rw [List.cons_append, mkFms, mkFms, mkFms_append r b, mcFms, List.cons_append]
    congr 3
    omega
theorem mkFms_len : ∀ (ts : List Fm) (k : Int), (mkFms k ts).length = ts.length
  | [], _ => by simp [mkFms]
  | t :: r, k => by rw [mkFms, List.length_cons, List.length_cons, mkFms_len r]
theorem mkFms_next {ts : List Fm} {i : Nat} (h : i < ts.length) (k : Int) : mkFms k (ts.take (i + 1)) = mkFms k (ts.take i) ++ [mkFm (k + mcFms (ts.take i)) (fmAt ts i)] := by
  rw [fm_take_next h, mkFms_append]
  simp [mkFms]
mutual
theorem mcFm_le : ∀ t : Fm, mcFm t ≤ 3 + 3 * cntFm t
  | .mk o n b ks => by
    have := mcFms_le ks
    rw [mcFm, cntFm]; omega
theorem mcFms_le : ∀ ts : List Fm, mcFms ts ≤ 3 * (ts.length + sumFm ts)
  | [] => by simp [mcFms]
  | t :: r => by
    have h1 := mcFm_le t
    have h2 := mcFms_le r
    rw [mcFms, sumFm, List.length_cons]; omega
end

theorem own_fms {w : World} {S : List Nat} {v : Value} {ts : List Fm} (h : Own w S v (fmsMem ts)) (hp : 0 < ts.length) :
    ∃ g cap xs S', S = g :: S' ∧ v = .slice (some ⟨g, 0, none⟩) ts.length cap ∧ w.ownsRow 0 34 4 (.slice (some ⟨g, 0, none⟩) ts.length cap) ts.length xs ∧ OwnL w S' xs (encFms ts) ∧ g ∉ S' := by
  unfold fmsMem at h
  generalize hm : encFms ts = ms at h
  cases h with
  | nil =>
    have := encFms_len ts
    rw [hm] at this
    simp at this
    omega
  | row hl ho hL hg =>
    subst hm
    rw [encFms_len] at hl
    rename_i g n cap xs S'
    have en : n = ts.length := by omega
    subst en
    exact ⟨g, cap, xs, S', rfl, rfl, ho, hL, hg⟩
theorem own_of_fms {w : World} {ts : List Fm} {g n cap : Nat} {xs : List Value} {S : List Nat} (hn : ts.length = n) (ho : w.ownsRow 0 34 4 (.slice (some ⟨g, 0, none⟩) n cap) n xs) (hL : OwnL w S xs (encFms ts)) (hg : g ∉ S) :
    Own w (g :: S) (.slice (some ⟨g, 0, none⟩) n cap) (fmsMem ts) := by
  subst hn
  exact .row (encFms_len ts) ho hL hg
theorem enc_setFm (a r : List Fm) (t t' : Fm) : ((((encFms (a ++ t :: r)).set (a.length * 4) (.cell (.int .i64 t'.op))).set (a.length * 4 + 1) (.cell (.int .i64 t'.fa))).set (a.length * 4 + 2) (.cell (.int .i64 t'.fb))).set (a.length * 4 + 3) (fmsMem t'.kids) = encFms (a ++ t' :: r) := by
  have e1 : encFms (a ++ t :: r) = encFms a ++ (encFm t ++ encFms r) := by rw [encFms_append, encFms]
  have e2 : encFms (a ++ t' :: r) = encFms a ++ (encFm t' ++ encFms r) := by rw [encFms_append, encFms]
  have la := encFms_len a
  rw [e1, e2, encFm_eq t, encFm_eq t']
  rw [List.set_append_right _ _ (by omega), la, Nat.sub_self]
  rw [List.set_append_right _ _ (by omega), la, Nat.add_sub_cancel_left]
  rw [List.set_append_right _ _ (by omega), la, Nat.add_sub_cancel_left]
  rw [List.set_append_right _ _ (by omega), la, Nat.add_sub_cancel_left]
  rfl

/-- The answer, the formulas numbered, and nothing else turned. -/
def MarkFmPost (S : List Nat) (v : Value) (ts : List Fm) (k : Int) (w : World) (e : Ending) (w' : World) : Prop :=
  e = .returned (.int .i64 (k + mcFms ts)) ∧ Own w' S v (fmsMem (mkFms k ts)) ∧ Only S w w'

set_option maxRecDepth 100000 in
set_option maxHeartbeats 4000000 in
theorem markFormulaS_step (ts : List Fm) (hlen : ts.length ≤ 1048576) (S : List Nat) (v : Value) (k : Int) (w : World) (hk0 : 0 ≤ k) (hk1 : k + mcFms ts ≤ 9007199254740992) (hown : Own w S v (fmsMem ts))
    (ih : ∀ i, i < ts.length → ∀ (S' : List Nat) (v' : Value) (k' : Int) (w' : World), 0 ≤ k' → k' + mcFms (fmAt ts i).kids ≤ 9007199254740992 → Own w' S' v' (fmsMem (fmAt ts i).kids) → Calls Try.prog 32 #[v', .int .i64 k'] w' (MarkFmPost S' v' (fmAt ts i).kids k' w')) :
    Calls Try.prog 32 #[v, .int .i64 k] w (MarkFmPost S v ts k w) := by
  obtain ⟨A, c, rfl⟩ := FmsIn.form (ts := ts) hown.at_
  go_enter Try.func32, Try.ntmps32
  go_wp2
  go_loopw [1, 5] (fun kk i wr => ∃ j : Nat, j ≤ ts.length ∧ i = .int .i64 j ∧ kk = .int .i64 (k + mcFms (ts.take j)) ∧ Own wr S (.slice A ts.length c) (fmsMem (mkFms k (ts.take j) ++ ts.drop j)) ∧ Only S w wr) (fun _ i _ => ts.length - (intOf i).toNat)
  case atStart => exact ⟨0, Nat.zero_le _, rfl, by simp [mcFms], by simpa [mkFms] using hown, Only.refl _ _⟩
  case round =>
    clear hown
    obtain ⟨j, hj, rfl, rfl, ho0, hon⟩ := hrel
    by_cases hlt : j < ts.length
    · have hlen2 : (mkFms k (ts.take j) ++ ts.drop j).length = ts.length := by rw [List.length_append, mkFms_len, List.length_take, List.length_drop]; omega
      have hla : (mkFms k (ts.take j)).length = j := by rw [mkFms_len, List.length_take]; omega
      obtain ⟨g, cap, xs, S', rfl, ev, ho, hL, hg⟩ := own_fms ho0 (by omega)
      rw [hlen2] at ev ho
      simp only [Value.slice.injEq, true_and] at ev
      obtain ⟨rfl, rfl⟩ := ev
      have hdr := fm_drop hlt
      rw [hdr] at hL
      have hnx0 := mkFms_next hlt k
      rw [mkFm_eq] at hnx0
      have hnx := Lib.hid hnx0
      clear hnx0
      have hmc := mcFms_next hlt
      have hmt := mcFms_take ts (j + 1)
      have hmq := mcFm_eq (fmAt ts j)
      have hih := ih j hlt
      generalize mkFms k (ts.take j) = a at hL hla hnx ho0 hlen2
      generalize fmAt ts j = t at hL hnx hmc hmq hih hdr
      generalize hkk : mcFms (ts.take j) = m at hmc hnx
      have he := enc_setFm a (ts.drop (j + 1)) t (mkFm (k + m) t)
      rw [mkFm_eq] at he
      simp only [fmop_mk, fmfa_mk, fmfb_mk, fmkids_mk] at he
      rw [hla] at he
      have hat := encFms_parts (ts := a ++ t :: ts.drop (j + 1)) (i := j) (by rw [List.length_append, hla, List.length_cons]; omega)
      have hta : fmAt (a ++ t :: ts.drop (j + 1)) j = t := by
        simp [fmAt, List.getD_eq_getElem?_getD, hla]
      rw [hta] at hat
      have HE := Lib.hid he
      obtain ⟨p0, p1, p2, p3⟩ := hat
      generalize encFms (a ++ t :: ts.drop (j + 1)) = ms at hL p0 p1 p2 p3 HE
      clear he hta hdr ih ho0 hlen2 hkk
      have hml := hL.len
      have hxl := ho.1
      obtain ⟨u0, e0⟩ := some_of_lt xs (j * 4) (by omega)
      obtain ⟨u1, e1⟩ := some_of_lt xs (j * 4 + 1) (by omega)
      obtain ⟨u2, e2⟩ := some_of_lt xs (j * 4 + 2) (by omega)
      have d0 := (ho.cellAt (j * 4) (by omega)).trans e0
      have d1 := (ho.cellAt (j * 4 + 1) (by omega)).trans e1
      have d2 := (ho.cellAt (j * 4 + 2) (by omega)).trans e2
      have f0 := ho.frozenAt (j * 4)
      have f1 := ho.frozenAt (j * 4 + 1)
      have f2 := ho.frozenAt (j * 4 + 2)
      obtain ⟨o1, q1⟩ := ho.stored (j * 4) (.int .i64 (k + m))
      obtain ⟨o2, q2⟩ := o1.stored (j * 4 + 1) (.int .i64 (k + m + 1))
      obtain ⟨o3, q3⟩ := o2.stored (j * 4 + 2) (.int .i64 (k + m + 1 + 1))
      have hL1 := hL.setCell (j * 4) _ (.int .i64 (k + m)) p0
      have hL2 := hL1.setCell (j * 4 + 1) (.int .i64 t.fa) (.int .i64 (k + m + 1)) (by rw [List.getElem?_set_ne (by omega)]; exact p1)
      have hL2b := hL2.setCell (j * 4 + 2) (.int .i64 t.fb) (.int .i64 (k + m + 1 + 1)) (by rw [List.getElem?_set_ne (by omega), List.getElem?_set_ne (by omega)]; exact p2)
      have hq := grownBy_trans (grownBy_trans q1 q2) q3
      have hL3 := hL2b.alike (w' := (((wr.setCell ⟨g, j * 4, none⟩ (.int .i64 (k + m))).setCell ⟨g, j * 4 + 1, none⟩ (.int .i64 (k + m + 1))).setCell ⟨g, j * 4 + 2, none⟩ (.int .i64 (k + m + 1 + 1)))) (fun b hb => hq.block b (hL.lt b hb) (fun e => hg (by injection e with e; rw [← e]; exact hb)))
      have hon3 : Only (g :: S') w (((wr.setCell ⟨g, j * 4, none⟩ (.int .i64 (k + m))).setCell ⟨g, j * 4 + 1, none⟩ (.int .i64 (k + m + 1))).setCell ⟨g, j * 4 + 2, none⟩ (.int .i64 (k + m + 1 + 1))) := ((hon.set _ _ List.mem_cons_self).set _ _ List.mem_cons_self).set _ _ List.mem_cons_self
      have hset3 : (((ms.set (j * 4) (Mem.cell (.int .i64 (k + m)))).set (j * 4 + 1) (Mem.cell (.int .i64 (k + m + 1)))).set (j * 4 + 2) (Mem.cell (.int .i64 (k + m + 1 + 1))))[j * 4 + 3]? = some (fmsMem t.kids) := by
        rw [List.getElem?_set_ne (by omega), List.getElem?_set_ne (by omega), List.getElem?_set_ne (by omega)]; exact p3
      obtain ⟨u3, T3, hu3, hT3, hsub3, hput3⟩ := hL3.focus (j * 4 + 3) (fmsMem t.kids) hset3
      have hmk := hih T3 u3 (k + m + 1 + 1 + 1) _ (by omega) (by omega) hT3
      have HNG3 : g ∉ T3 := fun h => hg (hsub3 g h)
      have hx3 : xs[j * 4 + 3]? = some u3 := by
        rw [List.getElem?_set_ne (by omega), List.getElem?_set_ne (by omega), List.getElem?_set_ne (by omega)] at hu3; exact hu3
      have d3 := (ho.cellAt (j * 4 + 3) (by omega)).trans hx3
      clear hL hL1 hL2 hL2b hon q1 q2 q3 hq o1 o2 ho e0 e1 e2 p0 p1 p2 hT3 hx3 hu3 hset3 p3 hih
      go_wp2_with fail
      (with_reducible refine hmk.mono ?_)
      rintro e w4 ⟨rfl, hP4, hon5⟩
      have hL5 := hput3 w4 _ (fun b hb hn => hon5.block b (hL3.lt b hb) hn) hP4
      rw [HE.out] at hL5
      have o4 := ownsRow_alike o3 (hon5.block g (o3.lt g rfl).2 HNG3)
      have hon6 := hon3.trans (hon5.wide (T := g :: S') (fun b hb => List.mem_cons_of_mem _ (hsub3 b hb)))
      have hown7 : Own w4 (g :: S') (.slice (some ⟨g, 0, none⟩) ts.length c) (fmsMem (mkFms k (ts.take (j + 1)) ++ ts.drop (j + 1))) := by
        rw [hnx.out, List.append_assoc, List.singleton_append]
        exact own_of_fms (by rw [List.length_append, List.length_cons, hla, List.length_drop]; omega) o4 hL5 hg
      have hkk2 : Hid (k + m + 1 + 1 + 1 + mcFms t.kids = k + mcFms (ts.take (j + 1))) := by show k + m + 1 + 1 + 1 + mcFms t.kids = k + mcFms (ts.take (j + 1)); omega
      clear hmk hput3 hL3 hL5 o3 o4 hon3 hon5 hP4 hnx hmq hmc hmt HE d3 d2 d0 d1 f0 f1 f2
      go_wp2
      refine ⟨⟨j + 1, by omega, by go_num, by rw [hkk2.out], hown7, hon6⟩, ?_⟩
      simp only [intOf]
      omega
    · have e : j = ts.length := by omega
      subst e
      rw [List.take_length, List.drop_length, List.append_nil] at ho0
      have hpost : MarkFmPost S (.slice A ts.length c) ts k w (.returned (.int .i64 (k + mcFms (ts.take ts.length)))) wr := ⟨by rw [List.take_length], ho0, hon⟩
      clear ho0 hon ih
      go_wp2
      go_ret
      exact hpost

theorem markFormulaS_any : ∀ (N : Nat) (ts : List Fm), szFms ts ≤ N → FitFms ts → ts.length ≤ 1048576 → ∀ (S : List Nat) (v : Value) (k : Int) (w : World), 0 ≤ k → k + mcFms ts ≤ 9007199254740992 → Own w S v (fmsMem ts) →
    Calls Try.prog 32 #[v, .int .i64 k] w (MarkFmPost S v ts k w) := by
  intro N
  induction N with
  | zero =>
    intro ts hN hf hlen S v k w h0 h1 ho
    exact markFormulaS_step ts hlen S v k w h0 h1 ho fun i hi => absurd (szFms_kid hi) (by omega)
  | succ N ih =>
    intro ts hN hf hlen S v k w h0 h1 ho
    refine markFormulaS_step ts hlen S v k w h0 h1 ho fun i hi S' v' k' w' g0 g1 hy => ?_
    have h2 := (fitFm_eq _).1 (fitFms_at hf hi)
    exact ih _ (by have := szFms_kid hi; omega) h2.2 h2.1 S' v' k' w' g0 g1 hy

theorem ownL_fmpart {w : World} {S : List Nat} {a b b2 kv : Value} {t : Fm} (h : OwnL w S [a, b, b2, kv] (encFm t)) : Own w S kv (fmsMem t.kids) := by
  rw [encFm_eq] at h
  cases h with
  | cons h0 k0 hd0 =>
    cases k0 with
    | cons h1 k1 hd1 =>
      cases k1 with
      | cons h2 k2 hd2 =>
        cases k2 with
        | cons h3 k3 hd3 =>
          cases k3
          cases h0
          cases h1
          cases h2
          simpa using h3
set_option maxHeartbeats 1000000 in
theorem markFormula_full (t : Fm) (hf : FitFm t) (S : List Nat) (B : Option Addr) (d : Nat) (k : Int) (w : World) (hk0 : 0 ≤ k) (hk1 : k + mcFms t.kids ≤ 9007199254740992)
    (h : OwnL w S [.int .i64 t.op, .int .i64 t.fa, .int .i64 t.fb, .slice B t.kids.length d] (encFm t)) :
    Calls Try.prog 10 #[.agg #[.int .i64 t.op, .int .i64 t.fa, .int .i64 t.fb, .slice B t.kids.length d], .int .i64 k] w
      fun e w' => e = .returned (.int .i64 (k + mcFms t.kids)) ∧ True ∧ Only S w w' := by
  have h2 := (fitFm_eq _).1 hf
  have hbx : Below w.heap.size w (w.alloc (.cells #[.int .i64 t.op, .int .i64 t.fa, .int .i64 t.fb, .slice B t.kids.length d] 34)) := (Below.refl _ _).alloc (Nat.le_refl _) _
  have hK := ownL_fmpart h
  have hmk := markFormulaS_any _ t.kids (Nat.le_refl _) h2.2 h2.1 S _ k _ hk0 hk1 (hK.keep hbx)
  clear h hK
  go_enter Try.func10, Try.ntmps10
  go_wp2_with fail
  (with_reducible refine hmk.mono ?_)
  rintro e w1 ⟨rfl, hP, hon⟩
  have hpost := Lib.hid ((only_of_below hbx).trans hon)
  clear hmk hP hon hbx
  go_wp2
  go_ret
  exact ⟨rfl, trivial, hpost.out⟩
end Go.Proofs.Ythjkogighppeaaa
