/-
  Numbering the cells of index terms, and looking whether they are still numbered so, as contracts.
-/
import Derived.Test.YtihijigbdpjcoaaKStepIndices1
import Derived.Test.YtihijigbdpjcoaaKStepIndices6
import Derived.Test.YtihijigbdpjcoaaKStepIndices2
import Derived.Test.YtihijigbdpjcoaaKStepIndices7
namespace Go.Proofs.Ytihijigbdpjcoaa
open Go.RowKit
set_option linter.unusedVariables false

mutual
/-- How many numbers an index term in a list takes. -/
def mcIx : Ix → Nat
  | .mk _ _ ks => 2 + mcIxs ks
def mcIxs : List Ix → Nat
  | [] => 0
  | t :: r => mcIx t + mcIxs r
end
mutual
/-- Index terms numbered from k on. -/
def mkIx (k : Int) : Ix → Ix
  | .mk _ _ ks => .mk k (k + 1) (mkIxs (k + 1 + 1) ks)
def mkIxs (k : Int) : List Ix → List Ix
  | [] => []
  | t :: r => mkIx k t :: mkIxs (k + mcIx t) r
end
theorem ixop_mk (o n : Int) (ks : List Ix) : (Ix.mk o n ks).op = o := rfl
theorem ixnum_mk (o n : Int) (ks : List Ix) : (Ix.mk o n ks).num = n := rfl
theorem ixkids_mk (o n : Int) (ks : List Ix) : (Ix.mk o n ks).kids = ks := rfl
theorem ix_drop {ts : List Ix} {k : Nat} (h : k < ts.length) : ts.drop k = ixAt ts k :: ts.drop (k + 1) := by
  rw [List.drop_eq_getElem_cons h, ixAt_get ts k h]
theorem mcIx_eq (t : Ix) : mcIx t = 2 + mcIxs t.kids := by cases t; simp [mcIx, Ix.kids]
theorem mkIx_eq (k : Int) (t : Ix) : mkIx k t = .mk k (k + 1) (mkIxs (k + 1 + 1) t.kids) := by cases t; simp [mkIx, Ix.kids]
theorem mcIxs_append : ∀ a b : List Ix, mcIxs (a ++ b) = mcIxs a + mcIxs b
  | [], b => by simp [mcIxs]
  | t :: r, b => by rw [List.cons_append, mcIxs, mcIxs, mcIxs_append r b]; omega
theorem mcIxs_next {ts : List Ix} {k : Nat} (h : k < ts.length) : mcIxs (ts.take (k + 1)) = mcIxs (ts.take k) + mcIx (ixAt ts k) := by
  rw [ix_take_next h, mcIxs_append]
  simp [mcIxs]
theorem mcIxs_take (ts : List Ix) (k : Nat) : mcIxs (ts.take k) ≤ mcIxs ts := by
  have := mcIxs_append (ts.take k) (ts.drop k)
  rw [List.take_append_drop] at this
  omega
theorem mkIxs_append : ∀ (a b : List Ix) (k : Int), mkIxs k (a ++ b) = mkIxs k a ++ mkIxs (k + mcIxs a) b
  | [], b, k => by simp [mkIxs, mcIxs]
  | t :: r, b, k => by
    rw [List.cons_append, mkIxs, mkIxs, mkIxs_append r b, mcIxs, List.cons_append]
    congr 3
    omega
theorem mkIxs_len : ∀ (ts : List Ix) (k : Int), (mkIxs k ts).length = ts.length
  | [], _ => by simp [mkIxs]
  | t :: r, k => by rw [mkIxs, List.length_cons, List.length_cons, mkIxs_len r]
theorem mkIxs_next {ts : List Ix} {i : Nat} (h : i < ts.length) (k : Int) : mkIxs k (ts.take (i + 1)) = mkIxs k (ts.take i) ++ [mkIx (k + mcIxs (ts.take i)) (ixAt ts i)] := by
  rw [ix_take_next h, mkIxs_append]
  simp [mkIxs]
mutual
theorem mcIx_le : ∀ t : Ix, mcIx t ≤ 2 + 2 * cntIx t
  | .mk o n ks => by
    have := mcIxs_le ks
    rw [mcIx, cntIx]; omega
theorem mcIxs_le : ∀ ts : List Ix, mcIxs ts ≤ 2 * (ts.length + sumIx ts)
  | [] => by simp [mcIxs]
  | t :: r => by
    have h1 := mcIx_le t
    have h2 := mcIxs_le r
    rw [mcIxs, sumIx, List.length_cons]; omega
end

theorem own_ixs {w : World} {S : List Nat} {v : Value} {ts : List Ix} (h : Own w S v (ixsMem ts)) (hp : 0 < ts.length) :
    ∃ g cap xs S', S = g :: S' ∧ v = .slice (some ⟨g, 0, none⟩) ts.length cap ∧ w.ownsRow 0 42 3 (.slice (some ⟨g, 0, none⟩) ts.length cap) ts.length xs ∧ OwnL w S' xs (encIxs ts) ∧ g ∉ S' := by
  unfold ixsMem at h
  generalize hm : encIxs ts = ms at h
  cases h with
  | nil =>
    have := encIxs_len ts
    rw [hm] at this
    simp at this
    omega
  | row hl ho hL hg =>
    subst hm
    rw [encIxs_len] at hl
    rename_i g n cap xs S'
    have en : n = ts.length := by omega
    subst en
    exact ⟨g, cap, xs, S', rfl, rfl, ho, hL, hg⟩
theorem own_of_ixs {w : World} {ts : List Ix} {g n cap : Nat} {xs : List Value} {S : List Nat} (hn : ts.length = n) (ho : w.ownsRow 0 42 3 (.slice (some ⟨g, 0, none⟩) n cap) n xs) (hL : OwnL w S xs (encIxs ts)) (hg : g ∉ S) :
    Own w (g :: S) (.slice (some ⟨g, 0, none⟩) n cap) (ixsMem ts) := by
  subst hn
  exact .row (encIxs_len ts) ho hL hg
theorem enc_setIx (a r : List Ix) (t t' : Ix) : (((encIxs (a ++ t :: r)).set (a.length * 3) (.cell (.int .i64 t'.op))).set (a.length * 3 + 1) (.cell (.int .i64 t'.num))).set (a.length * 3 + 2) (ixsMem t'.kids) = encIxs (a ++ t' :: r) := by
  have e1 : encIxs (a ++ t :: r) = encIxs a ++ (encIx t ++ encIxs r) := by rw [encIxs_append, encIxs]
  have e2 : encIxs (a ++ t' :: r) = encIxs a ++ (encIx t' ++ encIxs r) := by rw [encIxs_append, encIxs]
  have la := encIxs_len a
  rw [e1, e2, encIx_eq t, encIx_eq t']
  rw [List.set_append_right _ _ (by omega), la, Nat.sub_self]
  rw [List.set_append_right _ _ (by omega), la, Nat.add_sub_cancel_left]
  rw [List.set_append_right _ _ (by omega), la, Nat.add_sub_cancel_left]
  rfl

/-- The answer, the index terms numbered, and nothing else turned. -/
def MarkIxPost (S : List Nat) (v : Value) (ts : List Ix) (k : Int) (w : World) (e : Ending) (w' : World) : Prop :=
  e = .returned (.int .i64 (k + mcIxs ts)) ∧ Own w' S v (ixsMem (mkIxs k ts)) ∧ Only S w w'

set_option maxRecDepth 100000 in
set_option maxHeartbeats 4000000 in
theorem markIndexS_step (ts : List Ix) (hlen : ts.length ≤ 1048576) (S : List Nat) (v : Value) (k : Int) (w : World) (hk0 : 0 ≤ k) (hk1 : k + mcIxs ts ≤ 9007199254740992) (hown : Own w S v (ixsMem ts))
    (ih : ∀ i, i < ts.length → ∀ (S' : List Nat) (v' : Value) (k' : Int) (w' : World), 0 ≤ k' → k' + mcIxs (ixAt ts i).kids ≤ 9007199254740992 → Own w' S' v' (ixsMem (ixAt ts i).kids) → Calls Try.prog 61 #[v', .int .i64 k'] w' (MarkIxPost S' v' (ixAt ts i).kids k' w')) :
    Calls Try.prog 61 #[v, .int .i64 k] w (MarkIxPost S v ts k w) := by
  obtain ⟨A, c, rfl⟩ := IxsIn.form (ts := ts) hown.at_
  go_enter Try.func61, Try.ntmps61
  go_wp2
  go_loopw [1, 5] (fun kk i wr => ∃ j : Nat, j ≤ ts.length ∧ i = .int .i64 j ∧ kk = .int .i64 (k + mcIxs (ts.take j)) ∧ Own wr S (.slice A ts.length c) (ixsMem (mkIxs k (ts.take j) ++ ts.drop j)) ∧ Only S w wr) (fun _ i _ => ts.length - (intOf i).toNat)
  case atStart => exact ⟨0, Nat.zero_le _, rfl, by simp [mcIxs], by simpa [mkIxs] using hown, Only.refl _ _⟩
  case round =>
    clear hown
    obtain ⟨j, hj, rfl, rfl, ho0, hon⟩ := hrel
    by_cases hlt : j < ts.length
    · have hlen2 : (mkIxs k (ts.take j) ++ ts.drop j).length = ts.length := by rw [List.length_append, mkIxs_len, List.length_take, List.length_drop]; omega
      have hla : (mkIxs k (ts.take j)).length = j := by rw [mkIxs_len, List.length_take]; omega
      obtain ⟨g, cap, xs, S', rfl, ev, ho, hL, hg⟩ := own_ixs ho0 (by omega)
      rw [hlen2] at ev ho
      simp only [Value.slice.injEq, true_and] at ev
      obtain ⟨rfl, rfl⟩ := ev
      have hdr := ix_drop hlt
      rw [hdr] at hL
      have hnx0 := mkIxs_next hlt k
      rw [mkIx_eq] at hnx0
      have hnx := Lib.hid hnx0
      clear hnx0
      have hmc := mcIxs_next hlt
      have hmt := mcIxs_take ts (j + 1)
      have hmq := mcIx_eq (ixAt ts j)
      have hih := ih j hlt
      generalize mkIxs k (ts.take j) = a at hL hla hnx ho0 hlen2
      generalize ixAt ts j = t at hL hnx hmc hmq hih hdr
      generalize hkk : mcIxs (ts.take j) = m at hmc hnx
      have he := enc_setIx a (ts.drop (j + 1)) t (mkIx (k + m) t)
      rw [mkIx_eq] at he
      simp only [ixop_mk, ixnum_mk, ixkids_mk] at he
      rw [hla] at he
      have hat := encIxs_parts (ts := a ++ t :: ts.drop (j + 1)) (i := j) (by rw [List.length_append, hla, List.length_cons]; omega)
      have hta : ixAt (a ++ t :: ts.drop (j + 1)) j = t := by
        simp [ixAt, List.getD_eq_getElem?_getD, hla]
      rw [hta] at hat
      have HE := Lib.hid he
      obtain ⟨p0, p1, p2⟩ := hat
      generalize encIxs (a ++ t :: ts.drop (j + 1)) = ms at hL p0 p1 p2 HE
      clear he hta hdr ih ho0 hlen2 hkk
      have hml := hL.len
      have hxl := ho.1
      obtain ⟨u0, e0⟩ := some_of_lt xs (j * 3) (by omega)
      obtain ⟨u1, e1⟩ := some_of_lt xs (j * 3 + 1) (by omega)
      have d0 := (ho.cellAt (j * 3) (by omega)).trans e0
      have d1 := (ho.cellAt (j * 3 + 1) (by omega)).trans e1
      have f0 := ho.frozenAt (j * 3)
      have f1 := ho.frozenAt (j * 3 + 1)
      obtain ⟨o1, q1⟩ := ho.stored (j * 3) (.int .i64 (k + m))
      obtain ⟨o2, q2⟩ := o1.stored (j * 3 + 1) (.int .i64 (k + m + 1))
      have hL1 := hL.setCell (j * 3) _ (.int .i64 (k + m)) p0
      have hL2 := hL1.setCell (j * 3 + 1) (.int .i64 t.num) (.int .i64 (k + m + 1)) (by rw [List.getElem?_set_ne (by omega)]; exact p1)
      have hq := grownBy_trans q1 q2
      have hL3 := hL2.alike (w' := (wr.setCell ⟨g, j * 3, none⟩ (.int .i64 (k + m))).setCell ⟨g, j * 3 + 1, none⟩ (.int .i64 (k + m + 1))) (fun b hb => hq.block b (hL.lt b hb) (fun e => hg (by injection e with e; rw [← e]; exact hb)))
      have hon3 : Only (g :: S') w ((wr.setCell ⟨g, j * 3, none⟩ (.int .i64 (k + m))).setCell ⟨g, j * 3 + 1, none⟩ (.int .i64 (k + m + 1))) := (hon.set _ _ List.mem_cons_self).set _ _ List.mem_cons_self
      have hset3 : ((ms.set (j * 3) (Mem.cell (.int .i64 (k + m)))).set (j * 3 + 1) (Mem.cell (.int .i64 (k + m + 1))))[j * 3 + 2]? = some (ixsMem t.kids) := by
        rw [List.getElem?_set_ne (by omega), List.getElem?_set_ne (by omega)]; exact p2
      obtain ⟨u3, T3, hu3, hT3, hsub3, hput3⟩ := hL3.focus (j * 3 + 2) (ixsMem t.kids) hset3
      have d3 := (o2.cellAt (j * 3 + 2) (by omega)).trans hu3
      have hmk := hih T3 u3 (k + m + 1 + 1) _ (by omega) (by omega) hT3
      have HNG3 : g ∉ T3 := fun h => hg (hsub3 g h)
      have hx2 : xs[j * 3 + 2]? = some u3 := by
        rw [List.getElem?_set_ne (by omega), List.getElem?_set_ne (by omega)] at hu3; exact hu3
      have d2 := (ho.cellAt (j * 3 + 2) (by omega)).trans hx2
      clear hL hL1 hL2 hon q1 q2 hq o1 ho e0 e1 p0 p1 hT3 hx2 hu3 hset3 p2 hih
      go_wp2_with fail
      (with_reducible refine hmk.mono ?_)
      rintro e w4 ⟨rfl, hP4, hon5⟩
      have hL5 := hput3 w4 _ (fun b hb hn => hon5.block b (hL3.lt b hb) hn) hP4
      rw [HE.out] at hL5
      have o4 := ownsRow_alike o2 (hon5.block g (o2.lt g rfl).2 HNG3)
      have hon6 := hon3.trans (hon5.wide (T := g :: S') (fun b hb => List.mem_cons_of_mem _ (hsub3 b hb)))
      have hown7 : Own w4 (g :: S') (.slice (some ⟨g, 0, none⟩) ts.length c) (ixsMem (mkIxs k (ts.take (j + 1)) ++ ts.drop (j + 1))) := by
        rw [hnx.out, List.append_assoc, List.singleton_append]
        exact own_of_ixs (by rw [List.length_append, List.length_cons, hla, List.length_drop]; omega) o4 hL5 hg
      have hkk2 : Hid (k + m + 1 + 1 + mcIxs t.kids = k + mcIxs (ts.take (j + 1))) := by show k + m + 1 + 1 + mcIxs t.kids = k + mcIxs (ts.take (j + 1)); omega
      clear hmk hput3 hL3 hL5 o2 o4 hon3 hon5 hP4 hnx hmq hmc hmt HE d3 d2 d0 d1 f0 f1
      go_wp2
      refine ⟨⟨j + 1, by omega, by go_num, by rw [hkk2.out], hown7, hon6⟩, ?_⟩
      simp only [intOf]
      omega
    · have e : j = ts.length := by omega
      subst e
      rw [List.take_length, List.drop_length, List.append_nil] at ho0
      have hpost : MarkIxPost S (.slice A ts.length c) ts k w (.returned (.int .i64 (k + mcIxs (ts.take ts.length)))) wr := ⟨by rw [List.take_length], ho0, hon⟩
      clear ho0 hon ih
      go_wp2
      go_ret
      exact hpost

theorem markIndexS_any : ∀ (N : Nat) (ts : List Ix), szIxs ts ≤ N → FitIxs ts → ts.length ≤ 1048576 → ∀ (S : List Nat) (v : Value) (k : Int) (w : World), 0 ≤ k → k + mcIxs ts ≤ 9007199254740992 → Own w S v (ixsMem ts) →
    Calls Try.prog 61 #[v, .int .i64 k] w (MarkIxPost S v ts k w) := by
  intro N
  induction N with
  | zero =>
    intro ts hN hf hlen S v k w h0 h1 ho
    exact markIndexS_step ts hlen S v k w h0 h1 ho fun i hi => absurd (szIxs_kid hi) (by omega)
  | succ N ih =>
    intro ts hN hf hlen S v k w h0 h1 ho
    refine markIndexS_step ts hlen S v k w h0 h1 ho fun i hi S' v' k' w' g0 g1 hy => ?_
    have h2 := (fitIx_eq _).1 (fitIxs_at hf hi)
    exact ih _ (by have := szIxs_kid hi; omega) h2.2 h2.1 S' v' k' w' g0 g1 hy

theorem mkIxs_at : ∀ (ts : List Ix) (k : Int) (i : Nat), i < ts.length → ixAt (mkIxs k ts) i = mkIx (k + mcIxs (ts.take i)) (ixAt ts i)
  | [], k, i, h => by simp at h
  | t :: r, k, 0, _ => by simp [mkIxs, ixAt, mcIxs]
  | t :: r, k, i + 1, h => by
    rw [mkIxs, ixAt_cons_succ, ixAt_cons_succ, mkIxs_at r _ i (by simpa using h), List.take_succ_cons, mcIxs]
    congr 1
    omega

def HeldIxPost (ts : List Ix) (k : Int) (w : World) (e : Ending) (w' : World) : Prop := e = .returned (.int .i64 (k + mcIxs ts)) ∧ w' = w

set_option maxRecDepth 100000 in
set_option maxHeartbeats 2000000 in
theorem heldIndexS_step (ts : List Ix) (hlen : ts.length ≤ 1048576) (v : Value) (k : Int) (w : World) (hk0 : 0 ≤ k) (hk1 : k + mcIxs ts ≤ 9007199254740992) (hv : IxsIn w v (mkIxs k ts))
    (ih : ∀ i, i < ts.length → ∀ (v' : Value) (k' : Int), 0 ≤ k' → k' + mcIxs (ixAt ts i).kids ≤ 9007199254740992 → IxsIn w v' (mkIxs k' (ixAt ts i).kids) → Calls Try.prog 62 #[v', .int .i64 k'] w (HeldIxPost (ixAt ts i).kids k' w)) :
    Calls Try.prog 62 #[v, .int .i64 k] w (HeldIxPost ts k w) := by
  obtain ⟨A, c, rfl⟩ := hv.form
  rw [mkIxs_len]
  go_enter Try.func62, Try.ntmps62
  go_wp2
  go_loop [1, 5] (fun kk i => ∃ j : Nat, j ≤ ts.length ∧ i = .int .i64 j ∧ kk = .int .i64 (k + mcIxs (ts.take j))) (fun _ i => ts.length - (intOf i).toNat)
  case atStart => exact ⟨0, Nat.zero_le _, rfl, by simp [mcIxs]⟩
  case round =>
    obtain ⟨j, hj, rfl, rfl⟩ := hrel
    by_cases hlt : j < ts.length
    · obtain ⟨b, off, rfl, hbl, hget⟩ := hv.get (by rw [mkIxs_len]; omega)
      obtain ⟨B1, e1, d0, d1, d2, hk1'⟩ := hget j (by rw [mkIxs_len]; exact hlt)
      rw [mkIxs_at ts k j hlt, mkIx_eq] at d0 d1 d2 hk1'
      simp only [ixop_mk, ixnum_mk, ixkids_mk] at d0 d1 d2 hk1'
      have hmc := mcIxs_next hlt
      have hmt := mcIxs_take ts (j + 1)
      have hmq := mcIx_eq (ixAt ts j)
      have hih := ih j hlt
      generalize ixAt ts j = t at hmc hmq hih d2 hk1'
      generalize hkk : mcIxs (ts.take j) = m at hmc d0 d1 d2 hk1' ⊢
      have hh2 := hih _ (k + m + 1 + 1) (by omega) (by omega) hk1'
      generalize (Value.slice B1 (mkIxs (k + m + 1 + 1) t.kids).length e1) = kv at hh2 d2
      have t0 : (k + (m : Int) != k + (m : Int)) = false := by simp
      have t1 : (k + (m : Int) + 1 != k + (m : Int) + 1) = false := by simp
      have g2 : ¬ k + (m : Int) + 1 + 1 + (mcIxs t.kids : Int) < 0 := by omega
      have hkk2 : Hid (k + m + 1 + 1 + mcIxs t.kids = k + mcIxs (ts.take (j + 1))) := by show k + m + 1 + 1 + mcIxs t.kids = k + mcIxs (ts.take (j + 1)); omega
      have hbd : k + (m : Int) + 1 + 1 ≤ 9007199254740992 := by omega
      have hbd2 : k + (m : Int) + 1 ≤ 9007199254740992 := by omega
      clear hget hv ih hk1' hih hkk hmc hmt hmq
      go_wp2_with fail
      refine hh2.mono ?_
      rintro e w' ⟨rfl, rfl⟩
      clear hh2 d0 d1 d2
      go_wp2
      go_round
      case rel => exact ⟨j + 1, by omega, by go_num, by rw [hkk2.out]⟩
      case measure => simp [intOf]; omega
    · have e : j = ts.length := by omega
      subst e
      have hpost : HeldIxPost ts k w (.returned (.int .i64 (k + mcIxs (ts.take ts.length)))) w := ⟨by rw [List.take_length], rfl⟩
      clear hv ih
      go_wp2
      go_ret
      first | exact hpost | (rw [List.take_length] at hpost; exact hpost)

theorem heldIndexS_any : ∀ (N : Nat) (ts : List Ix), szIxs ts ≤ N → FitIxs ts → ts.length ≤ 1048576 → ∀ (v : Value) (k : Int) (w : World), 0 ≤ k → k + mcIxs ts ≤ 9007199254740992 → IxsIn w v (mkIxs k ts) →
    Calls Try.prog 62 #[v, .int .i64 k] w (HeldIxPost ts k w) := by
  intro N
  induction N with
  | zero =>
    intro ts hN hf hlen v k w h0 h1 ho
    exact heldIndexS_step ts hlen v k w h0 h1 ho fun i hi => absurd (szIxs_kid hi) (by omega)
  | succ N ih =>
    intro ts hN hf hlen v k w h0 h1 ho
    refine heldIndexS_step ts hlen v k w h0 h1 ho fun i hi v' k' g0 g1 hy => ?_
    have h2 := (fitIx_eq _).1 (fitIxs_at hf hi)
    exact ih _ (by have := szIxs_kid hi; omega) h2.2 h2.1 v' k' w g0 g1 hy

/-- An index term's kids numbered from k on. -/
def mkRI (k : Int) (t : Ix) : Ix := .mk t.op t.num (mkIxs k t.kids)
theorem ownL_ixpart {w : World} {S : List Nat} {a b kv : Value} {t : Ix} (h : OwnL w S [a, b, kv] (encIx t)) : Own w S kv (ixsMem t.kids) := by
  rw [encIx_eq] at h
  cases h with
  | cons h0 k0 hd0 =>
    cases k0 with
    | cons h1 k1 hd1 =>
      cases k1 with
      | cons h2 k2 hd2 =>
        cases k2
        cases h0
        cases h1
        simpa using h2
theorem own_mkRI {w : World} {k : Int} {t : Ix} {kv : Value} {K : List Nat} (h : Own w K kv (ixsMem (mkIxs k t.kids))) : OwnL w (K ++ []) [.int .i64 t.op, .int .i64 t.num, kv] (encIx (mkRI k t)) :=
  ownL_ix (t := mkRI k t) h

set_option maxHeartbeats 1000000 in
theorem markIndex_full (t : Ix) (hf : FitIx t) (S : List Nat) (B : Option Addr) (d : Nat) (k : Int) (w : World) (hk0 : 0 ≤ k) (hk1 : k + mcIxs t.kids ≤ 9007199254740992)
    (h : OwnL w S [.int .i64 t.op, .int .i64 t.num, .slice B t.kids.length d] (encIx t)) :
    Calls Try.prog 24 #[.agg #[.int .i64 t.op, .int .i64 t.num, .slice B t.kids.length d], .int .i64 k] w
      fun e w' => e = .returned (.int .i64 (k + mcIxs t.kids)) ∧ (∃ S', OwnL w' S' [.int .i64 t.op, .int .i64 t.num, .slice B t.kids.length d] (encIx (mkRI k t)) ∧ ∀ b ∈ S', b ∈ S) ∧ Only S w w' := by
  have h2 := (fitIx_eq _).1 hf
  have hbx : Below w.heap.size w (w.alloc (.cells #[.int .i64 t.op, .int .i64 t.num, .slice B t.kids.length d] 42)) := (Below.refl _ _).alloc (Nat.le_refl _) _
  have hK := ownL_ixpart h
  have hmk := markIndexS_any _ t.kids (Nat.le_refl _) h2.2 h2.1 S _ k _ hk0 hk1 (hK.keep hbx)
  clear h hK
  go_enter Try.func24, Try.ntmps24
  go_wp2_with fail
  (with_reducible refine hmk.mono ?_)
  rintro e w1 ⟨rfl, hP, hon⟩
  have hpost : (∃ S', OwnL w1 S' [.int .i64 t.op, .int .i64 t.num, .slice B t.kids.length d] (encIx (mkRI k t)) ∧ ∀ b ∈ S', b ∈ S) ∧ Only S w w1 :=
    ⟨⟨_, own_mkRI hP, fun b hb => by simpa using hb⟩, (only_of_below hbx).trans hon⟩
  clear hmk hP hon hbx
  go_wp2
  go_ret
  exact ⟨rfl, hpost⟩

set_option maxHeartbeats 1000000 in
theorem heldIndex_any (t : Ix) (hf : FitIx t) (B : Option Addr) (d : Nat) (k : Int) (w : World) (hk0 : 0 ≤ k) (hk1 : k + mcIxs t.kids ≤ 9007199254740992) (S : List Nat)
    (h : OwnL w S [.int .i64 t.op, .int .i64 t.num, .slice B t.kids.length d] (encIx (mkRI k t))) :
    Calls Try.prog 25 #[.agg #[.int .i64 t.op, .int .i64 t.num, .slice B t.kids.length d], .int .i64 k] w (IntPost (k + mcIxs t.kids) w) := by
  have h2 := (fitIx_eq _).1 hf
  have hbx : Below w.heap.size w (w.alloc (.cells #[.int .i64 t.op, .int .i64 t.num, .slice B t.kids.length d] 42)) := (Below.refl _ _).alloc (Nat.le_refl _) _
  have hK := ownL_ixpart h
  have hKa : IxsIn (w.alloc (.cells #[.int .i64 t.op, .int .i64 t.num, .slice B t.kids.length d] 42)) (.slice B t.kids.length d) (mkIxs k t.kids) := (hK.keep hbx).at_
  have hhk := heldIndexS_any _ t.kids (Nat.le_refl _) h2.2 h2.1 _ k _ hk0 hk1 hKa
  have n2 : ¬ k + (mcIxs t.kids : Int) < 0 := by omega
  clear h hK hKa
  go_enter Try.func25, Try.ntmps25
  go_wp2_with fail
  (with_reducible refine hhk.mono ?_)
  rintro e w' ⟨rfl, rfl⟩
  have hpost : IntPost (k + mcIxs t.kids) w (.returned (.int .i64 (k + mcIxs t.kids))) (w.alloc (.cells #[.int .i64 t.op, .int .i64 t.num, .slice B t.kids.length d] 42)) := ⟨rfl, hbx⟩
  clear hhk hbx
  go_wp2
  go_ret
  exact hpost
end Go.Proofs.Ytihijigbdpjcoaa
