/-
  Looking whether terms are still numbered, as contracts.
-/
import Derived.Test.YtgdaefmmljgjkaaTmMark
namespace Go.Proofs.Ytgdaefmmljgjkaa
open Go.RowKit

theorem mkP_at : ∀ (p : List (Int × Int)) (k : Int) (i : Nat), i < p.length → prAt (mkP k p) i = (k + (i : Int) * 2, k + (i : Int) * 2 + 1)
  | [], k, i, h => by simp at h
  | _ :: r, k, 0, _ => by
    simp [mkP, prAt]
  | p0 :: r, k, i + 1, h => by
    have h1 := mkP_at r (k + 2) i (by simpa using h)
    have h2 : prAt (mkP k (p0 :: r)) (i + 1) = prAt (mkP (k + 2) r) i := rfl
    rw [h2, h1]
    ext <;> simp <;> omega

set_option maxHeartbeats 400000 in
theorem heldPairS_at (A : Option Addr) (c : Nat) (p : List (Int × Int)) (k : Int) (w : World) (hp : PairsAt w A (mkP k p)) (hk0 : 0 ≤ k) (hk1 : k + p.length * 2 ≤ 9223372036854775807) :
    Calls Try.prog 56 #[.slice A p.length c, .int .i64 k] w
      fun e w' => e = .returned (.int .i64 (k + p.length * 2)) ∧ w = w' := by
  go_enter Try.func56, Try.ntmps56
  go_wp2
  go_loop [1, 5] (fun kk i => ∃ j : Nat, j ≤ p.length ∧ i = .int .i64 j ∧ kk = .int .i64 (k + j * 2)) (fun _ i => p.length - (intOf i).toNat)
  case atStart => exact ⟨0, Nat.zero_le _, rfl, by simp⟩
  case round =>
    obtain ⟨j, hj, rfl, rfl⟩ := hrel
    by_cases hlt : j < p.length
    · obtain ⟨b, off, rfl, hb, hc⟩ := hp (by rw [mkP_len]; omega)
      obtain ⟨c0, c1⟩ := hc j (by rw [mkP_len]; exact hlt)
      rw [mkP_at p k j hlt] at c0 c1
      clear hp hc
      have t0 : (k + (j : Int) * 2 != k + (j : Int) * 2) = false := by simp
      have t1 : (k + (j : Int) * 2 + 1 != k + (j : Int) * 2 + 1) = false := by simp
      go_wp2
      go_round
      case rel => exact ⟨j + 1, by omega, by go_num, by go_num⟩
      case measure => simp [intOf]; omega
    · have ej : j = p.length := by omega
      subst ej
      clear hp
      go_wp2
      go_ret
      exact ⟨rfl, rfl⟩

theorem mkTs_at : ∀ (ts : List Tm) (k : Int) (i : Nat), i < ts.length → tmAt (mkTs k ts) i = mkT (k + mcTs (ts.take i)) (tmAt ts i)
  | [], k, i, h => by simp at h
  | t :: r, k, 0, _ => by simp [mkTs, tmAt, mcTs]
  | t :: r, k, i + 1, h => by
    rw [mkTs, tmAt_cons_succ, tmAt_cons_succ, mkTs_at r _ i (by simpa using h), List.take_succ_cons, mcTs]
    congr 1
    omega

def HeldPost (ts : List Tm) (k : Int) (w : World) (e : Ending) (w' : World) : Prop := e = .returned (.int .i64 (k + mcTs ts)) ∧ w' = w

set_option maxRecDepth 100000 in
set_option maxHeartbeats 2000000 in
theorem heldTermS_step (ts : List Tm) (hlen : ts.length ≤ 1048576) (v : Value) (k : Int) (w : World) (hk0 : 0 ≤ k) (hk1 : k + mcTs ts ≤ 9007199254740992) (hv : TmsIn w v (mkTs k ts))
    (ih : ∀ i, i < ts.length → ∀ (v' : Value) (k' : Int), 0 ≤ k' → k' + mcTs (tmAt ts i).kids ≤ 9007199254740992 → TmsIn w v' (mkTs k' (tmAt ts i).kids) → Calls Try.prog 57 #[v', .int .i64 k'] w (HeldPost (tmAt ts i).kids k' w)) :
    Calls Try.prog 57 #[v, .int .i64 k] w (HeldPost ts k w) := by
  obtain ⟨A, c, rfl⟩ := hv.form
  rw [mkTs_len]
  go_enter Try.func57, Try.ntmps57
  go_wp2
  go_loop [1, 5] (fun kk i => ∃ j : Nat, j ≤ ts.length ∧ i = .int .i64 j ∧ kk = .int .i64 (k + mcTs (ts.take j))) (fun _ i => ts.length - (intOf i).toNat)
  case atStart => exact ⟨0, Nat.zero_le _, rfl, by simp [mcTs]⟩
  case round =>
    obtain ⟨j, hj, rfl, rfl⟩ := hrel
    by_cases hlt : j < ts.length
    · obtain ⟨b, off, rfl, hbl, hget⟩ := hv.get (by rw [mkTs_len]; omega)
      obtain ⟨A1, c1, kv, d0, d1, d2, d3, hp1, hk1'⟩ := hget j (by rw [mkTs_len]; exact hlt)
      rw [mkTs_at ts k j hlt, mkT_eq] at d0 d1 d2 hp1 hk1'
      simp only [op_mk, num_mk, perm_mk, kids_mk] at d0 d1 d2 hp1 hk1'
      rw [mkP_len] at d2
      have hmc := mcTs_next hlt
      have hmt := mcTs_take ts (j + 1)
      have hmq := mcT_eq (tmAt ts j)
      have hih := ih j hlt
      generalize tmAt ts j = t at hmc hmq hih d2 hp1 hk1'
      generalize hkk : mcTs (ts.take j) = m at hmc d0 d1 hp1 hk1' ⊢
      have hh := heldPairS_at A1 c1 t.perm (k + m + 1 + 1) w hp1 (by omega) (by omega)
      have hh2 := hih kv (k + m + 1 + 1 + t.perm.length * 2) (by omega) (by omega) hk1'
      have t0 : (k + (m : Int) != k + (m : Int)) = false := by simp
      have t1 : (k + (m : Int) + 1 != k + (m : Int) + 1) = false := by simp
      have g1 : ¬ k + (m : Int) + 1 + 1 + (t.perm.length : Int) * 2 < 0 := by omega
      have g2 : ¬ k + (m : Int) + 1 + 1 + (t.perm.length : Int) * 2 + (mcTs t.kids : Int) < 0 := by omega
      have hkk2 : Hid (k + m + 1 + 1 + t.perm.length * 2 + mcTs t.kids = k + mcTs (ts.take (j + 1))) := by show k + m + 1 + 1 + t.perm.length * 2 + mcTs t.kids = k + mcTs (ts.take (j + 1)); omega
      have hbd : k + (m : Int) + 1 + 1 ≤ 9007199254740992 := by omega
      have hbd2 : k + (m : Int) + 1 ≤ 9007199254740992 := by omega
      clear hget hv ih hp1 hk1' hih hkk hmc hmt hmq
      generalize t.perm.length = pl at *
      go_wp2_with fail
      refine hh.mono ?_
      rintro e w' ⟨rfl, rfl⟩
      go_wp2_with fail
      refine hh2.mono ?_
      rintro e w' ⟨rfl, rfl⟩
      clear hh hh2 d0 d1 d2 d3
      go_wp2
      go_round
      case rel => exact ⟨j + 1, by omega, by go_num, by rw [hkk2.out]⟩
      case measure => simp [intOf]; omega
    · have e : j = ts.length := by omega
      subst e
      have hpost : HeldPost ts k w (.returned (.int .i64 (k + mcTs (ts.take ts.length)))) w := ⟨by rw [List.take_length], rfl⟩
      clear hv ih
      go_wp2
      go_ret
      first | exact hpost | (rw [List.take_length] at hpost; exact hpost)

theorem heldTermS_any : ∀ (N : Nat) (ts : List Tm), szTs ts ≤ N → Fits ts → ts.length ≤ 1048576 → ∀ (v : Value) (k : Int) (w : World), 0 ≤ k → k + mcTs ts ≤ 9007199254740992 → TmsIn w v (mkTs k ts) →
    Calls Try.prog 57 #[v, .int .i64 k] w (HeldPost ts k w) := by
  intro N
  induction N with
  | zero =>
    intro ts hN hf hlen v k w h0 h1 ho
    exact heldTermS_step ts hlen v k w h0 h1 ho fun i hi => absurd (szTs_kid hi) (by omega)
  | succ N ih =>
    intro ts hN hf hlen v k w h0 h1 ho
    refine heldTermS_step ts hlen v k w h0 h1 ho fun i hi v' k' g0 g1 hy => ?_
    have h2 := (fit_eq _).1 (fits_at hf hi)
    exact ih _ (by have := szTs_kid hi; omega) h2.2.2 h2.2.1 v' k' w g0 g1 hy

end Go.Proofs.Ytgdaefmmljgjkaa
