/-
  The size of a term that the laws count, as contracts.
-/
import Derived.Test.YtnomidnjglbedaaKSizeOfTerm3
import Derived.Test.YtnomidnjglbedaaKSizeOfTerm12
import Derived.BigQuiet
import Derived.Lib.QuietBelow
namespace Go.Proofs.Ytnomidnjglbedaa
open Go.RowKit Go.Sort

/-- What is left of a bound. -/
def leftR (left : Int) (c : Nat) : Int := if (c : Int) ≤ left then left - c else -1

theorem leftR_yes {left : Int} {c : Nat} (h : (c : Int) ≤ left) : leftR left c = left - c := by simp [leftR, h]
theorem leftR_no {left : Int} {c : Nat} (h : ¬ (c : Int) ≤ left) : leftR left c = -1 := by simp [leftR, h]

/-- The answer, and new blocks at most. -/
def LeftPost (left : Int) (c : Nat) (w : World) (e : Ending) (w' : World) : Prop := e = .returned (.int .i64 (leftR left c)) ∧ Below w.heap.size w w'

set_option maxRecDepth 100000 in
set_option maxHeartbeats 1000000 in
theorem szTerm_of (t : Tm) (x : Value) (w : World) (left : Int) (h0 : 0 ≤ left) (h1 : left ≤ 1099511627776) (hx : TmIn w x t) (hlen : t.perm.length ≤ maxLen)
    (ih : ∀ (left' : Int) (w' : World) (y : Value), 0 ≤ left' → left' ≤ 1099511627776 → TmsIn w' y t.kids → Calls Try.prog 65 #[y, .int .i64 left'] w' (LeftPost left' (t.kids.length + sumT t.kids) w')) :
    Calls Try.prog 15 #[x, .int .i64 left] w (LeftPost left (cntT t) w) := by
  obtain ⟨A, c, kv, rfl, hp, hk⟩ := hx
  have hc := Lib.hid (cntT_eq t)
  unfold maxLen at hlen
  generalize t.op = o
  generalize t.num = n
  generalize t.perm.length = pl at hc hlen ⊢
  generalize t.kids.length + sumT t.kids = kc at hc ih
  have hb0 : Below w.heap.size w (w.alloc (.cells #[.int .i64 o, .int .i64 n, .slice A pl c, kv] 25)) := (Below.refl _ _).alloc (Nat.le_refl _) _
  have hk0 := hk.below hb0
  clear hp hk
  by_cases h2 : (pl : Int) ≤ left
  · have hleft : ¬ left - (pl : Int) < 0 := by omega
    have hsz := fun W => sz_yes A pl c left W (by omega) h1 h2
    have hih := ih (left - pl) _ kv (by omega) (by omega) hk0
    by_cases h3 : (kc : Int) ≤ left - pl
    · have hr : Hid (leftR left (cntT t) = left - pl - kc) := by show leftR left (cntT t) = left - pl - kc; rw [hc.out, leftR_yes (by omega)]; omega
      have hl3 : ¬ left - (pl : Int) - (kc : Int) < 0 := by omega
      unfold LeftPost at hih
      rw [leftR_yes h3] at hih
      clear ih
      go_enter Try.func15, Try.ntmps15
      go_wp2_with fail
      refine (hsz _).mono ?_
      rintro e w' ⟨rfl, rfl⟩
      go_wp2_with fail
      refine hih.mono ?_
      rintro e w1 ⟨rfl, hb1⟩
      have hpost : LeftPost left (cntT t) w (.returned (.int .i64 (left - pl - kc))) w1 := ⟨by rw [hr.out], hb0.trans (hb1.mono hb0.size)⟩
      clear hsz hih hb0 hb1 hr hk0
      go_wp2
      go_ret
      exact hpost
    · have hr : Hid (leftR left (cntT t) = -1) := by show leftR left (cntT t) = -1; rw [hc.out, leftR_no (by omega)]
      unfold LeftPost at hih
      rw [leftR_no h3] at hih
      clear ih
      go_enter Try.func15, Try.ntmps15
      go_wp2_with fail
      refine (hsz _).mono ?_
      rintro e w' ⟨rfl, rfl⟩
      go_wp2_with fail
      refine hih.mono ?_
      rintro e w1 ⟨rfl, hb1⟩
      have hpost : LeftPost left (cntT t) w (.returned (.int .i64 (-1))) w1 := ⟨by rw [hr.out], hb0.trans (hb1.mono hb0.size)⟩
      clear hsz hih hb0 hb1 hr hk0
      go_wp2
      go_ret
      exact hpost
  · have hr : Hid (leftR left (cntT t) = -1) := by show leftR left (cntT t) = -1; rw [hc.out, leftR_no (by omega)]
    have hsz := fun W => sz_no A pl c left W (by omega) h0 h1 (by omega)
    have hpost : LeftPost left (cntT t) w (.returned (.int .i64 (-1))) (w.alloc (.cells #[.int .i64 o, .int .i64 n, .slice A pl c, kv] 25)) := ⟨by rw [hr.out], hb0⟩
    clear ih hr hk0 hb0
    go_enter Try.func15, Try.ntmps15
    go_wp2_with fail
    refine (hsz _).mono ?_
    rintro e w' ⟨rfl, rfl⟩
    go_wp2
    go_ret
    exact hpost

theorem LeftPost.later {left : Int} {c : Nat} {w w1 w2 : World} {e : Ending} (h : LeftPost left c w1 e w2) (hb : Below w.heap.size w w1) : LeftPost left c w e w2 := ⟨h.1, hb.trans (h.2.mono hb.size)⟩

mutual
/-- .. anywhere within. -/
def Short : Tm → Prop
  | .mk _ _ p ks => p.length ≤ maxLen ∧ ks.length ≤ maxLen ∧ Shorts ks
def Shorts : List Tm → Prop
  | [] => True
  | t :: r => Short t ∧ Shorts r
end

theorem short_eq (t : Tm) : Short t ↔ t.perm.length ≤ maxLen ∧ t.kids.length ≤ maxLen ∧ Shorts t.kids := by cases t; simp [Short, Tm.perm, Tm.kids]
theorem shorts_at : ∀ {ts : List Tm} {i : Nat}, Shorts ts → i < ts.length → Short (tmAt ts i)
  | [], i, _, h => by simp at h
  | t :: r, 0, h, _ => h.1
  | t :: r, i + 1, h, hi => by rw [tmAt_cons_succ]; exact shorts_at h.2 (by simpa using hi)

set_option maxRecDepth 100000 in
set_option maxHeartbeats 2000000 in
theorem szTermS_step (ts : List Tm) (hsh : Shorts ts) (hlen : ts.length ≤ maxLen) (left : Int) (w : World) (x : Value) (h0 : 0 ≤ left) (h1 : left ≤ 1099511627776) (hx : TmsIn w x ts)
    (ih : ∀ i, i < ts.length → ∀ (left' : Int) (w' : World) (y : Value), 0 ≤ left' → left' ≤ 1099511627776 → TmsIn w' y (tmAt ts i).kids → Calls Try.prog 65 #[y, .int .i64 left'] w' (LeftPost left' ((tmAt ts i).kids.length + sumT (tmAt ts i).kids) w')) :
    Calls Try.prog 65 #[x, .int .i64 left] w (LeftPost left (ts.length + sumT ts) w) := by
  obtain ⟨A, c, rfl⟩ := hx.form
  unfold maxLen at hlen
  by_cases h2 : (ts.length : Int) ≤ left
  · have hl2 : ¬ left - (ts.length : Int) < 0 := by omega
    go_enter Try.func65, Try.ntmps65
    go_wp2
    go_loopw [1, 5] (fun l i wr => ∃ k : Nat, k ≤ ts.length ∧ i = .int .i64 k ∧ l = .int .i64 (left - ts.length - sumT (ts.take k)) ∧ (sumT (ts.take k) : Int) ≤ left - ts.length ∧ Below w.heap.size w wr) (fun _ i _ => ts.length - (intOf i).toNat)
    case atStart => exact ⟨0, Nat.zero_le _, rfl, by simp [sumT], by simp [sumT]; omega, Below.refl _ _⟩
    case round =>
      obtain ⟨k, hk, rfl, rfl, hle, hb⟩ := hrel
      by_cases hlt : k < ts.length
      · have hxr := hx.below hb
        obtain ⟨b, off, rfl, hbl, hget⟩ := hxr.get (by omega)
        obtain ⟨A1, c1, kv, d0, d1, d2, d3, hp1, hk1⟩ := hget k hlt
        have hct := szTerm_of (tmAt ts k) _ wr (left - ts.length - sumT (ts.take k)) (by omega) (by omega) ⟨A1, c1, kv, rfl, hp1, hk1⟩ ((short_eq _).1 (shorts_at hsh hlt)).1 (ih k hlt)
        have hnx := Lib.hid (sumT_next hlt)
        have hst := sumT_take ts (k + 1)
        generalize hc : cntT (tmAt ts k) = cc at hct hnx
        generalize hs : sumT (ts.take k) = s at hct hnx hle
        generalize (tmAt ts k).op = o at d0 hct
        generalize (tmAt ts k).num = n at d1 hct
        generalize (tmAt ts k).perm.length = pl at d2 hct
        clear hget hp1 hk1 hx hxr ih hc hs
        by_cases h3 : (cc : Int) ≤ left - ts.length - s
        · have hl3 : ¬ left - (ts.length : Int) - (s : Int) - (cc : Int) < 0 := by omega
          unfold LeftPost at hct
          rw [leftR_yes h3] at hct
          have hse : Hid (((sumT (ts.take (k + 1)) : Nat) : Int) = s + cc) := by show ((sumT (ts.take (k + 1)) : Nat) : Int) = s + cc; rw [hnx.out]; omega
          clear hst
          go_wp2_with fail
          refine hct.mono ?_
          rintro e w2 ⟨rfl, hb2⟩
          have hb3 := hb.trans (hb2.mono hb.size)
          clear hct hb2 d0 d1 d2 d3
          go_wp2
          refine ⟨⟨k + 1, by omega, by go_num, by rw [hse.out]; go_num, by rw [hse.out]; omega, hb3⟩, ?_⟩
          simp only [intOf]
          omega
        · unfold LeftPost at hct
          rw [leftR_no h3] at hct
          have hr : Hid (leftR left (ts.length + sumT ts) = -1) := by
            show leftR left (ts.length + sumT ts) = -1
            refine leftR_no ?_
            have := hnx.out
            omega
          clear hst
          go_wp2_with fail
          refine hct.mono ?_
          rintro e w2 ⟨rfl, hb2⟩
          have hpost : LeftPost left (ts.length + sumT ts) w (.returned (.int .i64 (-1))) w2 := ⟨by rw [hr.out], hb.trans (hb2.mono hb.size)⟩
          clear hct hb2 d0 d1 d2 d3 hr hb
          go_wp2
          go_ret
          exact hpost
      · have e : k = ts.length := by omega
        have hr : Hid (left - ts.length - sumT (ts.take k) = leftR left (ts.length + sumT ts)) := by
          show left - ts.length - sumT (ts.take k) = leftR left (ts.length + sumT ts)
          rw [List.take_of_length_le (by omega)] at hle ⊢
          rw [leftR_yes (by omega)]
          omega
        have hpost : LeftPost left (ts.length + sumT ts) w (.returned (.int .i64 (left - ts.length - sumT (ts.take k)))) wr := ⟨by rw [hr.out], hb⟩
        clear hx ih e hr hb
        go_wp2
        go_ret
        exact hpost
  · have hl2 : left - (ts.length : Int) < 0 := by omega
    have hpost : LeftPost left (ts.length + sumT ts) w (.returned (.int .i64 (-1))) w := ⟨by rw [leftR_no (by omega)], Below.refl _ _⟩
    clear ih hx
    go_enter Try.func65, Try.ntmps65
    go_wp2
    go_ret
    exact hpost

set_option maxRecDepth 100000 in
set_option maxHeartbeats 2000000 in
theorem szTermS_any : ∀ (N : Nat) (ts : List Tm), szTs ts ≤ N → Shorts ts → ts.length ≤ maxLen → ∀ (left : Int) (w : World) (x : Value), 0 ≤ left → left ≤ 1099511627776 → TmsIn w x ts →
    Calls Try.prog 65 #[x, .int .i64 left] w (LeftPost left (ts.length + sumT ts) w) := by
  intro N
  induction N with
  | zero =>
    intro ts hN hsh hlen left w x h0 h1 hx
    exact szTermS_step ts hsh hlen left w x h0 h1 hx fun i hi => absurd (szTs_kid hi) (by omega)
  | succ N ih =>
    intro ts hN hsh hlen left w x h0 h1 hx
    refine szTermS_step ts hsh hlen left w x h0 h1 hx fun i hi left' w' y g0 g1 hy => ?_
    have h2 := (short_eq _).1 (shorts_at hsh hi)
    exact ih _ (by have := szTs_kid hi; omega) h2.2.2 h2.2.1 left' w' y g0 g1 hy

end Go.Proofs.Ytnomidnjglbedaa
