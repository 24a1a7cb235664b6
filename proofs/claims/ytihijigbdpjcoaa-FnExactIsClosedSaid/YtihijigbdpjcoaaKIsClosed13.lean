/-
  Whether an index term is closed, in the model, as contracts.
-/
import Derived.Test.YtihijigbdpjcoaaKIsClosed12
namespace Go.Proofs.Ytihijigbdpjcoaa
open Go.RowKit Go.Sort
set_option linter.unusedVariables false

set_option maxRecDepth 100000 in
set_option maxHeartbeats 2000000 in
theorem l8Closed_of (t : Ix) (x : Value) (a : Int) (w : World) (hx : IxIn w x t) (hkl : t.kids.length ≤ 1048576) (ha : 0 ≤ a) (ha1 : a ≤ 1099511627776)
    (ih : ∀ i, i < t.kids.length → ∀ (w' : World) (y : Value), IxIn w' y (ixAt t.kids i) → Calls Try.prog 56 #[y, .int .i64 (if t.op = 3 then a + 1 else a)] w' (BoolPost (closedI (ixAt t.kids i) (if t.op = 3 then a + 1 else a)) w')) :
    Calls Try.prog 56 #[x, .int .i64 a] w (BoolPost (closedI t a) w) := by
  obtain ⟨B, d, rfl, hk⟩ := hx
  have hb0 : Below w.heap.size w (w.alloc (.cells #[.int .i64 t.op, .int .i64 t.num, .slice B t.kids.length d] 42)) := (Below.refl _ _).alloc (Nat.le_refl _) _
  rw [closedI_eq]
  by_cases h1 : t.op = 1
  · rw [if_pos h1]
    have q1 : (t.op == 1) = true := by simp [h1]
    clear ih hk h1
    by_cases h : t.num < a
    · rw [decide_eq_true h]
      go_enter Try.func56, Try.ntmps56
      go_wp2
      go_ret
      exact ⟨rfl, hb0⟩
    · rw [decide_eq_false h]
      have k1 : decide (t.num < a) = false := decide_eq_false h
      go_enter Try.func56, Try.ntmps56
      go_wp2
      go_ret
      exact ⟨rfl, hb0⟩
  rw [if_neg h1]
  have q1 : (t.op == 1) = false := by simpa using h1
  have hq3 : ∃ b : Bool, (t.op == 3) = b ∧ (if t.op = 3 then a + 1 else a) = cond b (a + 1) a := by
    by_cases h3 : t.op = 3
    · exact ⟨true, by simp [h3], by rw [if_pos h3]; rfl⟩
    · exact ⟨false, by simpa using h3, by rw [if_neg h3]; rfl⟩
  obtain ⟨b3, q3, he⟩ := hq3
  rw [he] at ih ⊢
  clear he h1
  have HK := Lib.hid hk
  clear hk
  cases b3 with
  | true =>
    simp only [cond] at ih ⊢
    go_enter Try.func56, Try.ntmps56
    go_wp2
    go_loopw [22] (fun i wr => ∃ k : Nat, k ≤ t.kids.length ∧ i = .int .i64 k ∧ closedIs (t.kids.take k) (a + 1) = true ∧ Below w.heap.size w wr) (fun i _ => t.kids.length - (intOf i).toNat)
    case atStart => exact ⟨0, Nat.zero_le _, rfl, by simp [closedIs], hb0⟩
    case round =>
      clear hb0
      obtain ⟨k, hk', rfl, hgt, hb⟩ := hrel
      have HGT := Lib.hid hgt
      clear hgt
      by_cases hlt : k < t.kids.length
      · obtain ⟨b, off, B1, e1, rfl, hbl, d0, d1, d2, hy⟩ := kid_ix (HK.out.below hb) hlt
        have hbx : Below wr.heap.size wr (wr.alloc (.cells #[.int .i64 (ixAt t.kids k).op, .int .i64 (ixAt t.kids k).num, .slice B1 (ixAt t.kids k).kids.length e1] 42)) := (Below.refl _ _).alloc (Nat.le_refl _) _
        have hct := ih k hlt _ _ (hy.below hbx)
        have hb2 := hb.trans (hbx.mono hb.size)
        have hno := fun h => Lib.hid (closedIs_no (d := (a + 1)) hlt h)
        have hnx := Lib.hid (closedIs_next hlt (a + 1))
        generalize ixAt t.kids k = u at d0 d1 d2 hct hbx hb2 hno hnx
        clear hy hbl hbx hb ih HK
        by_cases hgu : closedI u (a + 1) = true
        · rw [hgu] at hct
          have hnx' : Hid (closedIs (t.kids.take (k + 1)) (a + 1) = true) := by show closedIs (t.kids.take (k + 1)) (a + 1) = true; rw [hnx.out, HGT.out, hgu]; rfl
          clear hno hgu hnx
          go_wp2_with fail
          refine hct.mono ?_
          rintro e w2 ⟨rfl, hb3⟩
          have hb4 := hb2.trans (hb3.mono hb2.size)
          clear hct hb2 hb3 d0 d1 d2
          go_wp2
          refine ⟨⟨k + 1, by omega, by go_num, hnx'.out, hb4⟩, ?_⟩
          simp only [intOf]
          omega
        · have hgu' : closedI u (a + 1) = false := by simpa using hgu
          rw [hgu'] at hct
          have hr := hno hgu'
          clear hno hgu hgu' hnx
          go_wp2_with fail
          refine hct.mono ?_
          rintro e w2 ⟨rfl, hb3⟩
          have hpost : BoolPost (closedIs t.kids (a + 1)) w (.returned (.bool false)) w2 := ⟨by rw [hr.out], hb2.trans (hb3.mono hb2.size)⟩
          clear hct hb2 hb3 d0 d1 d2 hr
          go_wp2
          go_ret
          exact hpost
      · have hpost : BoolPost (closedIs t.kids (a + 1)) w (.returned (.bool true)) wr := ⟨by rw [← HGT.out, List.take_of_length_le (by omega)], hb⟩
        clear ih HK hb
        go_wp2
        go_ret
        exact hpost
  | false =>
    simp only [cond] at ih ⊢
    go_enter Try.func56, Try.ntmps56
    go_wp2
    go_loopw [22] (fun i wr => ∃ k : Nat, k ≤ t.kids.length ∧ i = .int .i64 k ∧ closedIs (t.kids.take k) a = true ∧ Below w.heap.size w wr) (fun i _ => t.kids.length - (intOf i).toNat)
    case atStart => exact ⟨0, Nat.zero_le _, rfl, by simp [closedIs], hb0⟩
    case round =>
      clear hb0
      obtain ⟨k, hk', rfl, hgt, hb⟩ := hrel
      have HGT := Lib.hid hgt
      clear hgt
      by_cases hlt : k < t.kids.length
      · obtain ⟨b, off, B1, e1, rfl, hbl, d0, d1, d2, hy⟩ := kid_ix (HK.out.below hb) hlt
        have hbx : Below wr.heap.size wr (wr.alloc (.cells #[.int .i64 (ixAt t.kids k).op, .int .i64 (ixAt t.kids k).num, .slice B1 (ixAt t.kids k).kids.length e1] 42)) := (Below.refl _ _).alloc (Nat.le_refl _) _
        have hct := ih k hlt _ _ (hy.below hbx)
        have hb2 := hb.trans (hbx.mono hb.size)
        have hno := fun h => Lib.hid (closedIs_no (d := a) hlt h)
        have hnx := Lib.hid (closedIs_next hlt a)
        generalize ixAt t.kids k = u at d0 d1 d2 hct hbx hb2 hno hnx
        clear hy hbl hbx hb ih HK
        by_cases hgu : closedI u a = true
        · rw [hgu] at hct
          have hnx' : Hid (closedIs (t.kids.take (k + 1)) a = true) := by show closedIs (t.kids.take (k + 1)) a = true; rw [hnx.out, HGT.out, hgu]; rfl
          clear hno hgu hnx
          go_wp2_with fail
          refine hct.mono ?_
          rintro e w2 ⟨rfl, hb3⟩
          have hb4 := hb2.trans (hb3.mono hb2.size)
          clear hct hb2 hb3 d0 d1 d2
          go_wp2
          refine ⟨⟨k + 1, by omega, by go_num, hnx'.out, hb4⟩, ?_⟩
          simp only [intOf]
          omega
        · have hgu' : closedI u a = false := by simpa using hgu
          rw [hgu'] at hct
          have hr := hno hgu'
          clear hno hgu hgu' hnx
          go_wp2_with fail
          refine hct.mono ?_
          rintro e w2 ⟨rfl, hb3⟩
          have hpost : BoolPost (closedIs t.kids a) w (.returned (.bool false)) w2 := ⟨by rw [hr.out], hb2.trans (hb3.mono hb2.size)⟩
          clear hct hb2 hb3 d0 d1 d2 hr
          go_wp2
          go_ret
          exact hpost
      · have hpost : BoolPost (closedIs t.kids a) w (.returned (.bool true)) wr := ⟨by rw [← HGT.out, List.take_of_length_le (by omega)], hb⟩
        clear ih HK hb
        go_wp2
        go_ret
        exact hpost

theorem l8Closed_any : ∀ (N : Nat) (t : Ix), szIx t ≤ N → FitIx t → ∀ (a : Int) (w : World) (x : Value), 0 ≤ a → a + szIx t ≤ 1099511627776 → IxIn w x t → Calls Try.prog 56 #[x, .int .i64 a] w (BoolPost (closedI t a) w) := by
  intro N
  induction N with
  | zero => intro t hN; rw [szIx_eq] at hN; omega
  | succ N ih =>
    intro t hN hf a w x ha ha1 hx
    have h2 := (fitIx_eq _).1 hf
    refine l8Closed_of t x a w hx h2.1 ha (by omega) fun i hi w' y hy => ?_
    have h3 := szIx_at hi
    rw [szIx_eq] at hN ha1
    refine ih _ (by omega) (fitIxs_at h2.2 hi) _ w' y ?_ ?_ hy
    · split <;> omega
    · split <;> omega

set_option maxRecDepth 100000 in
theorem isClosed_spec (t : Ix) (x : Value) (w : World) (hx : IxIn w x t) (hc : cntIx t ≤ 1048576) :
    Calls Try.prog 20 #[x] w (BoolPost (isIndexB t && closedI t 0) w) := by
  have hle := szIx_le t
  have hit := fun W hW => isIndexTerm_spec t x W hW hc
  have hcl := fun W hW => l8Closed_any _ t (Nat.le_refl _) (fitIx_of t hc) 0 W x (by omega) (by omega) hW
  have hx' := hx
  obtain ⟨B, d, rfl, hk⟩ := hx
  have hb0 : Below w.heap.size w (w.alloc (.cells #[.int .i64 t.op, .int .i64 t.num, .slice B t.kids.length d] 42)) := (Below.refl _ _).alloc (Nat.le_refl _) _
  have hi0 := hit _ (hx'.below hb0)
  clear hit
  by_cases h1 : isIndexB t = true
  · rw [h1, Bool.true_and]
    rw [h1] at hi0
    generalize closedI t 0 = c at hcl ⊢
    clear h1 hk hle
    go_enter Try.func20, Try.ntmps20
    go_wp2_with fail
    refine hi0.mono ?_
    rintro e w1 ⟨rfl, hb1⟩
    obtain ⟨b0, b1, b2⟩ := box3 hb1
    have hs1 := hb0.trans (hb1.mono hb0.size)
    have hc0 := hcl w1 (hx'.below hs1)
    clear hi0 hb0 hb1 hcl hx'
    go_wp2_with fail
    refine hc0.mono ?_
    rintro e w2 ⟨rfl, hb2⟩
    have hpost : BoolPost c w (.returned (.bool c)) w2 := ⟨rfl, hs1.trans (hb2.mono hs1.size)⟩
    clear hc0 hs1 hb2 b0 b1 b2
    go_wp2
    go_ret
    exact hpost
  · have h1' : isIndexB t = false := by simpa using h1
    rw [h1', Bool.false_and]
    rw [h1'] at hi0
    clear h1 h1' hx' hk hcl
    go_enter Try.func20, Try.ntmps20
    go_wp2_with fail
    refine hi0.mono ?_
    rintro e w1 ⟨rfl, hb1⟩
    have hpost : BoolPost false w (.returned (.bool false)) w1 := ⟨rfl, hb0.trans (hb1.mono hb0.size)⟩
    clear hi0 hb0 hb1
    go_wp2
    go_ret
    exact hpost
end Go.Proofs.Ytihijigbdpjcoaa
