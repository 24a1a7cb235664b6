/-
  Whether a value is a formula, in the model, as contracts.
-/
import Derived.Test.YtjjokghcjgighaaKIsFormula15
import Derived.Test.YtjjokghcjgighaaKIsFormula3
namespace Go.Proofs.Ytjjokghcjgighaa
open Go.RowKit Go.Sort
set_option linter.unusedVariables false

theorem alone_none {P : Fm → Bool} {n : Int} {t : Fm} (hP : ∀ u, P u = false) (hn : 1 ≤ n) : aloneB P n t = false := by
  unfold aloneB
  by_cases h : (t.kids.length : Int) = n
  · rw [show t.kids.all P = false from allF_no (k := 0) (by omega) (hP _)]; simp
  · simp [h]
theorem fw_wide {d : Nat} {z : Int} (h : 4 < z) (u : Fm) : fwB d z u = false := by
  cases d with
  | zero => rfl
  | succ d => exact fw_no (by simp [widB]; omega)
theorem fw_same {d : Nat} {z' n : Int} {t : Fm} (hn : 1 ≤ n) : aloneB (fwB d z') n t = (decide (1 < d + 1) && decide (z' ≤ 4) && aloneB (fwB d z') n t) := by
  by_cases h1 : d = 0
  · subst h1
    rw [alone_none (P := fwB 0 z') (fun u => rfl) hn]; simp
  · by_cases h2 : z' ≤ 4
    · simp [h2]; omega
    · rw [alone_none (P := fwB d z') (fun u => fw_wide (by omega) u) hn]; simp
theorem fw_is {d : Nat} {z z' n o a b : Int} {ks : List Fm} (h0 : 0 ≤ z) (h4 : z ≤ 4)
    (h : (o = 3 ∧ n = 1 ∧ z' = z) ∨ (o = 4 ∧ n = 2 ∧ z' = z) ∨ (o = 5 ∧ n = 2 ∧ z' = z) ∨ (o = 6 ∧ n = 1 ∧ z' = z + 1) ∨ (o = 7 ∧ n = 1 ∧ z' = z + 1)) :
    fwB d z (.mk o a b ks) = (decide (1 < d) && decide (z' ≤ 4) && aloneB (fwB (d - 1) z') n (.mk o a b ks)) := by
  cases d with
  | zero => rfl
  | succ d =>
    rw [fw_yes (widB_iff.2 ⟨h0, h4⟩), Nat.add_sub_cancel]
    rcases h with ⟨rfl, rfl, rfl⟩ | ⟨rfl, rfl, rfl⟩ | ⟨rfl, rfl, rfl⟩ | ⟨rfl, rfl, rfl⟩ | ⟨rfl, rfl, rfl⟩
    all_goals exact (by simp only [Int.reduceEq, if_true, if_false]; exact fw_same (by decide))
theorem fw_none {d : Nat} {z z' n o a b : Int} {ks : List Fm} (h0 : 0 ≤ z) (h4 : z ≤ 4)
    (h : (o = 3 ∧ n = 1 ∧ z' = z) ∨ (o = 4 ∧ n = 2 ∧ z' = z) ∨ (o = 5 ∧ n = 2 ∧ z' = z) ∨ (o = 6 ∧ n = 1 ∧ z' = z + 1) ∨ (o = 7 ∧ n = 1 ∧ z' = z + 1))
    (hn : (ks.length : Int) ≠ n ∨ a ≠ 0 ∨ b ≠ 0 ∨ d ≤ 1 ∨ 4 < z' ∨ ks.all (fwB (d - 1) z') = false) : fwB d z (.mk o a b ks) = false := by
  rw [fw_is h0 h4 h]
  unfold aloneB
  simp only [Fm.fa, Fm.fb, Fm.kids]
  rcases hn with hn | hn | hn | hn | hn | hn
  · simp [hn]
  · simp [hn]
  · simp [hn]
  · have : ¬ 1 < d := by omega
    simp [this]
  · have : ¬ z' ≤ 4 := by omega
    simp [this]
  · simp [hn]
theorem fw_some {d : Nat} {z z' n o : Int} {ks : List Fm} (h0 : 0 ≤ z) (h4 : z ≤ 4)
    (h : (o = 3 ∧ n = 1 ∧ z' = z) ∨ (o = 4 ∧ n = 2 ∧ z' = z) ∨ (o = 5 ∧ n = 2 ∧ z' = z) ∨ (o = 6 ∧ n = 1 ∧ z' = z + 1) ∨ (o = 7 ∧ n = 1 ∧ z' = z + 1))
    (hl : (ks.length : Int) = n) (hd : 1 < d) (hz : z' ≤ 4) (ha : ks.all (fwB (d - 1) z') = true) : fwB d z (.mk o 0 0 ks) = true := by
  rw [fw_is h0 h4 h]
  unfold aloneB
  simp only [Fm.fa, Fm.fb, Fm.kids]
  simp [hl, hd, hz, ha]
theorem fw_leaf {d : Nat} {z a b : Int} {ks : List Fm} (h0 : 0 ≤ z) (h4 : z ≤ 4) : fwB d z (.mk 1 a b ks) = ((placeB a z && placeB b z) && decide (ks.length = 0) && decide (0 < d)) := by
  cases d with
  | zero => simp [fwB]
  | succ d => rw [fw_yes (widB_iff.2 ⟨h0, h4⟩)]; simp [leafB, Fm.kids]
theorem fw_leaf2 {d : Nat} {z a b : Int} {ks : List Fm} (h0 : 0 ≤ z) (h4 : z ≤ 4) : fwB d z (.mk 2 a b ks) = ((placeB a z && atomB b) && decide (ks.length = 0) && decide (0 < d)) := by
  cases d with
  | zero => simp [fwB]
  | succ d => rw [fw_yes (widB_iff.2 ⟨h0, h4⟩)]; simp [leafB, Fm.kids]
theorem fw_other {d : Nat} {z o a b : Int} {ks : List Fm} (h0 : 0 ≤ z) (h4 : z ≤ 4) (h1 : o ≠ 1) (h2 : o ≠ 2) (h3 : o ≠ 3) (h5 : o ≠ 4) (h6 : o ≠ 5) (h7 : o ≠ 6) (h8 : o ≠ 7) : fwB d z (.mk o a b ks) = false := by
  cases d with
  | zero => simp [fwB]
  | succ d => rw [fw_yes (widB_iff.2 ⟨h0, h4⟩)]; simp [h1, h2, h3, h5, h6, h7, h8]

/-- The contract that is handed down. -/
def RightC (d : Nat) : Prop := ∀ (D : Int), D = d → ∀ (t : Fm) (z : Int) (x : Value) (w : World), 0 ≤ z → z ≤ 4 → FitFm t → FmIn w x t → Calls Try.prog 58 #[x, .int .i64 z, .int .i64 D] w (BoolP (fwB d z t) w)

set_option maxRecDepth 100000 in
set_option maxHeartbeats 4000000 in
theorem right_leaf1 (d : Nat) (hd : d ≤ 6) (D : Int) (hD : D = d) (z a b : Int) (B : Option Addr) (e : Nat) (ks : List Fm) (w : World) (h0 : 0 ≤ z) (h4 : z ≤ 4) :
    Calls Try.prog 58 #[.agg #[.int .i64 1, .int .i64 a, .int .i64 b, .slice B ks.length e], .int .i64 z, .int .i64 D] w (BoolP (fwB d z (.mk 1 a b ks)) w) := by
  have hb0 : Below w.heap.size w (w.alloc (.cells #[.int .i64 1, .int .i64 a, .int .i64 b, .slice B ks.length e] 51)) := (Below.refl _ _).alloc (Nat.le_refl _) _
  have hpa := fun W => l1In_any a 0 (z - 1) W
  have hpb := fun W => l1In_any b 0 (z - 1) W
  have ea : decide ((0 : Int) ≤ a ∧ a ≤ z - 1) = placeB a z := by unfold placeB; congr 1; rw [eq_iff_iff]; constructor <;> (intro h; omega)
  rw [ea] at hpa
  have eb : decide ((0 : Int) ≤ b ∧ b ≤ z - 1) = placeB b z := by unfold placeB; congr 1; rw [eq_iff_iff]; constructor <;> (intro h; omega)
  rw [eb] at hpb
  have hn := Lib.hid (fw_leaf (d := d) (a := a) (b := b) (ks := ks) h0 h4)
  rw [hn.out]
  clear hn ea eb
  have hdd : decide (0 < d) = decide (0 < D) := by rw [decide_eq_decide]; omega
  rw [hdd]
  clear hdd
  have hD0 : 0 ≤ D := by omega
  have hD6 : D ≤ 6 := by omega
  clear hD hd
  generalize placeB a z = p1 at *
  generalize placeB b z = p2 at *
  cases p1 with
  | false =>
    go_enter Try.func58, Try.ntmps58
    go_wp2_with (go_at_call 43; refine (hpa _).mono ?_; rintro e w2 ⟨rfl, rfl⟩)
    go_ret
    exact ⟨rfl, hb0⟩
  | true =>
    cases p2 with
    | false =>
      go_enter Try.func58, Try.ntmps58
      go_wp2_with (first
        | (go_at_call_of 43 a; refine (hpa _).mono ?_; rintro e w2 ⟨rfl, rfl⟩)
        | (go_at_call_of 43 b; refine (hpb _).mono ?_; rintro e w2 ⟨rfl, rfl⟩))
      go_ret
      exact ⟨rfl, hb0⟩
    | true =>
      by_cases hk : ks.length = 0
      · rw [hk] at hb0 ⊢
        go_enter Try.func58, Try.ntmps58
        go_wp2_with (first
          | (go_at_call_of 43 a; refine (hpa _).mono ?_; rintro e w2 ⟨rfl, rfl⟩)
          | (go_at_call_of 43 b; refine (hpb _).mono ?_; rintro e w2 ⟨rfl, rfl⟩))
        go_ret
        exact ⟨bool_end (by first | rfl | (rw [Bool.eq_iff_iff]; simp) | (simp; omega)), hb0⟩
      · have hk2 : ¬ ((ks.length : Int) = 0) := by omega
        go_enter Try.func58, Try.ntmps58
        go_wp2_with (first
          | (go_at_call_of 43 a; refine (hpa _).mono ?_; rintro e w2 ⟨rfl, rfl⟩)
          | (go_at_call_of 43 b; refine (hpb _).mono ?_; rintro e w2 ⟨rfl, rfl⟩))
        go_ret
        exact ⟨bool_end (by simp [hk]), hb0⟩

set_option maxRecDepth 100000 in
set_option maxHeartbeats 4000000 in
theorem right_leaf2 (d : Nat) (hd : d ≤ 6) (D : Int) (hD : D = d) (z a b : Int) (B : Option Addr) (e : Nat) (ks : List Fm) (w : World) (h0 : 0 ≤ z) (h4 : z ≤ 4) :
    Calls Try.prog 58 #[.agg #[.int .i64 2, .int .i64 a, .int .i64 b, .slice B ks.length e], .int .i64 z, .int .i64 D] w (BoolP (fwB d z (.mk 2 a b ks)) w) := by
  have hb0 : Below w.heap.size w (w.alloc (.cells #[.int .i64 2, .int .i64 a, .int .i64 b, .slice B ks.length e] 51)) := (Below.refl _ _).alloc (Nat.le_refl _) _
  have hpa := fun W => l1In_any a 0 (z - 1) W
  have hpb := fun W => l1Atom_any b W
  have ea : decide ((0 : Int) ≤ a ∧ a ≤ z - 1) = placeB a z := by unfold placeB; congr 1; rw [eq_iff_iff]; constructor <;> (intro h; omega)
  rw [ea] at hpa
  have hn := Lib.hid (fw_leaf2 (d := d) (a := a) (b := b) (ks := ks) h0 h4)
  rw [hn.out]
  clear hn ea 
  have hdd : decide (0 < d) = decide (0 < D) := by rw [decide_eq_decide]; omega
  rw [hdd]
  clear hdd
  have hD0 : 0 ≤ D := by omega
  have hD6 : D ≤ 6 := by omega
  clear hD hd
  generalize placeB a z = p1 at *
  generalize atomB b = p2 at *
  cases p1 with
  | false =>
    go_enter Try.func58, Try.ntmps58
    go_wp2_with (go_at_call 43; refine (hpa _).mono ?_; rintro e w2 ⟨rfl, rfl⟩)
    go_ret
    exact ⟨rfl, hb0⟩
  | true =>
    cases p2 with
    | false =>
      go_enter Try.func58, Try.ntmps58
      go_wp2_with (first
        | (go_at_call_of 43 a; refine (hpa _).mono ?_; rintro e w2 ⟨rfl, rfl⟩)
        | (go_at_call 64; refine (hpb _).mono ?_; rintro e w2 ⟨rfl, rfl⟩))
      go_ret
      exact ⟨rfl, hb0⟩
    | true =>
      by_cases hk : ks.length = 0
      · rw [hk] at hb0 ⊢
        go_enter Try.func58, Try.ntmps58
        go_wp2_with (first
          | (go_at_call_of 43 a; refine (hpa _).mono ?_; rintro e w2 ⟨rfl, rfl⟩)
          | (go_at_call 64; refine (hpb _).mono ?_; rintro e w2 ⟨rfl, rfl⟩))
        go_ret
        exact ⟨bool_end (by first | rfl | (rw [Bool.eq_iff_iff]; simp) | (simp; omega)), hb0⟩
      · have hk2 : ¬ ((ks.length : Int) = 0) := by omega
        go_enter Try.func58, Try.ntmps58
        go_wp2_with (first
          | (go_at_call_of 43 a; refine (hpa _).mono ?_; rintro e w2 ⟨rfl, rfl⟩)
          | (go_at_call 64; refine (hpb _).mono ?_; rintro e w2 ⟨rfl, rfl⟩))
        go_ret
        exact ⟨bool_end (by simp [hk]), hb0⟩

set_option maxRecDepth 100000 in
set_option maxHeartbeats 8000000 in
theorem right_kids3 (d : Nat) (hd : d ≤ 6) (ih : ∀ d', d' + 1 = d → RightC d') (D : Int) (hD : D = d) (z a b : Int) (B : Option Addr) (e : Nat) (ks : List Fm) (w : World) (h0 : 0 ≤ z) (h4 : z ≤ 4) (hf : FitFms ks) (hk : FmsIn w (.slice B ks.length e) ks) :
    Calls Try.prog 58 #[.agg #[.int .i64 3, .int .i64 a, .int .i64 b, .slice B ks.length e], .int .i64 z, .int .i64 D] w (BoolP (fwB d z (.mk 3 a b ks)) w) := by
  have hb0 : Below w.heap.size w (w.alloc (.cells #[.int .i64 3, .int .i64 a, .int .i64 b, .slice B ks.length e] 51)) := (Below.refl _ _).alloc (Nat.le_refl _) _
  have hD0 : 0 ≤ D := by omega
  have hD6 : D ≤ 6 := by omega
  by_cases hl : (ks.length : Int) = 1
  · have hkn : ks.length = 1 := by omega
    by_cases ha : a = 0
    · by_cases hb : b = 0
      · by_cases hd1 : D ≤ 1
        · have hn := Lib.hid (fw_none (d := d) (a := a) (b := b) (ks := ks) (n := 1) (z' := z) h0 h4 (.inl ⟨rfl, rfl, rfl⟩) (.inr (.inr (.inr (.inl (by omega))))))
          rw [hn.out]
          subst ha hb
          rw [hkn] at hb0 ⊢
          clear hk hf ih hn hD hl hkn
          go_enter Try.func58, Try.ntmps58
          go_wp2
          go_ret
          exact ⟨rfl, hb0⟩
        · by_cases hm : z ≤ 4
          · subst ha hb
            have hih := ih (d - 1) (by omega) (D - 1) (by omega)
            have hyes := Lib.hid (fun (h : ks.all (fwB (d - 1) z) = true) => fw_some (d := d) (ks := ks) (n := 1) (z' := z) h0 h4 (.inl ⟨rfl, rfl, rfl⟩) (by omega) (by omega) hm h)
            have hno := Lib.hid (fun (h : ks.all (fwB (d - 1) z) = false) => fw_none (d := d) (a := 0) (b := 0) (ks := ks) (n := 1) (z' := z) h0 h4 (.inl ⟨rfl, rfl, rfl⟩) (.inr (.inr (.inr (.inr (.inr h))))))
            have hd2 : 1 < D := by omega
            have hfa := Lib.hid (fun i (h : i < ks.length) => fitFms_at hf h)
            have hk2 := hk
            generalize fwB d z (.mk 3 0 0 ks) = RES at *
            generalize d - 1 = dd at *
            have HB0 := Lib.hid hb0
            clear hD hd hd1 ih hf hb0 hk
            have hkz : Value.slice B ks.length e = Value.slice B 1 e := by rw [hkn]
            have hli : Hid ((ks.length : Int) = 1) := hl
            have hlk : Hid (ks.length = 1) := hkn
            rw [hkz] at hk2 HB0 ⊢
            clear hkz hl hkn
            go_enter Try.func58, Try.ntmps58
            go_wp2
            go_loopw [10, 100] (fun _ i wr => ∃ k : Nat, k ≤ 1 ∧ i = .int .i64 k ∧ Hid (∀ j, j < k → fwB dd z (fmAt ks j) = true) ∧ Below w.heap.size w wr) (fun _ i _ => 1 - (intOf i).toNat)
            case atStart => exact ⟨0, Nat.zero_le _, rfl, Lib.hid (fun j hj => absurd hj (by omega)), HB0.out⟩
            case round =>
              obtain ⟨k, hkl, rfl, hq, hb⟩ := hrel
              by_cases hlt : k < 1
              · obtain ⟨b1, o1, rfl, hbl, hc1⟩ := (hk2.below hb).get (by have := hlk.out; omega)
                obtain ⟨B1, e1, d0, d1, d2, d3, hk1⟩ := hc1 k (by have := hlk.out; omega)
                have hfk := hfa.out k (by have := hlk.out; omega)
                have hbx : Below wr.heap.size wr (wr.alloc (.cells #[.int .i64 (fmAt ks k).op, .int .i64 (fmAt ks k).fa, .int .i64 (fmAt ks k).fb, .slice B1 (fmAt ks k).kids.length e1] 51)) := (Below.refl _ _).alloc (Nat.le_refl _) _
                have hct := hih (fmAt ks k) z _ (wr.alloc (.cells #[.int .i64 (fmAt ks k).op, .int .i64 (fmAt ks k).fa, .int .i64 (fmAt ks k).fb, .slice B1 (fmAt ks k).kids.length e1] 51)) (by omega) hm hfk ⟨B1, e1, rfl, hk1.below hbx⟩
                have hqs := Lib.hid (fun (h : fwB dd z (fmAt ks k) = true) => (show ∀ j, j < k + 1 → fwB dd z (fmAt ks j) = true from fun j hj => by
                  by_cases e : j = k
                  · rw [e]; exact h
                  · exact hq.out j (by omega)))
                have hqn := Lib.hid (fun (h : fwB dd z (fmAt ks k) = false) => hno.out (allF_no (by have := hlk.out; omega) h))
                have hba := hb.alloc hb.size (.cells #[.int .i64 (fmAt ks k).op, .int .i64 (fmAt ks k).fa, .int .i64 (fmAt ks k).fb, .slice B1 (fmAt ks k).kids.length e1] 51)
                generalize fwB dd z (fmAt ks k) = r at *
                generalize fmAt ks k = u at *
                clear hc1 hk1 hbx hfk hq
                cases r with
                | false =>
                  have hre := hqn.out rfl
                  clear hqs hqn
                  go_wp2_with (go_at_call 58; refine hct.mono ?_; rintro e w4 ⟨rfl, hb4⟩; have hb5 := hba.trans (hb4.mono hba.size))
                  go_ret
                  exact ⟨bool_end hre.symm, hb5⟩
                | true =>
                  have hqq := Lib.hid (hqs.out rfl)
                  clear hqs hqn
                  go_wp2_with (go_at_call 58; refine hct.mono ?_; rintro e w4 ⟨rfl, hb4⟩; have hb5 := hba.trans (hb4.mono hba.size))
                  clear hct hb4 hba hb d0 d1 d2 d3
                  refine ⟨⟨k + 1, by omega, by go_num, hqq, hb5⟩, ?_⟩
                  simp only [intOf]
                  omega
              · have e : k = 1 := by omega
                subst e
                have hre := hyes.out (allF_yes fun j hj => hq.out j (by have := hlk.out; omega))
                clear hq hk2 hih
                go_wp2
                go_ret
                exact ⟨bool_end hre.symm, hb⟩
          · have hn := Lib.hid (fw_none (d := d) (a := a) (b := b) (ks := ks) (n := 1) (z' := z) h0 h4 (.inl ⟨rfl, rfl, rfl⟩) (.inr (.inr (.inr (.inr (.inl (by omega)))))))
            rw [hn.out]
            subst ha hb
            rw [hkn] at hb0 ⊢
            have hm2 : 4 < z := by omega
            have hd2 : 1 < D := by omega
            clear hk hf ih hn hD hl hkn hd hm hd1
            omega
            
            
            
      · have hn := Lib.hid (fw_none (d := d) (a := a) (b := b) (ks := ks) (n := 1) (z' := z) h0 h4 (.inl ⟨rfl, rfl, rfl⟩) (.inr (.inr (.inl hb))))
        rw [hn.out]
        have hbb : (b != 0) = true := by simp [hb]
        subst ha
        rw [hkn] at hb0 ⊢
        clear hk hf ih hn hD hl hkn
        go_enter Try.func58, Try.ntmps58
        go_wp2
        go_ret
        exact ⟨rfl, hb0⟩
    · have hn := Lib.hid (fw_none (d := d) (a := a) (b := b) (ks := ks) (n := 1) (z' := z) h0 h4 (.inl ⟨rfl, rfl, rfl⟩) (.inr (.inl ha)))
      rw [hn.out]
      have haa : (a != 0) = true := by simp [ha]
      rw [hkn] at hb0 ⊢
      clear hk hf ih hn hD hl hkn
      go_enter Try.func58, Try.ntmps58
      go_wp2
      go_ret
      exact ⟨rfl, hb0⟩
  · have hn := Lib.hid (fw_none (d := d) (a := a) (b := b) (ks := ks) (n := 1) (z' := z) h0 h4 (.inl ⟨rfl, rfl, rfl⟩) (.inl hl))
    rw [hn.out]
    have hll : ((ks.length : Int) != 1) = true := by simp [hl]
    clear hk hf ih hn hD
    go_enter Try.func58, Try.ntmps58
    go_wp2
    go_ret
    exact ⟨rfl, hb0⟩

set_option maxRecDepth 100000 in
set_option maxHeartbeats 8000000 in
theorem right_kids4 (d : Nat) (hd : d ≤ 6) (ih : ∀ d', d' + 1 = d → RightC d') (D : Int) (hD : D = d) (z a b : Int) (B : Option Addr) (e : Nat) (ks : List Fm) (w : World) (h0 : 0 ≤ z) (h4 : z ≤ 4) (hf : FitFms ks) (hk : FmsIn w (.slice B ks.length e) ks) :
    Calls Try.prog 58 #[.agg #[.int .i64 4, .int .i64 a, .int .i64 b, .slice B ks.length e], .int .i64 z, .int .i64 D] w (BoolP (fwB d z (.mk 4 a b ks)) w) := by
  have hb0 : Below w.heap.size w (w.alloc (.cells #[.int .i64 4, .int .i64 a, .int .i64 b, .slice B ks.length e] 51)) := (Below.refl _ _).alloc (Nat.le_refl _) _
  have hD0 : 0 ≤ D := by omega
  have hD6 : D ≤ 6 := by omega
  by_cases hl : (ks.length : Int) = 2
  · have hkn : ks.length = 2 := by omega
    by_cases ha : a = 0
    · by_cases hb : b = 0
      · by_cases hd1 : D ≤ 1
        · have hn := Lib.hid (fw_none (d := d) (a := a) (b := b) (ks := ks) (n := 2) (z' := z) h0 h4 (.inr (.inl ⟨rfl, rfl, rfl⟩)) (.inr (.inr (.inr (.inl (by omega))))))
          rw [hn.out]
          subst ha hb
          rw [hkn] at hb0 ⊢
          clear hk hf ih hn hD hl hkn
          go_enter Try.func58, Try.ntmps58
          go_wp2
          go_ret
          exact ⟨rfl, hb0⟩
        · by_cases hm : z ≤ 4
          · subst ha hb
            have hih := ih (d - 1) (by omega) (D - 1) (by omega)
            have hyes := Lib.hid (fun (h : ks.all (fwB (d - 1) z) = true) => fw_some (d := d) (ks := ks) (n := 2) (z' := z) h0 h4 (.inr (.inl ⟨rfl, rfl, rfl⟩)) (by omega) (by omega) hm h)
            have hno := Lib.hid (fun (h : ks.all (fwB (d - 1) z) = false) => fw_none (d := d) (a := 0) (b := 0) (ks := ks) (n := 2) (z' := z) h0 h4 (.inr (.inl ⟨rfl, rfl, rfl⟩)) (.inr (.inr (.inr (.inr (.inr h))))))
            have hd2 : 1 < D := by omega
            have hfa := Lib.hid (fun i (h : i < ks.length) => fitFms_at hf h)
            have hk2 := hk
            generalize fwB d z (.mk 4 0 0 ks) = RES at *
            generalize d - 1 = dd at *
            have HB0 := Lib.hid hb0
            clear hD hd hd1 ih hf hb0 hk
            have hkz : Value.slice B ks.length e = Value.slice B 2 e := by rw [hkn]
            have hli : Hid ((ks.length : Int) = 2) := hl
            have hlk : Hid (ks.length = 2) := hkn
            rw [hkz] at hk2 HB0 ⊢
            clear hkz hl hkn
            go_enter Try.func58, Try.ntmps58
            go_wp2
            go_loopw [10, 100] (fun _ i wr => ∃ k : Nat, k ≤ 2 ∧ i = .int .i64 k ∧ Hid (∀ j, j < k → fwB dd z (fmAt ks j) = true) ∧ Below w.heap.size w wr) (fun _ i _ => 2 - (intOf i).toNat)
            case atStart => exact ⟨0, Nat.zero_le _, rfl, Lib.hid (fun j hj => absurd hj (by omega)), HB0.out⟩
            case round =>
              obtain ⟨k, hkl, rfl, hq, hb⟩ := hrel
              by_cases hlt : k < 2
              · obtain ⟨b1, o1, rfl, hbl, hc1⟩ := (hk2.below hb).get (by have := hlk.out; omega)
                obtain ⟨B1, e1, d0, d1, d2, d3, hk1⟩ := hc1 k (by have := hlk.out; omega)
                have hfk := hfa.out k (by have := hlk.out; omega)
                have hbx : Below wr.heap.size wr (wr.alloc (.cells #[.int .i64 (fmAt ks k).op, .int .i64 (fmAt ks k).fa, .int .i64 (fmAt ks k).fb, .slice B1 (fmAt ks k).kids.length e1] 51)) := (Below.refl _ _).alloc (Nat.le_refl _) _
                have hct := hih (fmAt ks k) z _ (wr.alloc (.cells #[.int .i64 (fmAt ks k).op, .int .i64 (fmAt ks k).fa, .int .i64 (fmAt ks k).fb, .slice B1 (fmAt ks k).kids.length e1] 51)) (by omega) hm hfk ⟨B1, e1, rfl, hk1.below hbx⟩
                have hqs := Lib.hid (fun (h : fwB dd z (fmAt ks k) = true) => (show ∀ j, j < k + 1 → fwB dd z (fmAt ks j) = true from fun j hj => by
                  by_cases e : j = k
                  · rw [e]; exact h
                  · exact hq.out j (by omega)))
                have hqn := Lib.hid (fun (h : fwB dd z (fmAt ks k) = false) => hno.out (allF_no (by have := hlk.out; omega) h))
                have hba := hb.alloc hb.size (.cells #[.int .i64 (fmAt ks k).op, .int .i64 (fmAt ks k).fa, .int .i64 (fmAt ks k).fb, .slice B1 (fmAt ks k).kids.length e1] 51)
                generalize fwB dd z (fmAt ks k) = r at *
                generalize fmAt ks k = u at *
                clear hc1 hk1 hbx hfk hq
                cases r with
                | false =>
                  have hre := hqn.out rfl
                  clear hqs hqn
                  go_wp2_with (go_at_call 58; refine hct.mono ?_; rintro e w4 ⟨rfl, hb4⟩; have hb5 := hba.trans (hb4.mono hba.size))
                  go_ret
                  exact ⟨bool_end hre.symm, hb5⟩
                | true =>
                  have hqq := Lib.hid (hqs.out rfl)
                  clear hqs hqn
                  go_wp2_with (go_at_call 58; refine hct.mono ?_; rintro e w4 ⟨rfl, hb4⟩; have hb5 := hba.trans (hb4.mono hba.size))
                  clear hct hb4 hba hb d0 d1 d2 d3
                  refine ⟨⟨k + 1, by omega, by go_num, hqq, hb5⟩, ?_⟩
                  simp only [intOf]
                  omega
              · have e : k = 2 := by omega
                subst e
                have hre := hyes.out (allF_yes fun j hj => hq.out j (by have := hlk.out; omega))
                clear hq hk2 hih
                go_wp2
                go_ret
                exact ⟨bool_end hre.symm, hb⟩
          · have hn := Lib.hid (fw_none (d := d) (a := a) (b := b) (ks := ks) (n := 2) (z' := z) h0 h4 (.inr (.inl ⟨rfl, rfl, rfl⟩)) (.inr (.inr (.inr (.inr (.inl (by omega)))))))
            rw [hn.out]
            subst ha hb
            rw [hkn] at hb0 ⊢
            have hm2 : 4 < z := by omega
            have hd2 : 1 < D := by omega
            clear hk hf ih hn hD hl hkn hd hm hd1
            omega
            
            
            
      · have hn := Lib.hid (fw_none (d := d) (a := a) (b := b) (ks := ks) (n := 2) (z' := z) h0 h4 (.inr (.inl ⟨rfl, rfl, rfl⟩)) (.inr (.inr (.inl hb))))
        rw [hn.out]
        have hbb : (b != 0) = true := by simp [hb]
        subst ha
        rw [hkn] at hb0 ⊢
        clear hk hf ih hn hD hl hkn
        go_enter Try.func58, Try.ntmps58
        go_wp2
        go_ret
        exact ⟨rfl, hb0⟩
    · have hn := Lib.hid (fw_none (d := d) (a := a) (b := b) (ks := ks) (n := 2) (z' := z) h0 h4 (.inr (.inl ⟨rfl, rfl, rfl⟩)) (.inr (.inl ha)))
      rw [hn.out]
      have haa : (a != 0) = true := by simp [ha]
      rw [hkn] at hb0 ⊢
      clear hk hf ih hn hD hl hkn
      go_enter Try.func58, Try.ntmps58
      go_wp2
      go_ret
      exact ⟨rfl, hb0⟩
  · have hn := Lib.hid (fw_none (d := d) (a := a) (b := b) (ks := ks) (n := 2) (z' := z) h0 h4 (.inr (.inl ⟨rfl, rfl, rfl⟩)) (.inl hl))
    rw [hn.out]
    have hll : ((ks.length : Int) != 2) = true := by simp [hl]
    clear hk hf ih hn hD
    go_enter Try.func58, Try.ntmps58
    go_wp2
    go_ret
    exact ⟨rfl, hb0⟩

set_option maxRecDepth 100000 in
set_option maxHeartbeats 8000000 in
theorem right_kids5 (d : Nat) (hd : d ≤ 6) (ih : ∀ d', d' + 1 = d → RightC d') (D : Int) (hD : D = d) (z a b : Int) (B : Option Addr) (e : Nat) (ks : List Fm) (w : World) (h0 : 0 ≤ z) (h4 : z ≤ 4) (hf : FitFms ks) (hk : FmsIn w (.slice B ks.length e) ks) :
    Calls Try.prog 58 #[.agg #[.int .i64 5, .int .i64 a, .int .i64 b, .slice B ks.length e], .int .i64 z, .int .i64 D] w (BoolP (fwB d z (.mk 5 a b ks)) w) := by
  have hb0 : Below w.heap.size w (w.alloc (.cells #[.int .i64 5, .int .i64 a, .int .i64 b, .slice B ks.length e] 51)) := (Below.refl _ _).alloc (Nat.le_refl _) _
  have hD0 : 0 ≤ D := by omega
  have hD6 : D ≤ 6 := by omega
  by_cases hl : (ks.length : Int) = 2
  · have hkn : ks.length = 2 := by omega
    by_cases ha : a = 0
    · by_cases hb : b = 0
      · by_cases hd1 : D ≤ 1
        · have hn := Lib.hid (fw_none (d := d) (a := a) (b := b) (ks := ks) (n := 2) (z' := z) h0 h4 (.inr (.inr (.inl ⟨rfl, rfl, rfl⟩))) (.inr (.inr (.inr (.inl (by omega))))))
          rw [hn.out]
          subst ha hb
          rw [hkn] at hb0 ⊢
          clear hk hf ih hn hD hl hkn
          go_enter Try.func58, Try.ntmps58
          go_wp2
          go_ret
          exact ⟨rfl, hb0⟩
        · by_cases hm : z ≤ 4
          · subst ha hb
            have hih := ih (d - 1) (by omega) (D - 1) (by omega)
            have hyes := Lib.hid (fun (h : ks.all (fwB (d - 1) z) = true) => fw_some (d := d) (ks := ks) (n := 2) (z' := z) h0 h4 (.inr (.inr (.inl ⟨rfl, rfl, rfl⟩))) (by omega) (by omega) hm h)
            have hno := Lib.hid (fun (h : ks.all (fwB (d - 1) z) = false) => fw_none (d := d) (a := 0) (b := 0) (ks := ks) (n := 2) (z' := z) h0 h4 (.inr (.inr (.inl ⟨rfl, rfl, rfl⟩))) (.inr (.inr (.inr (.inr (.inr h))))))
            have hd2 : 1 < D := by omega
            have hfa := Lib.hid (fun i (h : i < ks.length) => fitFms_at hf h)
            have hk2 := hk
            generalize fwB d z (.mk 5 0 0 ks) = RES at *
            generalize d - 1 = dd at *
            have HB0 := Lib.hid hb0
            clear hD hd hd1 ih hf hb0 hk
            have hkz : Value.slice B ks.length e = Value.slice B 2 e := by rw [hkn]
            have hli : Hid ((ks.length : Int) = 2) := hl
            have hlk : Hid (ks.length = 2) := hkn
            rw [hkz] at hk2 HB0 ⊢
            clear hkz hl hkn
            go_enter Try.func58, Try.ntmps58
            go_wp2
            go_loopw [10, 100] (fun _ i wr => ∃ k : Nat, k ≤ 2 ∧ i = .int .i64 k ∧ Hid (∀ j, j < k → fwB dd z (fmAt ks j) = true) ∧ Below w.heap.size w wr) (fun _ i _ => 2 - (intOf i).toNat)
            case atStart => exact ⟨0, Nat.zero_le _, rfl, Lib.hid (fun j hj => absurd hj (by omega)), HB0.out⟩
            case round =>
              obtain ⟨k, hkl, rfl, hq, hb⟩ := hrel
              by_cases hlt : k < 2
              · obtain ⟨b1, o1, rfl, hbl, hc1⟩ := (hk2.below hb).get (by have := hlk.out; omega)
                obtain ⟨B1, e1, d0, d1, d2, d3, hk1⟩ := hc1 k (by have := hlk.out; omega)
                have hfk := hfa.out k (by have := hlk.out; omega)
                have hbx : Below wr.heap.size wr (wr.alloc (.cells #[.int .i64 (fmAt ks k).op, .int .i64 (fmAt ks k).fa, .int .i64 (fmAt ks k).fb, .slice B1 (fmAt ks k).kids.length e1] 51)) := (Below.refl _ _).alloc (Nat.le_refl _) _
                have hct := hih (fmAt ks k) z _ (wr.alloc (.cells #[.int .i64 (fmAt ks k).op, .int .i64 (fmAt ks k).fa, .int .i64 (fmAt ks k).fb, .slice B1 (fmAt ks k).kids.length e1] 51)) (by omega) hm hfk ⟨B1, e1, rfl, hk1.below hbx⟩
                have hqs := Lib.hid (fun (h : fwB dd z (fmAt ks k) = true) => (show ∀ j, j < k + 1 → fwB dd z (fmAt ks j) = true from fun j hj => by
                  by_cases e : j = k
                  · rw [e]; exact h
                  · exact hq.out j (by omega)))
                have hqn := Lib.hid (fun (h : fwB dd z (fmAt ks k) = false) => hno.out (allF_no (by have := hlk.out; omega) h))
                have hba := hb.alloc hb.size (.cells #[.int .i64 (fmAt ks k).op, .int .i64 (fmAt ks k).fa, .int .i64 (fmAt ks k).fb, .slice B1 (fmAt ks k).kids.length e1] 51)
                generalize fwB dd z (fmAt ks k) = r at *
                generalize fmAt ks k = u at *
                clear hc1 hk1 hbx hfk hq
                cases r with
                | false =>
                  have hre := hqn.out rfl
                  clear hqs hqn
                  go_wp2_with (go_at_call 58; refine hct.mono ?_; rintro e w4 ⟨rfl, hb4⟩; have hb5 := hba.trans (hb4.mono hba.size))
                  go_ret
                  exact ⟨bool_end hre.symm, hb5⟩
                | true =>
                  have hqq := Lib.hid (hqs.out rfl)
                  clear hqs hqn
                  go_wp2_with (go_at_call 58; refine hct.mono ?_; rintro e w4 ⟨rfl, hb4⟩; have hb5 := hba.trans (hb4.mono hba.size))
                  clear hct hb4 hba hb d0 d1 d2 d3
                  refine ⟨⟨k + 1, by omega, by go_num, hqq, hb5⟩, ?_⟩
                  simp only [intOf]
                  omega
              · have e : k = 2 := by omega
                subst e
                have hre := hyes.out (allF_yes fun j hj => hq.out j (by have := hlk.out; omega))
                clear hq hk2 hih
                go_wp2
                go_ret
                exact ⟨bool_end hre.symm, hb⟩
          · have hn := Lib.hid (fw_none (d := d) (a := a) (b := b) (ks := ks) (n := 2) (z' := z) h0 h4 (.inr (.inr (.inl ⟨rfl, rfl, rfl⟩))) (.inr (.inr (.inr (.inr (.inl (by omega)))))))
            rw [hn.out]
            subst ha hb
            rw [hkn] at hb0 ⊢
            have hm2 : 4 < z := by omega
            have hd2 : 1 < D := by omega
            clear hk hf ih hn hD hl hkn hd hm hd1
            omega
            
            
            
      · have hn := Lib.hid (fw_none (d := d) (a := a) (b := b) (ks := ks) (n := 2) (z' := z) h0 h4 (.inr (.inr (.inl ⟨rfl, rfl, rfl⟩))) (.inr (.inr (.inl hb))))
        rw [hn.out]
        have hbb : (b != 0) = true := by simp [hb]
        subst ha
        rw [hkn] at hb0 ⊢
        clear hk hf ih hn hD hl hkn
        go_enter Try.func58, Try.ntmps58
        go_wp2
        go_ret
        exact ⟨rfl, hb0⟩
    · have hn := Lib.hid (fw_none (d := d) (a := a) (b := b) (ks := ks) (n := 2) (z' := z) h0 h4 (.inr (.inr (.inl ⟨rfl, rfl, rfl⟩))) (.inr (.inl ha)))
      rw [hn.out]
      have haa : (a != 0) = true := by simp [ha]
      rw [hkn] at hb0 ⊢
      clear hk hf ih hn hD hl hkn
      go_enter Try.func58, Try.ntmps58
      go_wp2
      go_ret
      exact ⟨rfl, hb0⟩
  · have hn := Lib.hid (fw_none (d := d) (a := a) (b := b) (ks := ks) (n := 2) (z' := z) h0 h4 (.inr (.inr (.inl ⟨rfl, rfl, rfl⟩))) (.inl hl))
    rw [hn.out]
    have hll : ((ks.length : Int) != 2) = true := by simp [hl]
    clear hk hf ih hn hD
    go_enter Try.func58, Try.ntmps58
    go_wp2
    go_ret
    exact ⟨rfl, hb0⟩

set_option maxRecDepth 100000 in
set_option maxHeartbeats 8000000 in
theorem right_kids6 (d : Nat) (hd : d ≤ 6) (ih : ∀ d', d' + 1 = d → RightC d') (D : Int) (hD : D = d) (z a b : Int) (B : Option Addr) (e : Nat) (ks : List Fm) (w : World) (h0 : 0 ≤ z) (h4 : z ≤ 4) (hf : FitFms ks) (hk : FmsIn w (.slice B ks.length e) ks) :
    Calls Try.prog 58 #[.agg #[.int .i64 6, .int .i64 a, .int .i64 b, .slice B ks.length e], .int .i64 z, .int .i64 D] w (BoolP (fwB d z (.mk 6 a b ks)) w) := by
  have hb0 : Below w.heap.size w (w.alloc (.cells #[.int .i64 6, .int .i64 a, .int .i64 b, .slice B ks.length e] 51)) := (Below.refl _ _).alloc (Nat.le_refl _) _
  have hD0 : 0 ≤ D := by omega
  have hD6 : D ≤ 6 := by omega
  by_cases hl : (ks.length : Int) = 1
  · have hkn : ks.length = 1 := by omega
    by_cases ha : a = 0
    · by_cases hb : b = 0
      · by_cases hd1 : D ≤ 1
        · have hn := Lib.hid (fw_none (d := d) (a := a) (b := b) (ks := ks) (n := 1) (z' := (z + 1)) h0 h4 (.inr (.inr (.inr (.inl ⟨rfl, rfl, rfl⟩)))) (.inr (.inr (.inr (.inl (by omega))))))
          rw [hn.out]
          subst ha hb
          rw [hkn] at hb0 ⊢
          clear hk hf ih hn hD hl hkn
          go_enter Try.func58, Try.ntmps58
          go_wp2
          go_ret
          exact ⟨rfl, hb0⟩
        · by_cases hm : (z + 1) ≤ 4
          · subst ha hb
            have hih := ih (d - 1) (by omega) (D - 1) (by omega)
            have hyes := Lib.hid (fun (h : ks.all (fwB (d - 1) (z + 1)) = true) => fw_some (d := d) (ks := ks) (n := 1) (z' := (z + 1)) h0 h4 (.inr (.inr (.inr (.inl ⟨rfl, rfl, rfl⟩)))) (by omega) (by omega) hm h)
            have hno := Lib.hid (fun (h : ks.all (fwB (d - 1) (z + 1)) = false) => fw_none (d := d) (a := 0) (b := 0) (ks := ks) (n := 1) (z' := (z + 1)) h0 h4 (.inr (.inr (.inr (.inl ⟨rfl, rfl, rfl⟩)))) (.inr (.inr (.inr (.inr (.inr h))))))
            have hd2 : 1 < D := by omega
            have hfa := Lib.hid (fun i (h : i < ks.length) => fitFms_at hf h)
            have hk2 := hk
            generalize fwB d z (.mk 6 0 0 ks) = RES at *
            generalize d - 1 = dd at *
            have HB0 := Lib.hid hb0
            clear hD hd hd1 ih hf hb0 hk
            have hkz : Value.slice B ks.length e = Value.slice B 1 e := by rw [hkn]
            have hli : Hid ((ks.length : Int) = 1) := hl
            have hlk : Hid (ks.length = 1) := hkn
            rw [hkz] at hk2 HB0 ⊢
            clear hkz hl hkn
            go_enter Try.func58, Try.ntmps58
            go_wp2
            go_loopw [10, 100] (fun _ i wr => ∃ k : Nat, k ≤ 1 ∧ i = .int .i64 k ∧ Hid (∀ j, j < k → fwB dd (z + 1) (fmAt ks j) = true) ∧ Below w.heap.size w wr) (fun _ i _ => 1 - (intOf i).toNat)
            case atStart => exact ⟨0, Nat.zero_le _, rfl, Lib.hid (fun j hj => absurd hj (by omega)), HB0.out⟩
            case round =>
              obtain ⟨k, hkl, rfl, hq, hb⟩ := hrel
              by_cases hlt : k < 1
              · obtain ⟨b1, o1, rfl, hbl, hc1⟩ := (hk2.below hb).get (by have := hlk.out; omega)
                obtain ⟨B1, e1, d0, d1, d2, d3, hk1⟩ := hc1 k (by have := hlk.out; omega)
                have hfk := hfa.out k (by have := hlk.out; omega)
                have hbx : Below wr.heap.size wr (wr.alloc (.cells #[.int .i64 (fmAt ks k).op, .int .i64 (fmAt ks k).fa, .int .i64 (fmAt ks k).fb, .slice B1 (fmAt ks k).kids.length e1] 51)) := (Below.refl _ _).alloc (Nat.le_refl _) _
                have hct := hih (fmAt ks k) (z + 1) _ (wr.alloc (.cells #[.int .i64 (fmAt ks k).op, .int .i64 (fmAt ks k).fa, .int .i64 (fmAt ks k).fb, .slice B1 (fmAt ks k).kids.length e1] 51)) (by omega) hm hfk ⟨B1, e1, rfl, hk1.below hbx⟩
                have hqs := Lib.hid (fun (h : fwB dd (z + 1) (fmAt ks k) = true) => (show ∀ j, j < k + 1 → fwB dd (z + 1) (fmAt ks j) = true from fun j hj => by
                  by_cases e : j = k
                  · rw [e]; exact h
                  · exact hq.out j (by omega)))
                have hqn := Lib.hid (fun (h : fwB dd (z + 1) (fmAt ks k) = false) => hno.out (allF_no (by have := hlk.out; omega) h))
                have hba := hb.alloc hb.size (.cells #[.int .i64 (fmAt ks k).op, .int .i64 (fmAt ks k).fa, .int .i64 (fmAt ks k).fb, .slice B1 (fmAt ks k).kids.length e1] 51)
                generalize fwB dd (z + 1) (fmAt ks k) = r at *
                generalize fmAt ks k = u at *
                clear hc1 hk1 hbx hfk hq
                cases r with
                | false =>
                  have hre := hqn.out rfl
                  clear hqs hqn
                  go_wp2_with (go_at_call 58; refine hct.mono ?_; rintro e w4 ⟨rfl, hb4⟩; have hb5 := hba.trans (hb4.mono hba.size))
                  go_ret
                  exact ⟨bool_end hre.symm, hb5⟩
                | true =>
                  have hqq := Lib.hid (hqs.out rfl)
                  clear hqs hqn
                  go_wp2_with (go_at_call 58; refine hct.mono ?_; rintro e w4 ⟨rfl, hb4⟩; have hb5 := hba.trans (hb4.mono hba.size))
                  clear hct hb4 hba hb d0 d1 d2 d3
                  refine ⟨⟨k + 1, by omega, by go_num, hqq, hb5⟩, ?_⟩
                  simp only [intOf]
                  omega
              · have e : k = 1 := by omega
                subst e
                have hre := hyes.out (allF_yes fun j hj => hq.out j (by have := hlk.out; omega))
                clear hq hk2 hih
                go_wp2
                go_ret
                exact ⟨bool_end hre.symm, hb⟩
          · have hn := Lib.hid (fw_none (d := d) (a := a) (b := b) (ks := ks) (n := 1) (z' := (z + 1)) h0 h4 (.inr (.inr (.inr (.inl ⟨rfl, rfl, rfl⟩)))) (.inr (.inr (.inr (.inr (.inl (by omega)))))))
            rw [hn.out]
            subst ha hb
            rw [hkn] at hb0 ⊢
            have hm2 : 4 < (z + 1) := by omega
            have hd2 : 1 < D := by omega
            clear hk hf ih hn hD hl hkn hd hm hd1
            go_enter Try.func58, Try.ntmps58
            go_wp2
            go_ret
            exact ⟨rfl, hb0⟩
      · have hn := Lib.hid (fw_none (d := d) (a := a) (b := b) (ks := ks) (n := 1) (z' := (z + 1)) h0 h4 (.inr (.inr (.inr (.inl ⟨rfl, rfl, rfl⟩)))) (.inr (.inr (.inl hb))))
        rw [hn.out]
        have hbb : (b != 0) = true := by simp [hb]
        subst ha
        rw [hkn] at hb0 ⊢
        clear hk hf ih hn hD hl hkn
        go_enter Try.func58, Try.ntmps58
        go_wp2
        go_ret
        exact ⟨rfl, hb0⟩
    · have hn := Lib.hid (fw_none (d := d) (a := a) (b := b) (ks := ks) (n := 1) (z' := (z + 1)) h0 h4 (.inr (.inr (.inr (.inl ⟨rfl, rfl, rfl⟩)))) (.inr (.inl ha)))
      rw [hn.out]
      have haa : (a != 0) = true := by simp [ha]
      rw [hkn] at hb0 ⊢
      clear hk hf ih hn hD hl hkn
      go_enter Try.func58, Try.ntmps58
      go_wp2
      go_ret
      exact ⟨rfl, hb0⟩
  · have hn := Lib.hid (fw_none (d := d) (a := a) (b := b) (ks := ks) (n := 1) (z' := (z + 1)) h0 h4 (.inr (.inr (.inr (.inl ⟨rfl, rfl, rfl⟩)))) (.inl hl))
    rw [hn.out]
    have hll : ((ks.length : Int) != 1) = true := by simp [hl]
    clear hk hf ih hn hD
    go_enter Try.func58, Try.ntmps58
    go_wp2
    go_ret
    exact ⟨rfl, hb0⟩

set_option maxRecDepth 100000 in
set_option maxHeartbeats 8000000 in
theorem right_kids7 (d : Nat) (hd : d ≤ 6) (ih : ∀ d', d' + 1 = d → RightC d') (D : Int) (hD : D = d) (z a b : Int) (B : Option Addr) (e : Nat) (ks : List Fm) (w : World) (h0 : 0 ≤ z) (h4 : z ≤ 4) (hf : FitFms ks) (hk : FmsIn w (.slice B ks.length e) ks) :
    Calls Try.prog 58 #[.agg #[.int .i64 7, .int .i64 a, .int .i64 b, .slice B ks.length e], .int .i64 z, .int .i64 D] w (BoolP (fwB d z (.mk 7 a b ks)) w) := by
  have hb0 : Below w.heap.size w (w.alloc (.cells #[.int .i64 7, .int .i64 a, .int .i64 b, .slice B ks.length e] 51)) := (Below.refl _ _).alloc (Nat.le_refl _) _
  have hD0 : 0 ≤ D := by omega
  have hD6 : D ≤ 6 := by omega
  by_cases hl : (ks.length : Int) = 1
  · have hkn : ks.length = 1 := by omega
    by_cases ha : a = 0
    · by_cases hb : b = 0
      · by_cases hd1 : D ≤ 1
        · have hn := Lib.hid (fw_none (d := d) (a := a) (b := b) (ks := ks) (n := 1) (z' := (z + 1)) h0 h4 (.inr (.inr (.inr (.inr ⟨rfl, rfl, rfl⟩)))) (.inr (.inr (.inr (.inl (by omega))))))
          rw [hn.out]
          subst ha hb
          rw [hkn] at hb0 ⊢
          clear hk hf ih hn hD hl hkn
          go_enter Try.func58, Try.ntmps58
          go_wp2
          go_ret
          exact ⟨rfl, hb0⟩
        · by_cases hm : (z + 1) ≤ 4
          · subst ha hb
            have hih := ih (d - 1) (by omega) (D - 1) (by omega)
            have hyes := Lib.hid (fun (h : ks.all (fwB (d - 1) (z + 1)) = true) => fw_some (d := d) (ks := ks) (n := 1) (z' := (z + 1)) h0 h4 (.inr (.inr (.inr (.inr ⟨rfl, rfl, rfl⟩)))) (by omega) (by omega) hm h)
            have hno := Lib.hid (fun (h : ks.all (fwB (d - 1) (z + 1)) = false) => fw_none (d := d) (a := 0) (b := 0) (ks := ks) (n := 1) (z' := (z + 1)) h0 h4 (.inr (.inr (.inr (.inr ⟨rfl, rfl, rfl⟩)))) (.inr (.inr (.inr (.inr (.inr h))))))
            have hd2 : 1 < D := by omega
            have hfa := Lib.hid (fun i (h : i < ks.length) => fitFms_at hf h)
            have hk2 := hk
            generalize fwB d z (.mk 7 0 0 ks) = RES at *
            generalize d - 1 = dd at *
            have HB0 := Lib.hid hb0
            clear hD hd hd1 ih hf hb0 hk
            have hkz : Value.slice B ks.length e = Value.slice B 1 e := by rw [hkn]
            have hli : Hid ((ks.length : Int) = 1) := hl
            have hlk : Hid (ks.length = 1) := hkn
            rw [hkz] at hk2 HB0 ⊢
            clear hkz hl hkn
            go_enter Try.func58, Try.ntmps58
            go_wp2
            go_loopw [10, 100] (fun _ i wr => ∃ k : Nat, k ≤ 1 ∧ i = .int .i64 k ∧ Hid (∀ j, j < k → fwB dd (z + 1) (fmAt ks j) = true) ∧ Below w.heap.size w wr) (fun _ i _ => 1 - (intOf i).toNat)
            case atStart => exact ⟨0, Nat.zero_le _, rfl, Lib.hid (fun j hj => absurd hj (by omega)), HB0.out⟩
            case round =>
              obtain ⟨k, hkl, rfl, hq, hb⟩ := hrel
              by_cases hlt : k < 1
              · obtain ⟨b1, o1, rfl, hbl, hc1⟩ := (hk2.below hb).get (by have := hlk.out; omega)
                obtain ⟨B1, e1, d0, d1, d2, d3, hk1⟩ := hc1 k (by have := hlk.out; omega)
                have hfk := hfa.out k (by have := hlk.out; omega)
                have hbx : Below wr.heap.size wr (wr.alloc (.cells #[.int .i64 (fmAt ks k).op, .int .i64 (fmAt ks k).fa, .int .i64 (fmAt ks k).fb, .slice B1 (fmAt ks k).kids.length e1] 51)) := (Below.refl _ _).alloc (Nat.le_refl _) _
                have hct := hih (fmAt ks k) (z + 1) _ (wr.alloc (.cells #[.int .i64 (fmAt ks k).op, .int .i64 (fmAt ks k).fa, .int .i64 (fmAt ks k).fb, .slice B1 (fmAt ks k).kids.length e1] 51)) (by omega) hm hfk ⟨B1, e1, rfl, hk1.below hbx⟩
                have hqs := Lib.hid (fun (h : fwB dd (z + 1) (fmAt ks k) = true) => (show ∀ j, j < k + 1 → fwB dd (z + 1) (fmAt ks j) = true from fun j hj => by
                  by_cases e : j = k
                  · rw [e]; exact h
                  · exact hq.out j (by omega)))
                have hqn := Lib.hid (fun (h : fwB dd (z + 1) (fmAt ks k) = false) => hno.out (allF_no (by have := hlk.out; omega) h))
                have hba := hb.alloc hb.size (.cells #[.int .i64 (fmAt ks k).op, .int .i64 (fmAt ks k).fa, .int .i64 (fmAt ks k).fb, .slice B1 (fmAt ks k).kids.length e1] 51)
                generalize fwB dd (z + 1) (fmAt ks k) = r at *
                generalize fmAt ks k = u at *
                clear hc1 hk1 hbx hfk hq
                cases r with
                | false =>
                  have hre := hqn.out rfl
                  clear hqs hqn
                  go_wp2_with (go_at_call 58; refine hct.mono ?_; rintro e w4 ⟨rfl, hb4⟩; have hb5 := hba.trans (hb4.mono hba.size))
                  go_ret
                  exact ⟨bool_end hre.symm, hb5⟩
                | true =>
                  have hqq := Lib.hid (hqs.out rfl)
                  clear hqs hqn
                  go_wp2_with (go_at_call 58; refine hct.mono ?_; rintro e w4 ⟨rfl, hb4⟩; have hb5 := hba.trans (hb4.mono hba.size))
                  clear hct hb4 hba hb d0 d1 d2 d3
                  refine ⟨⟨k + 1, by omega, by go_num, hqq, hb5⟩, ?_⟩
                  simp only [intOf]
                  omega
              · have e : k = 1 := by omega
                subst e
                have hre := hyes.out (allF_yes fun j hj => hq.out j (by have := hlk.out; omega))
                clear hq hk2 hih
                go_wp2
                go_ret
                exact ⟨bool_end hre.symm, hb⟩
          · have hn := Lib.hid (fw_none (d := d) (a := a) (b := b) (ks := ks) (n := 1) (z' := (z + 1)) h0 h4 (.inr (.inr (.inr (.inr ⟨rfl, rfl, rfl⟩)))) (.inr (.inr (.inr (.inr (.inl (by omega)))))))
            rw [hn.out]
            subst ha hb
            rw [hkn] at hb0 ⊢
            have hm2 : 4 < (z + 1) := by omega
            have hd2 : 1 < D := by omega
            clear hk hf ih hn hD hl hkn hd hm hd1
            go_enter Try.func58, Try.ntmps58
            go_wp2
            go_ret
            exact ⟨rfl, hb0⟩
      · have hn := Lib.hid (fw_none (d := d) (a := a) (b := b) (ks := ks) (n := 1) (z' := (z + 1)) h0 h4 (.inr (.inr (.inr (.inr ⟨rfl, rfl, rfl⟩)))) (.inr (.inr (.inl hb))))
        rw [hn.out]
        have hbb : (b != 0) = true := by simp [hb]
        subst ha
        rw [hkn] at hb0 ⊢
        clear hk hf ih hn hD hl hkn
        go_enter Try.func58, Try.ntmps58
        go_wp2
        go_ret
        exact ⟨rfl, hb0⟩
    · have hn := Lib.hid (fw_none (d := d) (a := a) (b := b) (ks := ks) (n := 1) (z' := (z + 1)) h0 h4 (.inr (.inr (.inr (.inr ⟨rfl, rfl, rfl⟩)))) (.inr (.inl ha)))
      rw [hn.out]
      have haa : (a != 0) = true := by simp [ha]
      rw [hkn] at hb0 ⊢
      clear hk hf ih hn hD hl hkn
      go_enter Try.func58, Try.ntmps58
      go_wp2
      go_ret
      exact ⟨rfl, hb0⟩
  · have hn := Lib.hid (fw_none (d := d) (a := a) (b := b) (ks := ks) (n := 1) (z' := (z + 1)) h0 h4 (.inr (.inr (.inr (.inr ⟨rfl, rfl, rfl⟩)))) (.inl hl))
    rw [hn.out]
    have hll : ((ks.length : Int) != 1) = true := by simp [hl]
    clear hk hf ih hn hD
    go_enter Try.func58, Try.ntmps58
    go_wp2
    go_ret
    exact ⟨rfl, hb0⟩

set_option maxRecDepth 100000 in
set_option maxHeartbeats 4000000 in
theorem right_other (d : Nat) (hd : d ≤ 6) (D : Int) (hD : D = d) (z o a b : Int) (B : Option Addr) (e : Nat) (ks : List Fm) (w : World) (h0 : 0 ≤ z) (h4 : z ≤ 4) (h1 : o ≠ 1) (h2 : o ≠ 2) (h3 : o ≠ 3) (h5 : o ≠ 4) (h6 : o ≠ 5) (h7 : o ≠ 6) (h8 : o ≠ 7) :
    Calls Try.prog 58 #[.agg #[.int .i64 o, .int .i64 a, .int .i64 b, .slice B ks.length e], .int .i64 z, .int .i64 D] w (BoolP (fwB d z (.mk o a b ks)) w) := by
  have hb0 : Below w.heap.size w (w.alloc (.cells #[.int .i64 o, .int .i64 a, .int .i64 b, .slice B ks.length e] 51)) := (Below.refl _ _).alloc (Nat.le_refl _) _
  rw [fw_other h0 h4 h1 h2 h3 h5 h6 h7 h8]
  have e1 : (o == 1) = false := by simp [h1]
  have e2 : (o == 2) = false := by simp [h2]
  have e3 : (o == 3) = false := by simp [h3]
  have e4 : (o == 4) = false := by simp [h5]
  have e5 : (o == 5) = false := by simp [h6]
  have e6 : (o == 6) = false := by simp [h7]
  have e7 : (o == 7) = false := by simp [h8]
  clear h1 h2 h3 h5 h6 h7 h8 hD
  go_enter Try.func58, Try.ntmps58
  go_wp2
  go_ret
  exact ⟨rfl, hb0⟩

theorem right_step (d : Nat) (hd : d ≤ 6) (ih : ∀ d', d' + 1 = d → RightC d') : RightC d := by
  intro D hD t z x w h0 h4 hf hx
  obtain ⟨B, e, rfl, hk⟩ := hx
  have hfk := ((fitFm_eq t).1 hf).2
  cases t with
  | mk o a b ks =>
    simp only [Fm.op, Fm.fa, Fm.fb, Fm.kids] at hk hfk ⊢
    by_cases h1 : o = 1
    · subst h1; exact right_leaf1 d hd D hD z a b B e ks w h0 h4
    by_cases h2 : o = 2
    · subst h2; exact right_leaf2 d hd D hD z a b B e ks w h0 h4
    by_cases h3 : o = 3
    · subst h3; exact right_kids3 d hd ih D hD z a b B e ks w h0 h4 hfk hk
    by_cases h5 : o = 4
    · subst h5; exact right_kids4 d hd ih D hD z a b B e ks w h0 h4 hfk hk
    by_cases h6 : o = 5
    · subst h6; exact right_kids5 d hd ih D hD z a b B e ks w h0 h4 hfk hk
    by_cases h7 : o = 6
    · subst h7; exact right_kids6 d hd ih D hD z a b B e ks w h0 h4 hfk hk
    by_cases h8 : o = 7
    · subst h8; exact right_kids7 d hd ih D hD z a b B e ks w h0 h4 hfk hk
    exact right_other d hd D hD z o a b B e ks w h0 h4 h1 h2 h3 h5 h6 h7 h8
theorem right_any : ∀ d : Nat, d ≤ 6 → RightC d
  | 0, h => right_step 0 h fun d' e => by omega
  | d + 1, h => right_step (d + 1) h fun d' e => by
    have e2 : d' = d := by omega
    subst e2
    exact right_any d' (by omega)

set_option maxRecDepth 100000 in
set_option maxHeartbeats 2000000 in
theorem isFormula_spec (t : Fm) (z : Int) (x : Value) (w : World) (hc : cntFm t ≤ 1048576) (hx : FmIn w x t) :
    Calls Try.prog 31 #[x, .int .i64 z] w (BoolP (isFmB z t) w) := by
  have hf := fitFm_of t hc
  have hX := hx
  obtain ⟨B, e, rfl, hk⟩ := hx
  have hb0 : Below w.heap.size w (w.alloc (.cells #[.int .i64 t.op, .int .i64 t.fa, .int .i64 t.fb, .slice B t.kids.length e] 51)) := (Below.refl _ _).alloc (Nat.le_refl _) _
  have k0 := heap_alloc_new w (.cells #[.int .i64 t.op, .int .i64 t.fa, .int .i64 t.fb, .slice B t.kids.length e] 51)
  have hwi := fun W => l1In_any z 0 4 W
  have hwe : decide ((0 : Int) ≤ z ∧ z ≤ 4) = widB z := rfl
  cases hw : widB z with
  | false =>
    have hn : Hid (isFmB z t = false) := Lib.hid (by unfold isFmB; rw [fw_no (d := 5) hw]; rfl)
    rw [hwe, hw] at hwi
    rw [hn.out]
    clear hX hk hn hw hwe hf hc k0
    go_enter Try.func31, Try.ntmps31
    go_wp2_with (go_at_call 43; refine (hwi _).mono ?_; rintro e w2 ⟨rfl, rfl⟩)
    go_ret
    exact ⟨rfl, hb0⟩
  | true =>
    have hz := widB_iff.1 hw
    rw [hwe, hw] at hwi
    have hwt := right_any 6 (Nat.le_refl _) 6 rfl t z _ _ hz.1 hz.2 hf (hX.below hb0)
    have hat := fun W (h : Below w.heap.size w W) => l6Names_any 1048577 t (by have := szFm_cnt t; omega) (Nat.le_refl _) _ W (hX.below h)
    have HN := Lib.hid (namesFm_len t)
    have hsz := szFm_cnt t
    have hlen : (namesFm t).length ≤ 1048577 := by have := HN.out; omega
    unfold isFmB
    generalize fwB 6 z t = r at *
    generalize namesFm t = N1 at *
    have HB0 := Lib.hid hb0
    obtain ⟨m0, m1, m2, m3⟩ := fmRow4 k0
    clear HN hsz hf hX hk hc hw hwe hz
    cases r with
    | false =>
      go_enter Try.func31, Try.ntmps31
      go_wp2_with (first
        | (go_at_call 43; refine (hwi _).mono ?_; rintro e w2 ⟨rfl, rfl⟩)
        | (go_at_call 58; refine hwt.mono ?_; rintro e w3 ⟨rfl, hb2⟩; have hb3 := HB0.out.trans (hb2.mono HB0.out.size)))
      go_ret
      exact ⟨rfl, hb3⟩
    | true =>
      go_enter Try.func31, Try.ntmps31
      go_wp2_with (first
        | (go_at_call 43; refine (hwi _).mono ?_; rintro e w2 ⟨rfl, rfl⟩)
        | (go_at_call 58; refine hwt.mono ?_; rintro e w3 ⟨rfl, hb2⟩; have hb3 := HB0.out.trans (hb2.mono HB0.out.size); have k2 := (hb2.block _ (OrbK.box_lt k0)).trans k0; clear m0 m1 m2 m3; obtain ⟨m0, m1, m2, m3⟩ := fmRow4 k2))
      refine (hat _ hb3).mono ?_
      rintro e w4 ⟨g4, cap4, rfl, ho4, hb4⟩
      have hb5 := hb3.trans (hb4.mono hb3.size)
      clear hat ho4 hb4 hb3 hb2 k2 k0 m0 m1 m2 m3 hwt hb0
      go_wp2
      go_ret
      exact ⟨bool_end (by rw [Bool.eq_iff_iff]; simp; omega), hb5⟩
end Go.Proofs.Ytjjokghcjgighaa
