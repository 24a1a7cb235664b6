/-
  What is an index term, in the model, as contracts.
-/
import Derived.Test.YtihijigbdpjcoaaKIsClosed11
import Derived.Test.YtihijigbdpjcoaaKIsClosed6
namespace Go.Proofs.Ytihijigbdpjcoaa
open Go.RowKit Go.Sort
set_option linter.unusedVariables false

/-- A struct of three cells in a box, in a later world. -/
theorem box3 {a b c : Value} {T : TypeId} {w w1 : World} (hb : Below (w.alloc (.cells #[a, b, c] T)).heap.size (w.alloc (.cells #[a, b, c] T)) w1) :
    w1.cell? ⟨w.heap.size, 0, none⟩ = some a ∧ w1.cell? ⟨w.heap.size, 1, none⟩ = some b ∧ w1.cell? ⟨w.heap.size, 2, none⟩ = some c := by
  have h := (hb.block w.heap.size (by simp)).trans (heap_alloc_new w _)
  refine ⟨?_, ?_, ?_⟩ <;> rw [cell_of_row w1 w.heap.size _ _ _ _ h] <;> rfl
mutual
theorem szIx_le : ∀ t : Ix, szIx t ≤ 1 + cntIx t
  | .mk o n ks => by
    have := szIxs_le ks
    rw [szIx, cntIx]; omega
theorem szIxs_le : ∀ ts : List Ix, szIxs ts ≤ ts.length + sumIx ts
  | [] => by simp [szIxs]
  | t :: r => by
    have h1 := szIx_le t
    have h2 := szIxs_le r
    rw [szIxs, sumIx, List.length_cons]; omega
end
theorem szIxs_next {ts : List Ix} {k : Nat} (h : k < ts.length) : szIxs (ts.take (k + 1)) = szIxs (ts.take k) + szIx (ixAt ts k) := by
  rw [ix_take_next h, szIxs_app]
  simp [szIxs]
theorem szIxs_take (ts : List Ix) (k : Nat) : szIxs (ts.take k) ≤ szIxs ts := by
  have := szIxs_app (ts.take k) (ts.drop k)
  rw [List.take_append_drop] at this
  omega
/-- A kid, as its cells give it. -/
theorem kid_ix {w : World} {B : Option Addr} {n d : Nat} {ts : List Ix} (h : IxsIn w (.slice B n d) ts) {k : Nat} (hk : k < ts.length) :
    ∃ b off B1 e1, B = some ⟨b, off, none⟩ ∧ b < w.heap.size ∧
      w.cell? ⟨b, off + k * 3, none⟩ = some (.int .i64 (ixAt ts k).op) ∧ w.cell? ⟨b, off + k * 3 + 1, none⟩ = some (.int .i64 (ixAt ts k).num) ∧
      w.cell? ⟨b, off + k * 3 + 2, none⟩ = some (.slice B1 (ixAt ts k).kids.length e1) ∧
      IxIn w (.agg #[.int .i64 (ixAt ts k).op, .int .i64 (ixAt ts k).num, .slice B1 (ixAt ts k).kids.length e1]) (ixAt ts k) := by
  obtain ⟨b, off, rfl, hbl, hget⟩ := h.get (by omega)
  obtain ⟨B1, e1, d0, d1, d2, hk1⟩ := hget k hk
  exact ⟨b, off, B1, e1, rfl, hbl, d0, d1, d2, B1, e1, rfl, hk1⟩

theorem goodI_no {t : Ix} (h : shapeI t = false) : goodI t = false := by rw [goodI_eq, h]; rfl
theorem shapeI_1 {t : Ix} (h : t.op = 1) : shapeI t = (decide (0 ≤ t.num ∧ t.num ≤ 999) && decide (t.kids.length = 0)) := by unfold shapeI; rw [if_pos h]
theorem shapeI_2 {t : Ix} (h : t.op = 2) : shapeI t = (atomB t.num && decide (t.kids.length = 0)) := by unfold shapeI; rw [if_neg (by omega), if_pos h]
theorem shapeI_3 {t : Ix} (h : t.op = 3) : shapeI t = (decide (t.num = 0) && decide (t.kids.length = 1)) := by unfold shapeI; rw [if_neg (by omega), if_neg (by omega), if_pos h]
theorem shapeI_4 {t : Ix} (h : t.op = 4) : shapeI t = (decide (t.num = 0) && decide (t.kids.length = 2)) := by unfold shapeI; rw [if_neg (by omega), if_neg (by omega), if_neg (by omega), if_pos h]
theorem shapeI_0 {t : Ix} (h1 : ¬ t.op = 1) (h2 : ¬ t.op = 2) (h3 : ¬ t.op = 3) (h4 : ¬ t.op = 4) : shapeI t = false := by unfold shapeI; rw [if_neg h1, if_neg h2, if_neg h3, if_neg h4]
theorem goodI_leaf {t : Ix} (h : t.kids.length = 0) : goodI t = shapeI t := by
  rw [goodI_eq, List.length_eq_zero_iff.1 h, goodIs, Bool.and_true]

set_option maxRecDepth 100000 in
set_option maxHeartbeats 2000000 in
theorem l8Right_leaf (t : Ix) (x : Value) (w : World) (hx : IxIn w x t) (hkl : t.kids.length ≤ 1048576) (ho : t.op = 1 ∨ t.op = 2) :
    Calls Try.prog 49 #[x] w (BoolPost (goodI t) w) := by
  obtain ⟨B, d, rfl, hk⟩ := hx
  have hb0 : Below w.heap.size w (w.alloc (.cells #[.int .i64 t.op, .int .i64 t.num, .slice B t.kids.length d] 42)) := (Below.refl _ _).alloc (Nat.le_refl _) _
  rcases ho with ho | ho
  · have hsh := shapeI_1 ho
    have ca := fun W => l1In_any t.num 0 999 W
    rw [ho] at hb0 ⊢
    by_cases h0 : 0 ≤ t.num ∧ t.num ≤ 999
    · rw [decide_eq_true h0] at ca hsh
      by_cases h1 : t.kids.length = 0
      · have hg : goodI t = true := by rw [goodI_leaf h1, hsh, decide_eq_true h1]; rfl
        rw [hg, h1]
        rw [h1] at hb0
        clear hsh hg h1 h0 ho hk
        go_enter Try.func49, Try.ntmps49
        go_wp2_with (go_at_call 85; refine (ca _).mono ?_; rintro e w' ⟨rfl, rfl⟩)
        go_ret
        exact ⟨rfl, hb0⟩
      · have hg : goodI t = false := goodI_no (by rw [hsh, decide_eq_false h1]; rfl)
        have tk : ((t.kids.length : Int) == 0) = false := by simp; intro h; exact h1 (by rw [h]; rfl)
        rw [hg]
        generalize t.kids.length = kl at *
        clear hsh hg h1 h0 ho hk
        go_enter Try.func49, Try.ntmps49
        go_wp2_with (go_at_call 85; refine (ca _).mono ?_; rintro e w' ⟨rfl, rfl⟩)
        go_ret
        exact ⟨rfl, hb0⟩
    · rw [decide_eq_false h0] at ca hsh
      have hg : goodI t = false := goodI_no (by rw [hsh]; rfl)
      rw [hg]
      clear hsh hg h0 ho hk
      go_enter Try.func49, Try.ntmps49
      go_wp2_with (go_at_call 85; refine (ca _).mono ?_; rintro e w' ⟨rfl, rfl⟩)
      go_ret
      exact ⟨rfl, hb0⟩
  · have hsh := shapeI_2 ho
    have ca := fun W => l1Atom_any t.num W
    rw [ho] at hb0 ⊢
    by_cases h0 : atomB t.num = true
    · rw [h0] at ca hsh
      by_cases h1 : t.kids.length = 0
      · have hg : goodI t = true := by rw [goodI_leaf h1, hsh, decide_eq_true h1]; rfl
        rw [hg, h1]
        rw [h1] at hb0
        clear hsh hg h1 h0 ho hk
        go_enter Try.func49, Try.ntmps49
        go_wp2_with (go_at_call 86; refine (ca _).mono ?_; rintro e w' ⟨rfl, rfl⟩)
        go_ret
        exact ⟨rfl, hb0⟩
      · have hg : goodI t = false := goodI_no (by rw [hsh, decide_eq_false h1]; rfl)
        have tk : ((t.kids.length : Int) == 0) = false := by simp; intro h; exact h1 (by rw [h]; rfl)
        rw [hg]
        generalize t.kids.length = kl at *
        clear hsh hg h1 h0 ho hk
        go_enter Try.func49, Try.ntmps49
        go_wp2_with (go_at_call 86; refine (ca _).mono ?_; rintro e w' ⟨rfl, rfl⟩)
        go_ret
        exact ⟨rfl, hb0⟩
    · have h0' : atomB t.num = false := by simpa using h0
      rw [h0'] at ca hsh
      have hg : goodI t = false := goodI_no (by rw [hsh]; rfl)
      rw [hg]
      clear hsh hg h0 h0' ho hk
      go_enter Try.func49, Try.ntmps49
      go_wp2_with (go_at_call 86; refine (ca _).mono ?_; rintro e w' ⟨rfl, rfl⟩)
      go_ret
      exact ⟨rfl, hb0⟩

set_option maxRecDepth 100000 in
set_option maxHeartbeats 2000000 in
theorem l8Right_other (t : Ix) (x : Value) (w : World) (hx : IxIn w x t) (h1 : ¬ t.op = 1) (h2 : ¬ t.op = 2) (h3 : ¬ t.op = 3) (h4 : ¬ t.op = 4) :
    Calls Try.prog 49 #[x] w (BoolPost (goodI t) w) := by
  obtain ⟨B, d, rfl, hk⟩ := hx
  have hb0 : Below w.heap.size w (w.alloc (.cells #[.int .i64 t.op, .int .i64 t.num, .slice B t.kids.length d] 42)) := (Below.refl _ _).alloc (Nat.le_refl _) _
  rw [goodI_no (shapeI_0 h1 h2 h3 h4)]
  have t1 : (t.op == 1) = false := by simpa using h1
  have t2 : (t.op == 2) = false := by simpa using h2
  have t3 : (t.op == 3) = false := by simpa using h3
  have t4 : (t.op == 4) = false := by simpa using h4
  clear h1 h2 h3 h4 hk
  go_enter Try.func49, Try.ntmps49
  go_wp2
  go_ret
  exact ⟨rfl, hb0⟩

set_option maxRecDepth 100000 in
set_option maxHeartbeats 2000000 in
theorem l8Right_big3 (t : Ix) (x : Value) (w : World) (hx : IxIn w x t) (hkl : t.kids.length ≤ 1048576) (ho : t.op = 3)
    (ih : ∀ i, i < t.kids.length → ∀ (w' : World) (y : Value), IxIn w' y (ixAt t.kids i) → Calls Try.prog 49 #[y] w' (BoolPost (goodI (ixAt t.kids i)) w')) :
    Calls Try.prog 49 #[x] w (BoolPost (goodI t) w) := by
  obtain ⟨B, d, rfl, hk⟩ := hx
  have hsh := shapeI_3 ho
  have hg0 := goodI_eq t
  rw [hsh] at hg0
  have hb0 : Below w.heap.size w (w.alloc (.cells #[.int .i64 t.op, .int .i64 t.num, .slice B t.kids.length d] 42)) := (Below.refl _ _).alloc (Nat.le_refl _) _
  rw [ho] at hb0 ⊢
  by_cases h0 : t.num = 0
  · rw [decide_eq_true h0] at hg0
    rw [h0] at hb0 ⊢
    by_cases h1 : t.kids.length = 1
    · rw [decide_eq_true h1, Bool.true_and, Bool.true_and] at hg0
      have HG := Lib.hid hg0
      have HN := Lib.hid h1
      have HK := Lib.hid hk
      rw [h1] at hb0 ⊢
      rw [h1] at HK
      rw [hg0]
      clear hsh hg0 h0 ho h1 hk
      go_enter Try.func49, Try.ntmps49
      go_wp2
      go_loopw [51] (fun i wr => ∃ k : Nat, k ≤ 1 ∧ i = .int .i64 k ∧ goodIs (t.kids.take k) = true ∧ Below w.heap.size w wr) (fun i _ => 1 - (intOf i).toNat)
      case atStart => exact ⟨0, Nat.zero_le _, rfl, by simp [goodIs], hb0⟩
      case round =>
        clear hb0
        obtain ⟨k, hk', rfl, hgt, hb⟩ := hrel
        have HGT := Lib.hid hgt
        clear hgt
        by_cases hlt : k < 1
        · obtain ⟨b, off, B1, e1, rfl, hbl, d0, d1, d2, hy⟩ := kid_ix (HK.out.below hb) (by rw [HN.out]; exact hlt)
          have hbx : Below wr.heap.size wr (wr.alloc (.cells #[.int .i64 (ixAt t.kids k).op, .int .i64 (ixAt t.kids k).num, .slice B1 (ixAt t.kids k).kids.length e1] 42)) := (Below.refl _ _).alloc (Nat.le_refl _) _
          have hct := ih k (by rw [HN.out]; exact hlt) _ _ (hy.below hbx)
          have hb2 := hb.trans (hbx.mono hb.size)
          have hno := fun h => Lib.hid (goodIs_no (ts := t.kids) (i := k) (by rw [HN.out]; exact hlt) h)
          have hnx := Lib.hid (goodIs_next (ts := t.kids) (k := k) (by rw [HN.out]; exact hlt))
          generalize ixAt t.kids k = u at d0 d1 d2 hct hbx hb2 hno hnx
          clear hy hbl hbx hb ih HK
          by_cases hgu : goodI u = true
          · rw [hgu] at hct
            have hnx' : Hid (goodIs (t.kids.take (k + 1)) = true) := by show goodIs (t.kids.take (k + 1)) = true; rw [hnx.out, HGT.out, hgu]; rfl
            clear hno hgu hnx
            go_wp2_with fail
            refine hct.mono ?_
            rintro e w2 ⟨rfl, hb3⟩
            have hb4 := hb2.trans (hb3.mono hb2.size)
            clear hct hb2 hb3 d0 d1 d2
            go_wp2
            refine ⟨⟨k + 1, by omega, by go_num, hnx'.out, hb4⟩, ?_⟩
            simp only [intOf]
            omega
          · have hgu' : goodI u = false := by simpa using hgu
            rw [hgu'] at hct
            have hr := hno hgu'
            clear hno hgu hgu' hnx
            go_wp2_with fail
            refine hct.mono ?_
            rintro e w2 ⟨rfl, hb3⟩
            have hpost : BoolPost (goodIs t.kids) w (.returned (.bool false)) w2 := ⟨by rw [hr.out], hb2.trans (hb3.mono hb2.size)⟩
            clear hct hb2 hb3 d0 d1 d2 hr
            go_wp2
            go_ret
            exact hpost
        · have hpost : BoolPost (goodIs t.kids) w (.returned (.bool true)) wr := ⟨by rw [← HGT.out, List.take_of_length_le (by rw [HN.out]; omega)], hb⟩
          clear ih HK hb
          go_wp2
          go_ret
          exact hpost
    · have hg : goodI t = false := goodI_no (by rw [hsh, decide_eq_false h1, Bool.and_false])
      rw [hg]
      have tk : ((t.kids.length : Int) != 1) = true := by simp; omega
      generalize t.kids.length = kl at *
      clear hsh hg0 h0 ho h1 hk ih hg
      go_enter Try.func49, Try.ntmps49
      go_wp2
      go_ret
      exact ⟨rfl, hb0⟩
  · have hg : goodI t = false := goodI_no (by rw [hsh, decide_eq_false h0, Bool.false_and])
    rw [hg]
    have tk : (t.num != 0) = true := by simp; omega
    generalize t.num = nn at *
    clear hsh hg0 h0 ho hk ih hg
    go_enter Try.func49, Try.ntmps49
    go_wp2
    go_ret
    exact ⟨rfl, hb0⟩

set_option maxRecDepth 100000 in
set_option maxHeartbeats 2000000 in
theorem l8Right_big4 (t : Ix) (x : Value) (w : World) (hx : IxIn w x t) (hkl : t.kids.length ≤ 1048576) (ho : t.op = 4)
    (ih : ∀ i, i < t.kids.length → ∀ (w' : World) (y : Value), IxIn w' y (ixAt t.kids i) → Calls Try.prog 49 #[y] w' (BoolPost (goodI (ixAt t.kids i)) w')) :
    Calls Try.prog 49 #[x] w (BoolPost (goodI t) w) := by
  obtain ⟨B, d, rfl, hk⟩ := hx
  have hsh := shapeI_4 ho
  have hg0 := goodI_eq t
  rw [hsh] at hg0
  have hb0 : Below w.heap.size w (w.alloc (.cells #[.int .i64 t.op, .int .i64 t.num, .slice B t.kids.length d] 42)) := (Below.refl _ _).alloc (Nat.le_refl _) _
  rw [ho] at hb0 ⊢
  by_cases h0 : t.num = 0
  · rw [decide_eq_true h0] at hg0
    rw [h0] at hb0 ⊢
    by_cases h1 : t.kids.length = 2
    · rw [decide_eq_true h1, Bool.true_and, Bool.true_and] at hg0
      have HG := Lib.hid hg0
      have HN := Lib.hid h1
      have HK := Lib.hid hk
      rw [h1] at hb0 ⊢
      rw [h1] at HK
      rw [hg0]
      clear hsh hg0 h0 ho h1 hk
      go_enter Try.func49, Try.ntmps49
      go_wp2
      go_loopw [51] (fun i wr => ∃ k : Nat, k ≤ 2 ∧ i = .int .i64 k ∧ goodIs (t.kids.take k) = true ∧ Below w.heap.size w wr) (fun i _ => 2 - (intOf i).toNat)
      case atStart => exact ⟨0, Nat.zero_le _, rfl, by simp [goodIs], hb0⟩
      case round =>
        clear hb0
        obtain ⟨k, hk', rfl, hgt, hb⟩ := hrel
        have HGT := Lib.hid hgt
        clear hgt
        by_cases hlt : k < 2
        · obtain ⟨b, off, B1, e1, rfl, hbl, d0, d1, d2, hy⟩ := kid_ix (HK.out.below hb) (by rw [HN.out]; exact hlt)
          have hbx : Below wr.heap.size wr (wr.alloc (.cells #[.int .i64 (ixAt t.kids k).op, .int .i64 (ixAt t.kids k).num, .slice B1 (ixAt t.kids k).kids.length e1] 42)) := (Below.refl _ _).alloc (Nat.le_refl _) _
          have hct := ih k (by rw [HN.out]; exact hlt) _ _ (hy.below hbx)
          have hb2 := hb.trans (hbx.mono hb.size)
          have hno := fun h => Lib.hid (goodIs_no (ts := t.kids) (i := k) (by rw [HN.out]; exact hlt) h)
          have hnx := Lib.hid (goodIs_next (ts := t.kids) (k := k) (by rw [HN.out]; exact hlt))
          generalize ixAt t.kids k = u at d0 d1 d2 hct hbx hb2 hno hnx
          clear hy hbl hbx hb ih HK
          by_cases hgu : goodI u = true
          · rw [hgu] at hct
            have hnx' : Hid (goodIs (t.kids.take (k + 1)) = true) := by show goodIs (t.kids.take (k + 1)) = true; rw [hnx.out, HGT.out, hgu]; rfl
            clear hno hgu hnx
            go_wp2_with fail
            refine hct.mono ?_
            rintro e w2 ⟨rfl, hb3⟩
            have hb4 := hb2.trans (hb3.mono hb2.size)
            clear hct hb2 hb3 d0 d1 d2
            go_wp2
            refine ⟨⟨k + 1, by omega, by go_num, hnx'.out, hb4⟩, ?_⟩
            simp only [intOf]
            omega
          · have hgu' : goodI u = false := by simpa using hgu
            rw [hgu'] at hct
            have hr := hno hgu'
            clear hno hgu hgu' hnx
            go_wp2_with fail
            refine hct.mono ?_
            rintro e w2 ⟨rfl, hb3⟩
            have hpost : BoolPost (goodIs t.kids) w (.returned (.bool false)) w2 := ⟨by rw [hr.out], hb2.trans (hb3.mono hb2.size)⟩
            clear hct hb2 hb3 d0 d1 d2 hr
            go_wp2
            go_ret
            exact hpost
        · have hpost : BoolPost (goodIs t.kids) w (.returned (.bool true)) wr := ⟨by rw [← HGT.out, List.take_of_length_le (by rw [HN.out]; omega)], hb⟩
          clear ih HK hb
          go_wp2
          go_ret
          exact hpost
    · have hg : goodI t = false := goodI_no (by rw [hsh, decide_eq_false h1, Bool.and_false])
      rw [hg]
      have tk : ((t.kids.length : Int) != 2) = true := by simp; omega
      generalize t.kids.length = kl at *
      clear hsh hg0 h0 ho h1 hk ih hg
      go_enter Try.func49, Try.ntmps49
      go_wp2
      go_ret
      exact ⟨rfl, hb0⟩
  · have hg : goodI t = false := goodI_no (by rw [hsh, decide_eq_false h0, Bool.false_and])
    rw [hg]
    have tk : (t.num != 0) = true := by simp; omega
    generalize t.num = nn at *
    clear hsh hg0 h0 ho hk ih hg
    go_enter Try.func49, Try.ntmps49
    go_wp2
    go_ret
    exact ⟨rfl, hb0⟩

theorem l8Right_of (t : Ix) (x : Value) (w : World) (hx : IxIn w x t) (hkl : t.kids.length ≤ 1048576)
    (ih : ∀ i, i < t.kids.length → ∀ (w' : World) (y : Value), IxIn w' y (ixAt t.kids i) → Calls Try.prog 49 #[y] w' (BoolPost (goodI (ixAt t.kids i)) w')) :
    Calls Try.prog 49 #[x] w (BoolPost (goodI t) w) := by
  by_cases h1 : t.op = 1
  · exact l8Right_leaf t x w hx hkl (.inl h1)
  by_cases h2 : t.op = 2
  · exact l8Right_leaf t x w hx hkl (.inr h2)
  by_cases h3 : t.op = 3
  · exact l8Right_big3 t x w hx hkl h3 ih
  by_cases h4 : t.op = 4
  · exact l8Right_big4 t x w hx hkl h4 ih
  exact l8Right_other t x w hx h1 h2 h3 h4

theorem l8Right_any : ∀ (N : Nat) (t : Ix), szIx t ≤ N → FitIx t → ∀ (w : World) (x : Value), IxIn w x t → Calls Try.prog 49 #[x] w (BoolPost (goodI t) w) := by
  intro N
  induction N with
  | zero => intro t hN; rw [szIx_eq] at hN; omega
  | succ N ih =>
    intro t hN hf w x hx
    have h2 := (fitIx_eq _).1 hf
    refine l8Right_of t x w hx h2.1 fun i hi w' y hy => ?_
    have h3 := szIx_at hi
    rw [szIx_eq] at hN
    exact ih _ (by omega) (fitIxs_at h2.2 hi) w' y hy

set_option maxRecDepth 100000 in
set_option maxHeartbeats 2000000 in
theorem l8Size_of (t : Ix) (x : Value) (w : World) (hx : IxIn w x t) (hkl : t.kids.length ≤ 1048576) (hsz : szIx t ≤ 9007199254740992)
    (ih : ∀ i, i < t.kids.length → ∀ (w' : World) (y : Value), IxIn w' y (ixAt t.kids i) → Calls Try.prog 50 #[y] w' (IntPost (szIx (ixAt t.kids i)) w')) :
    Calls Try.prog 50 #[x] w (IntPost (szIx t) w) := by
  obtain ⟨B, d, rfl, hk⟩ := hx
  have hg := szIx_eq t
  have HG := Lib.hid hg
  have hb0 : Below w.heap.size w (w.alloc (.cells #[.int .i64 t.op, .int .i64 t.num, .slice B t.kids.length d] 42)) := (Below.refl _ _).alloc (Nat.le_refl _) _
  have hle : szIxs t.kids ≤ 9007199254740991 := by omega
  clear hg hsz
  go_enter Try.func50, Try.ntmps50
  go_wp2
  go_loopw [3, 9] (fun s i wr => ∃ k : Nat, k ≤ t.kids.length ∧ i = .int .i64 k ∧ s = .int .i64 (1 + (szIxs (t.kids.take k) : Nat)) ∧ Below w.heap.size w wr) (fun _ i _ => t.kids.length - (intOf i).toNat)
  case atStart => exact ⟨0, Nat.zero_le _, rfl, by simp [szIxs], hb0⟩
  case round =>
    clear hb0
    obtain ⟨k, hk', rfl, rfl, hb⟩ := hrel
    by_cases hlt : k < t.kids.length
    · obtain ⟨b, off, B1, e1, rfl, hbl, d0, d1, d2, hy⟩ := kid_ix (hk.below hb) hlt
      have hbx : Below wr.heap.size wr (wr.alloc (.cells #[.int .i64 (ixAt t.kids k).op, .int .i64 (ixAt t.kids k).num, .slice B1 (ixAt t.kids k).kids.length e1] 42)) := (Below.refl _ _).alloc (Nat.le_refl _) _
      have hct := ih k hlt _ _ (hy.below hbx)
      have hb2 := hb.trans (hbx.mono hb.size)
      have hnx := szIxs_next hlt
      have htk := szIxs_take t.kids (k + 1)
      generalize ixAt t.kids k = u at d0 d1 d2 hct hbx hb2 hnx
      generalize hs : szIxs (t.kids.take k) = s at hnx
      have hse : Hid ((1 : Int) + ((szIxs (t.kids.take (k + 1)) : Nat) : Int) = 1 + (s : Int) + (szIx u : Nat)) := by show (1 : Int) + ((szIxs (t.kids.take (k + 1)) : Nat) : Int) = 1 + (s : Int) + (szIx u : Nat); omega
      have hbd : (1 : Int) + (s : Int) + (szIx u : Nat) ≤ 9007199254740992 := by omega
      clear hy hbl hbx hb ih hk hs hnx htk
      generalize szIx u = z at hct hse hbd
      go_wp2_with fail
      refine hct.mono ?_
      rintro e w2 ⟨rfl, hb3⟩
      have hb4 := hb2.trans (hb3.mono hb2.size)
      clear hct hb2 hb3 d0 d1 d2
      go_wp2
      refine ⟨⟨k + 1, by omega, by go_num, by rw [hse.out], hb4⟩, ?_⟩
      simp only [intOf]
      omega
    · have hpost : IntPost (szIx t) w (.returned (.int .i64 (1 + (szIxs (t.kids.take k) : Nat)))) wr := ⟨by rw [HG.out, List.take_of_length_le (by omega)]; congr 2, hb⟩
      clear ih hk hb
      go_wp2
      go_ret
      exact hpost

theorem l8Size_any : ∀ (N : Nat) (t : Ix), szIx t ≤ N → N ≤ 9007199254740992 → FitIx t → ∀ (w : World) (x : Value), IxIn w x t → Calls Try.prog 50 #[x] w (IntPost (szIx t) w) := by
  intro N
  induction N with
  | zero => intro t hN; rw [szIx_eq] at hN; omega
  | succ N ih =>
    intro t hN hNb hf w x hx
    have h2 := (fitIx_eq _).1 hf
    refine l8Size_of t x w hx h2.1 (by omega) fun i hi w' y hy => ?_
    have h3 := szIx_at hi
    rw [szIx_eq] at hN
    exact ih _ (by omega) (by omega) (fitIxs_at h2.2 hi) w' y hy

set_option maxRecDepth 100000 in
theorem isIndexTerm_spec (t : Ix) (x : Value) (w : World) (hx : IxIn w x t) (hc : cntIx t ≤ 1048576) :
    Calls Try.prog 16 #[x] w (BoolPost (isIndexB t) w) := by
  have hle := szIx_le t
  have hgd := fun W hW => l8Right_any _ t (Nat.le_refl _) (fitIx_of t hc) W x hW
  have hsz := fun W hW => l8Size_any (szIx t) t (Nat.le_refl _) (by omega) (fitIx_of t hc) W x hW
  have hr0 : isIndexB t = (goodI t && decide (szIx t ≤ 60)) := rfl
  have hr := Lib.hid hr0
  clear hr0
  have hx' := hx
  obtain ⟨B, d, rfl, hk⟩ := hx
  have hb0 : Below w.heap.size w (w.alloc (.cells #[.int .i64 t.op, .int .i64 t.num, .slice B t.kids.length d] 42)) := (Below.refl _ _).alloc (Nat.le_refl _) _
  have hg0 := hgd _ (hx'.below hb0)
  clear hgd
  by_cases h1 : goodI t = true
  · rw [h1] at hg0 hr
    rw [Bool.true_and] at hr
    clear h1
    go_enter Try.func16, Try.ntmps16
    go_wp2_with fail
    refine hg0.mono ?_
    rintro e w1 ⟨rfl, hb1⟩
    obtain ⟨b0, b1, b2⟩ := box3 hb1
    have hs1 := hb0.trans (hb1.mono hb0.size)
    have hs0 := hsz _ (hx'.below hs1)
    clear hg0 hb0 hb1 hk hsz hx'
    generalize hz : szIx t = z at hs0 hr hle
    clear hz
    go_wp2_with fail
    refine hs0.mono ?_
    rintro e w2 ⟨rfl, hb2⟩
    have hpost : BoolPost (isIndexB t) w (.returned (.bool (decide (z ≤ 60)))) w2 := ⟨by rw [hr.out], hs1.trans (hb2.mono hs1.size)⟩
    clear hs0 hs1 hb2 hr b0 b1 b2
    by_cases h2 : z ≤ 60
    · rw [decide_eq_true h2] at hpost
      have k2 : (z : Int) ≤ 60 := by omega
      go_wp2
      go_ret
      exact hpost
    · rw [decide_eq_false h2] at hpost
      have k2 : decide ((z : Int) ≤ 60) = false := by simp; omega
      go_wp2
      go_ret
      exact hpost
  · have h1' : goodI t = false := by simpa using h1
    rw [h1'] at hg0 hr
    rw [Bool.false_and] at hr
    clear h1 h1' hsz hx'
    go_enter Try.func16, Try.ntmps16
    go_wp2_with fail
    refine hg0.mono ?_
    rintro e w1 ⟨rfl, hb1⟩
    have hpost : BoolPost (isIndexB t) w (.returned (.bool false)) w1 := ⟨by rw [hr.out], hb0.trans (hb1.mono hb0.size)⟩
    clear hg0 hb0 hb1 hk hr
    go_wp2
    go_ret
    exact hpost
end Go.Proofs.Ytihijigbdpjcoaa
