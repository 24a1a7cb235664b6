/-
  What is a term, and how great it is, in the model, as contracts. Comparing, numbering and copying lists of integers, as contracts.
-/
import Derived.Test.YtnomidnjglbedaaKHolesOf7
import Derived.Test.YtnomidnjglbedaaKHolesOf2
import Derived.WalkLawsBesides
import Derived.WalkSpells
import Derived.BigQuiet
import Derived.Lib.QuietBelow
section
namespace Go.Proofs.Ytnomidnjglbedaa
open Go.RowKit Go.Sort

/-- A struct of four cells in a box, in a later world. -/
theorem box4 {a b c d : Value} {T : TypeId} {w w1 : World} (hb : Below (w.alloc (.cells #[a, b, c, d] T)).heap.size (w.alloc (.cells #[a, b, c, d] T)) w1) :
    w1.cell? ⟨w.heap.size, 0, none⟩ = some a ∧ w1.cell? ⟨w.heap.size, 1, none⟩ = some b ∧ w1.cell? ⟨w.heap.size, 2, none⟩ = some c ∧ w1.cell? ⟨w.heap.size, 3, none⟩ = some d := by
  have h := (hb.block w.heap.size (by simp)).trans (heap_alloc_new w _)
  refine ⟨?_, ?_, ?_, ?_⟩ <;> rw [cell_of_row w1 w.heap.size _ _ _ _ h] <;> rfl

mutual
theorem szT_le : ∀ t : Tm, szT t ≤ 1 + cntT t
  | .mk o n p ks => by
    have := szTs_le ks
    rw [szT, cntT]; omega
theorem szTs_le : ∀ ts : List Tm, szTs ts ≤ ts.length + sumT ts
  | [] => by simp [szTs]
  | t :: r => by
    have h1 := szT_le t
    have h2 := szTs_le r
    rw [szTs, sumT, List.length_cons]; omega
end

theorem szTs_append : ∀ a b : List Tm, szTs (a ++ b) = szTs a + szTs b
  | [], b => by simp [szTs]
  | t :: r, b => by rw [List.cons_append, szTs, szTs, szTs_append r b]; omega
theorem szTs_next {ts : List Tm} {k : Nat} (h : k < ts.length) : szTs (ts.take (k + 1)) = szTs (ts.take k) + szT (tmAt ts k) := by
  rw [tm_take_next h, szTs_append]
  simp [szTs]
theorem szTs_take (ts : List Tm) (k : Nat) : szTs (ts.take k) ≤ szTs ts := by
  have := szTs_append (ts.take k) (ts.drop k)
  rw [List.take_append_drop] at this
  omega

/-- The answer, and new blocks at most. -/
def BoolPost (b : Bool) (w : World) (e : Ending) (w' : World) : Prop := e = .returned (.bool b) ∧ Below w.heap.size w w'
def IntPost (n : Int) (w : World) (e : Ending) (w' : World) : Prop := e = .returned (.int .i64 n) ∧ Below w.heap.size w w'

set_option maxRecDepth 100000 in
set_option maxHeartbeats 2000000 in
theorem l2Good_of (t : Tm) (x : Value) (w : World) (hx : TmIn w x t) (hpl : t.perm.length ≤ 1048576) (hkl : t.kids.length ≤ 1048576)
    (ih : ∀ i, i < t.kids.length → ∀ (w' : World) (y : Value), TmIn w' y (tmAt t.kids i) → Calls Try.prog 66 #[y] w' (BoolPost (goodT (tmAt t.kids i)) w')) :
    Calls Try.prog 66 #[x] w (BoolPost (goodT t) w) := by
  have hsh := fun W hW => shape_spec_any t x W hW hpl hkl
  obtain ⟨A, c, kv, rfl, hp, hk⟩ := hx
  obtain ⟨B, d, rfl⟩ := hk.form
  have hg := Lib.hid (goodT_eq t)
  have hb0 : Below w.heap.size w (w.alloc (.cells #[.int .i64 t.op, .int .i64 t.num, .slice A t.perm.length c, .slice B t.kids.length d] 31)) := (Below.refl _ _).alloc (Nat.le_refl _) _
  have hsh' := hsh _ ⟨A, c, _, rfl, hp.below hb0, hk.below hb0⟩
  by_cases h1 : shapeB t = true
  · rw [h1] at hsh' hg
    rw [Bool.true_and] at hg
    rw [hg.out]
    clear h1 hsh
    go_enter Try.func66, Try.ntmps66
    go_wp2_with fail
    refine hsh'.mono ?_
    rintro e w1 ⟨rfl, hb1⟩
    obtain ⟨b0, b1, b2, b3⟩ := box4 hb1
    have hs1 := hb0.trans (hb1.mono hb0.size)
    clear hsh' hb0 hb1 hp
    go_wp2
    clear b0 b1 b2 b3
    go_loopw [11] (fun i wr => ∃ k : Nat, k ≤ t.kids.length ∧ i = .int .i64 k ∧ goodTs (t.kids.take k) = true ∧ Below w.heap.size w wr) (fun i _ => t.kids.length - (intOf i).toNat)
    case atStart => exact ⟨0, Nat.zero_le _, rfl, by simp [goodTs], hs1⟩
    case round =>
      clear hs1
      obtain ⟨k, hk', rfl, hgt, hb⟩ := hrel
      have HGT := Lib.hid hgt
      clear hgt
      by_cases hlt : k < t.kids.length
      · obtain ⟨b, off, rfl, hbl, hget⟩ := (hk.below hb).get (by omega)
        obtain ⟨A1, c1, kv1, d0, d1, d2, d3, hp1, hk1⟩ := hget k hlt
        obtain ⟨B1, e1, rfl⟩ := hk1.form
        have hbx : Below wr.heap.size wr (wr.alloc (.cells #[.int .i64 (tmAt t.kids k).op, .int .i64 (tmAt t.kids k).num, .slice A1 (tmAt t.kids k).perm.length c1, .slice B1 (tmAt t.kids k).kids.length e1] 31)) := (Below.refl _ _).alloc (Nat.le_refl _) _
        have hct := ih k hlt _ _ ⟨A1, c1, _, rfl, hp1.below hbx, hk1.below hbx⟩
        have hb2 := hb.trans (hbx.mono hb.size)
        have hno := fun h => Lib.hid (goodTs_no hlt h)
        have hnx := Lib.hid (goodTs_next hlt)
        generalize tmAt t.kids k = u at d0 d1 d2 d3 hct hbx hb2 hno hnx
        clear hget hp1 hk1 hbl hbx hb ih hk
        by_cases hgu : goodT u = true
        · rw [hgu] at hct
          have hnx' : Hid (goodTs (t.kids.take (k + 1)) = true) := by show goodTs (t.kids.take (k + 1)) = true; rw [hnx.out, HGT.out, hgu]; rfl
          clear hno hgu hnx
          go_wp2_with fail
          refine hct.mono ?_
          rintro e w2 ⟨rfl, hb3⟩
          have hb4 := hb2.trans (hb3.mono hb2.size)
          clear hct hb2 hb3 d0 d1 d2 d3
          go_wp2
          refine ⟨⟨k + 1, by omega, by go_num, hnx'.out, hb4⟩, ?_⟩
          simp only [intOf]
          omega
        · have hgu' : goodT u = false := by simpa using hgu
          rw [hgu'] at hct
          have hr := hno hgu'
          clear hno hgu hgu' hnx
          go_wp2_with fail
          refine hct.mono ?_
          rintro e w2 ⟨rfl, hb3⟩
          have hpost : BoolPost (goodTs t.kids) w (.returned (.bool false)) w2 := ⟨by rw [hr.out], hb2.trans (hb3.mono hb2.size)⟩
          clear hct hb2 hb3 d0 d1 d2 d3 hr
          go_wp2
          go_ret
          exact hpost
      · have hpost : BoolPost (goodTs t.kids) w (.returned (.bool true)) wr := ⟨by rw [← HGT.out, List.take_of_length_le (by omega)], hb⟩
        clear ih hk hb
        go_wp2
        go_ret
        exact hpost
  · have h1' : shapeB t = false := by simpa using h1
    rw [h1'] at hsh' hg
    rw [Bool.false_and] at hg
    rw [hg.out]
    clear h1 h1' hsh ih
    go_enter Try.func66, Try.ntmps66
    go_wp2_with fail
    refine hsh'.mono ?_
    rintro e w1 ⟨rfl, hb1⟩
    have hpost : BoolPost false w (.returned (.bool false)) w1 := ⟨rfl, hb0.trans (hb1.mono hb0.size)⟩
    clear hsh' hb0 hb1 hp hk
    go_wp2
    go_ret
    exact hpost

theorem l2Good_any : ∀ (N : Nat) (t : Tm), szT t ≤ N → Fit t → ∀ (w : World) (x : Value), TmIn w x t → Calls Try.prog 66 #[x] w (BoolPost (goodT t) w) := by
  intro N
  induction N with
  | zero => intro t hN; rw [szT_eq] at hN; omega
  | succ N ih =>
    intro t hN hf w x hx
    have h2 := (fit_eq _).1 hf
    refine l2Good_of t x w hx h2.1 h2.2.1 fun i hi w' y hy => ?_
    have h3 := szT_at hi
    rw [szT_eq] at hN
    exact ih _ (by omega) (fits_at h2.2.2 hi) w' y hy

set_option maxRecDepth 100000 in
set_option maxHeartbeats 2000000 in
theorem l2Size_of (t : Tm) (x : Value) (w : World) (hx : TmIn w x t) (hkl : t.kids.length ≤ 1048576) (hsz : szT t ≤ 9007199254740992)
    (ih : ∀ i, i < t.kids.length → ∀ (w' : World) (y : Value), TmIn w' y (tmAt t.kids i) → Calls Try.prog 67 #[y] w' (IntPost (szT (tmAt t.kids i)) w')) :
    Calls Try.prog 67 #[x] w (IntPost (szT t) w) := by
  obtain ⟨A, c, kv, rfl, hp, hk⟩ := hx
  obtain ⟨B, d, rfl⟩ := hk.form
  have hg := szT_eq t
  have HG := Lib.hid hg
  have hb0 : Below w.heap.size w (w.alloc (.cells #[.int .i64 t.op, .int .i64 t.num, .slice A t.perm.length c, .slice B t.kids.length d] 31)) := (Below.refl _ _).alloc (Nat.le_refl _) _
  have hle : szTs t.kids ≤ 9007199254740991 := by omega
  clear hg hsz
  go_enter Try.func67, Try.ntmps67
  go_wp2
  go_loopw [3, 9] (fun s i wr => ∃ k : Nat, k ≤ t.kids.length ∧ i = .int .i64 k ∧ s = .int .i64 (1 + (szTs (t.kids.take k) : Nat)) ∧ Below w.heap.size w wr) (fun _ i _ => t.kids.length - (intOf i).toNat)
  case atStart => exact ⟨0, Nat.zero_le _, rfl, by simp [szTs], hb0⟩
  case round =>
    clear hb0 hp
    obtain ⟨k, hk', rfl, rfl, hb⟩ := hrel
    by_cases hlt : k < t.kids.length
    · obtain ⟨b, off, rfl, hbl, hget⟩ := (hk.below hb).get (by omega)
      obtain ⟨A1, c1, kv1, d0, d1, d2, d3, hp1, hk1⟩ := hget k hlt
      obtain ⟨B1, e1, rfl⟩ := hk1.form
      have hbx : Below wr.heap.size wr (wr.alloc (.cells #[.int .i64 (tmAt t.kids k).op, .int .i64 (tmAt t.kids k).num, .slice A1 (tmAt t.kids k).perm.length c1, .slice B1 (tmAt t.kids k).kids.length e1] 31)) := (Below.refl _ _).alloc (Nat.le_refl _) _
      have hct := ih k hlt _ _ ⟨A1, c1, _, rfl, hp1.below hbx, hk1.below hbx⟩
      have hb2 := hb.trans (hbx.mono hb.size)
      have hnx := szTs_next hlt
      have htk := szTs_take t.kids (k + 1)
      generalize tmAt t.kids k = u at d0 d1 d2 d3 hct hbx hb2 hnx
      generalize hs : szTs (t.kids.take k) = s at hnx
      have hse : Hid ((1 : Int) + ((szTs (t.kids.take (k + 1)) : Nat) : Int) = 1 + (s : Int) + (szT u : Nat)) := by show (1 : Int) + ((szTs (t.kids.take (k + 1)) : Nat) : Int) = 1 + (s : Int) + (szT u : Nat); omega
      have hbd : (1 : Int) + (s : Int) + (szT u : Nat) ≤ 9007199254740992 := by omega
      clear hget hp1 hk1 hbl hbx hb ih hk hs hnx htk
      generalize szT u = z at hct hse hbd
      go_wp2_with fail
      refine hct.mono ?_
      rintro e w2 ⟨rfl, hb3⟩
      have hb4 := hb2.trans (hb3.mono hb2.size)
      clear hct hb2 hb3 d0 d1 d2 d3
      go_wp2
      refine ⟨⟨k + 1, by omega, by go_num, by rw [hse.out], hb4⟩, ?_⟩
      simp only [intOf]
      omega
    · have hpost : IntPost (szT t) w (.returned (.int .i64 (1 + (szTs (t.kids.take k) : Nat)))) wr := ⟨by rw [HG.out, List.take_of_length_le (by omega)]; congr 2, hb⟩
      clear ih hk hb
      go_wp2
      go_ret
      exact hpost

theorem l2Size_any : ∀ (N : Nat) (t : Tm), szT t ≤ N → N ≤ 9007199254740992 → Fit t → ∀ (w : World) (x : Value), TmIn w x t → Calls Try.prog 67 #[x] w (IntPost (szT t) w) := by
  intro N
  induction N with
  | zero => intro t hN; rw [szT_eq] at hN; omega
  | succ N ih =>
    intro t hN hNb hf w x hx
    have h2 := (fit_eq _).1 hf
    refine l2Size_of t x w hx h2.2.1 (by omega) fun i hi w' y hy => ?_
    have h3 := szT_at hi
    rw [szT_eq] at hN
    exact ih _ (by omega) (by omega) (fits_at h2.2.2 hi) w' y hy

set_option maxRecDepth 100000 in
theorem isTerm_spec (t : Tm) (x : Value) (w : World) (hx : TmIn w x t) (hc : cntT t ≤ 1048576) :
    Calls Try.prog 16 #[x] w (BoolPost (isTermB t) w) := by
  have hle := szT_le t
  have hgd := fun W hW => l2Good_any _ t (Nat.le_refl _) (fit_of t hc) W x hW
  have hsz := fun W hW => l2Size_any (szT t) t (Nat.le_refl _) (by omega) (fit_of t hc) W x hW
  have hr0 : isTermB t = (goodT t && decide (szT t ≤ 60)) := rfl
  have hr := Lib.hid hr0
  clear hr0
  have hx' := hx
  obtain ⟨A, c, kv, rfl, hp, hk⟩ := hx
  obtain ⟨B, d, rfl⟩ := hk.form
  have hb0 : Below w.heap.size w (w.alloc (.cells #[.int .i64 t.op, .int .i64 t.num, .slice A t.perm.length c, .slice B t.kids.length d] 31)) := (Below.refl _ _).alloc (Nat.le_refl _) _
  have hg0 := hgd _ (hx'.below hb0)
  clear hgd
  by_cases h1 : goodT t = true
  · rw [h1] at hg0 hr
    rw [Bool.true_and] at hr
    clear h1
    go_enter Try.func16, Try.ntmps16
    go_wp2_with fail
    refine hg0.mono ?_
    rintro e w1 ⟨rfl, hb1⟩
    obtain ⟨b0, b1, b2, b3⟩ := box4 hb1
    have hs1 := hb0.trans (hb1.mono hb0.size)
    have hs0 := hsz _ (hx'.below hs1)
    clear hg0 hb0 hb1 hp hk hsz hx'
    generalize hz : szT t = z at hs0 hr hle
    clear hz
    go_wp2_with fail
    refine hs0.mono ?_
    rintro e w2 ⟨rfl, hb2⟩
    have hpost : BoolPost (isTermB t) w (.returned (.bool (decide (z ≤ 60)))) w2 := ⟨by rw [hr.out], hs1.trans (hb2.mono hs1.size)⟩
    clear hs0 hs1 hb2 hr b0 b1 b2 b3
    by_cases h2 : z ≤ 60
    · rw [decide_eq_true h2] at hpost
      have k2 : (z : Int) ≤ 60 := by omega
      go_wp2
      go_ret
      exact hpost
    · rw [decide_eq_false h2] at hpost
      have k2 : decide ((z : Int) ≤ 60) = false := by simp; omega
      go_wp2
      go_ret
      exact hpost
  · have h1' : goodT t = false := by simpa using h1
    rw [h1'] at hg0 hr
    rw [Bool.false_and] at hr
    clear h1 h1' hsz hx'
    go_enter Try.func16, Try.ntmps16
    go_wp2_with fail
    refine hg0.mono ?_
    rintro e w1 ⟨rfl, hb1⟩
    have hpost : BoolPost (isTermB t) w (.returned (.bool false)) w1 := ⟨by rw [hr.out], hb0.trans (hb1.mono hb0.size)⟩
    clear hg0 hb0 hb1 hp hk hr
    go_wp2
    go_ret
    exact hpost

end Go.Proofs.Ytnomidnjglbedaa
end

section
namespace Go.Proofs.Ytnomidnjglbedaa
open Go.RowKit Go.Sort

set_option maxHeartbeats 400000 in
theorem eqIntS_any (A B : Option Addr) (c d : Nat) (xs ys : List Int) (w : World) (hx : IntsAt w A xs) (hy : IntsAt w B ys) (hlx : xs.length ≤ 9223372036854775807) :
    Calls Try.prog 24 #[.slice A xs.length c, .slice B ys.length d] w
      fun e w' => e = .returned (.bool (decide (xs = ys))) ∧ Below w.heap.size w w' := by
  by_cases hl : xs.length = ys.length
  · have k0 : ((xs.length : Int) != (ys.length : Int)) = false := by simp [hl]
    have HL := Lib.hid hl
    clear hl
    go_enter Try.func24, Try.ntmps24
    go_wp2
    go_loopw [5] (fun i wr => ∃ k : Nat, k ≤ xs.length ∧ i = .int .i64 k ∧ xs.take k = ys.take k ∧ Below w.heap.size w wr) (fun i _ => xs.length - (intOf i).toNat)
    case atStart => exact ⟨0, Nat.zero_le _, rfl, rfl, Below.refl _ _⟩
    case round =>
      obtain ⟨k, hk, rfl, ht, hb⟩ := hrel
      have HT := Lib.hid ht
      clear ht
      by_cases hlt : k < xs.length
      · obtain ⟨b1, o1, rfl, hb1, hc1⟩ := hx (by omega)
        obtain ⟨b2, o2, rfl, hb2, hc2⟩ := hy (by have := HL.out; omega)
        have c1 := hc1 k hlt
        have c3 := hc2 k (by have := HL.out; omega)
        rw [← hb.cell (p := ⟨b1, _, none⟩) hb1] at c1
        rw [← hb.cell (p := ⟨b2, _, none⟩) hb2] at c3
        have hlt2 : k < ys.length := by have := HL.out; omega
        clear hc1 hc2 hx hy
        have q1 := fun d os => cell_regrown c1 d os
        have q3 := fun d os => cell_regrown c3 d os
        by_cases he : itAt xs k = itAt ys k
        · have hn : Hid (xs.take (k + 1) = ys.take (k + 1)) := (take_next 0 k hlt hlt2 HT.out).2 he
          have hq : (itAt xs k != itAt ys k) = false := by simp [he]
          generalize itAt xs k = x at q1 hq
          generalize itAt ys k = y at q3 hq
          clear he c1 c3
          go_wp2
          refine wp_region_quiet_below (by kernel_rfl) (by kernel_rfl) ?_
          repeat (any_goals (first | go_big_quiet_step (fail) | quiet_step (fail)))
          refine wpQuiet_nil ?_
          intro _ hw'
          obtain ⟨⟨dq, osq⟩, hw''⟩ := hw'
          subst hw''
          have hb3 := hb.trans ((below_regrown wr dq osq).mono hb.size)
          generalize grow (redrawn wr dq) osq = w2 at hb3 ⊢
          clear q1 q3 hb
          go_wp2
          refine ⟨⟨k + 1, by omega, by go_num, hn.out, hb3⟩, ?_⟩
          simp only [intOf]
          omega
        · have hn : Hid (decide (xs = ys) = false) := idiffer_at k he
          have hq : (itAt xs k != itAt ys k) = true := by simp [he]
          generalize itAt xs k = x at q1 hq
          generalize itAt ys k = y at q3 hq
          clear he c1 c3
          go_wp2
          refine wp_region_quiet_below (by kernel_rfl) (by kernel_rfl) ?_
          repeat (any_goals (first | go_big_quiet_step (fail) | quiet_step (fail)))
          refine wpQuiet_nil ?_
          intro _ hw'
          obtain ⟨⟨dq, osq⟩, hw''⟩ := hw'
          subst hw''
          have hb3 := hb.trans ((below_regrown wr dq osq).mono hb.size)
          generalize grow (redrawn wr dq) osq = w2 at hb3 ⊢
          clear q1 q3 hb
          go_wp2
          go_ret
          exact ⟨bool_end hn.out.symm, hb3⟩
      · go_wp2
        go_ret
        have e : k = xs.length := by omega
        subst e
        exact ⟨bool_end (isame_all HL.out HT.out).symm, hb⟩
  · have k0 : ((xs.length : Int) != (ys.length : Int)) = true := by simp; omega
    have hf : decide (xs = ys) = false := by
      simp only [decide_eq_false_iff_not]
      intro e
      exact hl (by rw [e])
    have HF := Lib.hid hf
    clear hl hf
    go_enter Try.func24, Try.ntmps24
    go_wp2
    go_ret
    exact ⟨bool_end HF.out.symm, Below.refl _ _⟩

theorem eqIntS_own (base1 base2 : Nat) (v1 v2 : Value) (l1 l2 : List Int) (w : World) (h1 : w.ownsRow base1 3 1 v1 l1.length (icells l1)) (h2 : w.ownsRow base2 3 1 v2 l2.length (icells l2)) (hl : l1.length ≤ 9223372036854775807) :
    Calls Try.prog 24 #[v1, v2] w
      fun e w' => e = .returned (.bool (decide (l1 = l2))) ∧ Below w.heap.size w w' := by
  obtain ⟨A, c, rfl, hA⟩ := own_intsAt h1
  obtain ⟨B, d, rfl, hB⟩ := own_intsAt h2
  exact eqIntS_any A B c d l1 l2 w hA hB hl

set_option maxHeartbeats 400000 in
theorem markIntS_row (base g n cap : Nat) (xs : List Value) (k : Int) (w : World) (hown : w.ownsRow base 3 1 (.slice (some ⟨g, 0, none⟩) n cap) n xs) (hk0 : 0 ≤ k) (hk1 : k + n ≤ 9223372036854775807) (hn : n ≤ 9223372036854775807) :
    Calls Try.prog 26 #[.slice (some ⟨g, 0, none⟩) n cap, .int .i64 k] w
      fun e w' => e = .returned (.int .i64 (k + n)) ∧ w'.ownsRow base 3 1 (.slice (some ⟨g, 0, none⟩) n cap) n (marked k n) ∧ w.grownBy w' (some g) := by
  have hlen := Lib.hid (show xs.length = n by simpa using hown.1)
  have hm0 := markTo_zero k xs
  go_enter Try.func26, Try.ntmps26
  go_wp2
  go_loopw [1, 5] (fun kk i wr => ∃ j : Nat, j ≤ n ∧ i = .int .i64 j ∧ kk = .int .i64 (k + j) ∧ wr.ownsRow base 3 1 (.slice (some ⟨g, 0, none⟩) n cap) n (markTo k j xs) ∧ w.grownBy wr (some g)) (fun _ i _ => n - (intOf i).toNat)
  case atStart => exact ⟨0, Nat.zero_le _, rfl, by simp, by simpa [hm0] using hown, World.grownBy.refl _ _⟩
  case round =>
    obtain ⟨j, hj, rfl, rfl, ho, hg⟩ := hrel
    by_cases hlt : j < n
    · have c0 := ho.cellAt j (by omega)
      have f0 := ho.frozenAt j
      rw [markTo_at k _ xs _ (by rw [hlen.out]; omega)] at c0
      obtain ⟨v0, e0⟩ : ∃ v, wr.cell? ⟨g, j, none⟩ = some v := ⟨_, c0⟩
      clear c0
      obtain ⟨ho1, hg1⟩ := ho.stored j (.int .i64 (k + j))
      rw [markTo_set] at ho1
      have hg3 := grownBy_trans hg hg1
      clear hg1 hg ho
      go_wp2
      refine ⟨⟨j + 1, by omega, by go_num, by go_num, ho1, hg3⟩, ?_⟩
      simp only [intOf]
      omega
    · have ej : j = n := by omega
      subst ej
      rw [markTo_all k _ xs hlen.out] at ho
      go_wp2
      go_ret
      exact ⟨rfl, ho, hg⟩

set_option maxHeartbeats 400000 in
theorem heldIntS_row (base g n cap : Nat) (k : Int) (w : World) (hown : w.ownsRow base 3 1 (.slice (some ⟨g, 0, none⟩) n cap) n (marked k n)) (hk0 : 0 ≤ k) (hk1 : k + n ≤ 9223372036854775807) (hn : n ≤ 9223372036854775807) :
    Calls Try.prog 27 #[.slice (some ⟨g, 0, none⟩) n cap, .int .i64 k] w
      fun e w' => e = .returned (.int .i64 (k + n)) ∧ w = w' := by
  go_enter Try.func27, Try.ntmps27
  go_wp2
  go_loop [1, 5] (fun kk i => ∃ j : Nat, j ≤ n ∧ i = .int .i64 j ∧ kk = .int .i64 (k + j)) (fun _ i => n - (intOf i).toNat)
  case atStart => exact ⟨0, Nat.zero_le _, rfl, by simp⟩
  case round =>
    obtain ⟨j, hj, rfl, rfl⟩ := hrel
    by_cases hlt : j < n
    · have c0 := hown.cellAt j (by omega)
      rw [marked_at k _ _ (by omega)] at c0
      clear hown
      have t0 : (k + (j : Int) != k + (j : Int)) = false := by simp
      go_wp2
      go_round
      case rel => exact ⟨j + 1, by omega, by go_num, by go_num⟩
      case measure => simp [intOf]; omega
    · have ej : j = n := by omega
      subst ej
      clear hown
      go_wp2
      go_ret
      exact ⟨rfl, rfl⟩

theorem markIntS_none (k : Int) (w : World) :
    Calls Try.prog 26 #[.slice none 0 0, .int .i64 k] w fun e w' => e = .returned (.int .i64 k) ∧ w = w' := by
  go_enter Try.func26, Try.ntmps26
  go_wp2
  go_loop [1, 5] (fun kk i => kk = .int .i64 k ∧ i = .int .i64 0) (fun _ _ => 0)
  case atStart => exact ⟨rfl, rfl⟩
  case round =>
    obtain ⟨rfl, rfl⟩ := hrel
    go_wp2
    go_ret
    exact ⟨rfl, rfl⟩

theorem heldIntS_none (k : Int) (w : World) :
    Calls Try.prog 27 #[.slice none 0 0, .int .i64 k] w fun e w' => e = .returned (.int .i64 k) ∧ w = w' := by
  go_enter Try.func27, Try.ntmps27
  go_wp2
  go_loop [1, 5] (fun kk i => kk = .int .i64 k ∧ i = .int .i64 0) (fun _ _ => 0)
  case atStart => exact ⟨rfl, rfl⟩
  case round =>
    obtain ⟨rfl, rfl⟩ := hrel
    go_wp2
    go_ret
    exact ⟨rfl, rfl⟩

theorem markIntS_own (base n : Nat) (v : Value) (xs : List Value) (k : Int) (w : World) (hown : w.ownsRow base 3 1 v n xs) (hk0 : 0 ≤ k) (hk1 : k + n ≤ 9223372036854775807) :
    Calls Try.prog 26 #[v, .int .i64 k] w
      fun e w' => e = .returned (.int .i64 (k + n)) ∧ w'.ownsRow base 3 1 v n (marked k n) ∧ w.grownBy w' v.ownBlock := by
  rcases hown.2 with ⟨rfl, rfl⟩ | ⟨g, cap, cur, rfl, _⟩
  · refine (markIntS_none k w).mono ?_
    rintro e w' ⟨rfl, rfl⟩
    exact ⟨int_end (by simp), by simpa [marked] using World.ownsRow_nil w base _ 1, World.grownBy.refl _ _⟩
  · exact markIntS_row base g n cap xs k w hown hk0 hk1 (by omega)

theorem heldIntS_own (base n : Nat) (v : Value) (k : Int) (w : World) (hown : w.ownsRow base 3 1 v n (marked k n)) (hk0 : 0 ≤ k) (hk1 : k + n ≤ 9223372036854775807) :
    Calls Try.prog 27 #[v, .int .i64 k] w
      fun e w' => e = .returned (.int .i64 (k + n)) ∧ w = w' := by
  rcases hown.2 with ⟨rfl, rfl⟩ | ⟨g, cap, cur, rfl, _⟩
  · refine (heldIntS_none k w).mono ?_
    rintro e w' ⟨rfl, rfl⟩
    exact ⟨int_end (by simp), rfl⟩
  · exact heldIntS_row base g n cap k w hown hk0 hk1 (by omega)

end Go.Proofs.Ytnomidnjglbedaa
end

