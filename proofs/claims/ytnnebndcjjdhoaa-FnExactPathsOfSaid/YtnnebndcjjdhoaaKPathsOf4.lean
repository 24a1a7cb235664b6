/-
  The size of a term that the laws count, as contracts. The laws' own copy of a term, as contracts. Numbering the cells of a term that is handed over by value, as a contract.
-/
import Derived.Test.YtnnebndcjjdhoaaKPathsOf1
import Derived.Test.YtnnebndcjjdhoaaKPathsOf3
import Derived.BigQuiet
import Derived.Lib.QuietBelow
import Derived.Test.YtnnebndcjjdhoaaKPathsOf2
section
namespace Go.Proofs.Ytnnebndcjjdhoaa
open Go.RowKit Go.Sort

/-- What is left of a bound. -/
def leftR (left : Int) (c : Nat) : Int := if (c : Int) ≤ left then left - c else -1

theorem leftR_yes {left : Int} {c : Nat} (h : (c : Int) ≤ left) : leftR left c = left - c := by simp [leftR, h]
theorem leftR_no {left : Int} {c : Nat} (h : ¬ (c : Int) ≤ left) : leftR left c = -1 := by simp [leftR, h]

/-- The answer, and new blocks at most. -/
def LeftPost (left : Int) (c : Nat) (w : World) (e : Ending) (w' : World) : Prop := e = .returned (.int .i64 (leftR left c)) ∧ Below w.heap.size w w'

set_option maxRecDepth 100000 in
set_option maxHeartbeats 1000000 in
theorem szTerm_of (t : Tm) (x : Value) (w : World) (left : Int) (h0 : 0 ≤ left) (h1 : left ≤ 1099511627776) (hx : TmIn w x t) (hlen : t.perm.length ≤ maxLen)
    (ih : ∀ (left' : Int) (w' : World) (y : Value), 0 ≤ left' → left' ≤ 1099511627776 → TmsIn w' y t.kids → Calls Try.prog 14 #[y, .int .i64 left'] w' (LeftPost left' (t.kids.length + sumT t.kids) w')) :
    Calls Try.prog 4 #[x, .int .i64 left] w (LeftPost left (cntT t) w) := by
  obtain ⟨A, c, kv, rfl, hp, hk⟩ := hx
  have hc := Lib.hid (cntT_eq t)
  unfold maxLen at hlen
  generalize t.op = o
  generalize t.num = n
  generalize t.perm.length = pl at hc hlen ⊢
  generalize t.kids.length + sumT t.kids = kc at hc ih
  have hb0 : Below w.heap.size w (w.alloc (.cells #[.int .i64 o, .int .i64 n, .slice A pl c, kv] 25)) := (Below.refl _ _).alloc (Nat.le_refl _) _
  have hk0 := hk.below hb0
  clear hp hk
  by_cases h2 : (pl : Int) ≤ left
  · have hleft : ¬ left - (pl : Int) < 0 := by omega
    have hsz := fun W => sz_yes A pl c left W (by omega) h1 h2
    have hih := ih (left - pl) _ kv (by omega) (by omega) hk0
    by_cases h3 : (kc : Int) ≤ left - pl
    · have hr : Hid (leftR left (cntT t) = left - pl - kc) := by show leftR left (cntT t) = left - pl - kc; rw [hc.out, leftR_yes (by omega)]; omega
      have hl3 : ¬ left - (pl : Int) - (kc : Int) < 0 := by omega
      unfold LeftPost at hih
      rw [leftR_yes h3] at hih
      clear ih
      go_enter Try.func4, Try.ntmps4
      go_wp2_with fail
      refine (hsz _).mono ?_
      rintro e w' ⟨rfl, rfl⟩
      go_wp2_with fail
      refine hih.mono ?_
      rintro e w1 ⟨rfl, hb1⟩
      have hpost : LeftPost left (cntT t) w (.returned (.int .i64 (left - pl - kc))) w1 := ⟨by rw [hr.out], hb0.trans (hb1.mono hb0.size)⟩
      clear hsz hih hb0 hb1 hr hk0
      go_wp2
      go_ret
      exact hpost
    · have hr : Hid (leftR left (cntT t) = -1) := by show leftR left (cntT t) = -1; rw [hc.out, leftR_no (by omega)]
      unfold LeftPost at hih
      rw [leftR_no h3] at hih
      clear ih
      go_enter Try.func4, Try.ntmps4
      go_wp2_with fail
      refine (hsz _).mono ?_
      rintro e w' ⟨rfl, rfl⟩
      go_wp2_with fail
      refine hih.mono ?_
      rintro e w1 ⟨rfl, hb1⟩
      have hpost : LeftPost left (cntT t) w (.returned (.int .i64 (-1))) w1 := ⟨by rw [hr.out], hb0.trans (hb1.mono hb0.size)⟩
      clear hsz hih hb0 hb1 hr hk0
      go_wp2
      go_ret
      exact hpost
  · have hr : Hid (leftR left (cntT t) = -1) := by show leftR left (cntT t) = -1; rw [hc.out, leftR_no (by omega)]
    have hsz := fun W => sz_no A pl c left W (by omega) h0 h1 (by omega)
    have hpost : LeftPost left (cntT t) w (.returned (.int .i64 (-1))) (w.alloc (.cells #[.int .i64 o, .int .i64 n, .slice A pl c, kv] 25)) := ⟨by rw [hr.out], hb0⟩
    clear ih hr hk0 hb0
    go_enter Try.func4, Try.ntmps4
    go_wp2_with fail
    refine (hsz _).mono ?_
    rintro e w' ⟨rfl, rfl⟩
    go_wp2
    go_ret
    exact hpost

theorem LeftPost.later {left : Int} {c : Nat} {w w1 w2 : World} {e : Ending} (h : LeftPost left c w1 e w2) (hb : Below w.heap.size w w1) : LeftPost left c w e w2 := ⟨h.1, hb.trans (h.2.mono hb.size)⟩

mutual
/-- .. anywhere within. -/
def Short : Tm → Prop
  | .mk _ _ p ks => p.length ≤ maxLen ∧ ks.length ≤ maxLen ∧ Shorts ks
def Shorts : List Tm → Prop
  | [] => True
  | t :: r => Short t ∧ Shorts r
end

theorem short_eq (t : Tm) : Short t ↔ t.perm.length ≤ maxLen ∧ t.kids.length ≤ maxLen ∧ Shorts t.kids := by cases t; simp [Short, Tm.perm, Tm.kids]
theorem shorts_at : ∀ {ts : List Tm} {i : Nat}, Shorts ts → i < ts.length → Short (tmAt ts i)
  | [], i, _, h => by simp at h
  | t :: r, 0, h, _ => h.1
  | t :: r, i + 1, h, hi => by rw [tmAt_cons_succ]; exact shorts_at h.2 (by simpa using hi)

set_option maxRecDepth 100000 in
set_option maxHeartbeats 2000000 in
theorem szTermS_step (ts : List Tm) (hsh : Shorts ts) (hlen : ts.length ≤ maxLen) (left : Int) (w : World) (x : Value) (h0 : 0 ≤ left) (h1 : left ≤ 1099511627776) (hx : TmsIn w x ts)
    (ih : ∀ i, i < ts.length → ∀ (left' : Int) (w' : World) (y : Value), 0 ≤ left' → left' ≤ 1099511627776 → TmsIn w' y (tmAt ts i).kids → Calls Try.prog 14 #[y, .int .i64 left'] w' (LeftPost left' ((tmAt ts i).kids.length + sumT (tmAt ts i).kids) w')) :
    Calls Try.prog 14 #[x, .int .i64 left] w (LeftPost left (ts.length + sumT ts) w) := by
  obtain ⟨A, c, rfl⟩ := hx.form
  unfold maxLen at hlen
  by_cases h2 : (ts.length : Int) ≤ left
  · have hl2 : ¬ left - (ts.length : Int) < 0 := by omega
    go_enter Try.func14, Try.ntmps14
    go_wp2
    go_loopw [1, 5] (fun l i wr => ∃ k : Nat, k ≤ ts.length ∧ i = .int .i64 k ∧ l = .int .i64 (left - ts.length - sumT (ts.take k)) ∧ (sumT (ts.take k) : Int) ≤ left - ts.length ∧ Below w.heap.size w wr) (fun _ i _ => ts.length - (intOf i).toNat)
    case atStart => exact ⟨0, Nat.zero_le _, rfl, by simp [sumT], by simp [sumT]; omega, Below.refl _ _⟩
    case round =>
      obtain ⟨k, hk, rfl, rfl, hle, hb⟩ := hrel
      by_cases hlt : k < ts.length
      · have hxr := hx.below hb
        obtain ⟨b, off, rfl, hbl, hget⟩ := hxr.get (by omega)
        obtain ⟨A1, c1, kv, d0, d1, d2, d3, hp1, hk1⟩ := hget k hlt
        have hct := szTerm_of (tmAt ts k) _ wr (left - ts.length - sumT (ts.take k)) (by omega) (by omega) ⟨A1, c1, kv, rfl, hp1, hk1⟩ ((short_eq _).1 (shorts_at hsh hlt)).1 (ih k hlt)
        have hnx := Lib.hid (sumT_next hlt)
        have hst := sumT_take ts (k + 1)
        generalize hc : cntT (tmAt ts k) = cc at hct hnx
        generalize hs : sumT (ts.take k) = s at hct hnx hle
        generalize (tmAt ts k).op = o at d0 hct
        generalize (tmAt ts k).num = n at d1 hct
        generalize (tmAt ts k).perm.length = pl at d2 hct
        clear hget hp1 hk1 hx hxr ih hc hs
        by_cases h3 : (cc : Int) ≤ left - ts.length - s
        · have hl3 : ¬ left - (ts.length : Int) - (s : Int) - (cc : Int) < 0 := by omega
          unfold LeftPost at hct
          rw [leftR_yes h3] at hct
          have hse : Hid (((sumT (ts.take (k + 1)) : Nat) : Int) = s + cc) := by show ((sumT (ts.take (k + 1)) : Nat) : Int) = s + cc; rw [hnx.out]; omega
          clear hst
          go_wp2_with fail
          refine hct.mono ?_
          rintro e w2 ⟨rfl, hb2⟩
          have hb3 := hb.trans (hb2.mono hb.size)
          clear hct hb2 d0 d1 d2 d3
          go_wp2
          refine ⟨⟨k + 1, by omega, by go_num, by rw [hse.out]; go_num, by rw [hse.out]; omega, hb3⟩, ?_⟩
          simp only [intOf]
          omega
        · unfold LeftPost at hct
          rw [leftR_no h3] at hct
          have hr : Hid (leftR left (ts.length + sumT ts) = -1) := by
            show leftR left (ts.length + sumT ts) = -1
            refine leftR_no ?_
            have := hnx.out
            omega
          clear hst
          go_wp2_with fail
          refine hct.mono ?_
          rintro e w2 ⟨rfl, hb2⟩
          have hpost : LeftPost left (ts.length + sumT ts) w (.returned (.int .i64 (-1))) w2 := ⟨by rw [hr.out], hb.trans (hb2.mono hb.size)⟩
          clear hct hb2 d0 d1 d2 d3 hr hb
          go_wp2
          go_ret
          exact hpost
      · have e : k = ts.length := by omega
        have hr : Hid (left - ts.length - sumT (ts.take k) = leftR left (ts.length + sumT ts)) := by
          show left - ts.length - sumT (ts.take k) = leftR left (ts.length + sumT ts)
          rw [List.take_of_length_le (by omega)] at hle ⊢
          rw [leftR_yes (by omega)]
          omega
        have hpost : LeftPost left (ts.length + sumT ts) w (.returned (.int .i64 (left - ts.length - sumT (ts.take k)))) wr := ⟨by rw [hr.out], hb⟩
        clear hx ih e hr hb
        go_wp2
        go_ret
        exact hpost
  · have hl2 : left - (ts.length : Int) < 0 := by omega
    have hpost : LeftPost left (ts.length + sumT ts) w (.returned (.int .i64 (-1))) w := ⟨by rw [leftR_no (by omega)], Below.refl _ _⟩
    clear ih hx
    go_enter Try.func14, Try.ntmps14
    go_wp2
    go_ret
    exact hpost

set_option maxRecDepth 100000 in
set_option maxHeartbeats 2000000 in
theorem szTermS_any : ∀ (N : Nat) (ts : List Tm), szTs ts ≤ N → Shorts ts → ts.length ≤ maxLen → ∀ (left : Int) (w : World) (x : Value), 0 ≤ left → left ≤ 1099511627776 → TmsIn w x ts →
    Calls Try.prog 14 #[x, .int .i64 left] w (LeftPost left (ts.length + sumT ts) w) := by
  intro N
  induction N with
  | zero =>
    intro ts hN hsh hlen left w x h0 h1 hx
    exact szTermS_step ts hsh hlen left w x h0 h1 hx fun i hi => absurd (szTs_kid hi) (by omega)
  | succ N ih =>
    intro ts hN hsh hlen left w x h0 h1 hx
    refine szTermS_step ts hsh hlen left w x h0 h1 hx fun i hi left' w' y g0 g1 hy => ?_
    have h2 := (short_eq _).1 (shorts_at hsh hi)
    exact ih _ (by have := szTs_kid hi; omega) h2.2.2 h2.2.1 left' w' y g0 g1 hy

end Go.Proofs.Ytnnebndcjjdhoaa
end

section
namespace Go.Proofs.Ytnnebndcjjdhoaa
open Go.RowKit Go.Sort

theorem Own.setCell_other {w : World} {S : List Nat} {v : Value} {m : Mem} (h : Own w S v m) (a : Addr) (u : Value) (hb : ∀ b ∈ S, b ≠ a.block) : Own (w.setCell a u) S v m :=
  h.alike fun b hb' => Below.heap_setCell w a u b (hb b hb')

theorem OwnL.setOther {w : World} {S : List Nat} {vs : List Value} {ms : List Mem} (h : OwnL w S vs ms) (a : Addr) (u : Value) (hb : ∀ b ∈ S, b ≠ a.block) : OwnL (w.setCell a u) S vs ms :=
  h.alike fun b hb' => Below.heap_setCell w a u b (hb b hb')

/-- A slice of terms of the call's own. -/
def TmsOut (ts : List Tm) (w : World) (e : Ending) (w' : World) : Prop :=
  ∃ v S, e = .returned v ∧ Own w' S v (tmsMem ts) ∧ (∀ b ∈ S, w.heap.size ≤ b) ∧ Below w.heap.size w w'

/-- A term whose slices are of the call's own. -/
def TmOut (t : Tm) (w : World) (e : Ending) (w' : World) : Prop :=
  ∃ A1 c1 A2 c2 S, e = .returned (.agg #[.int .i64 t.op, .int .i64 t.num, .slice A1 t.perm.length c1, .slice A2 t.kids.length c2]) ∧
    OwnL w' S [.int .i64 t.op, .int .i64 t.num, .slice A1 t.perm.length c1, .slice A2 t.kids.length c2] (encT t) ∧ (∀ b ∈ S, w.heap.size ≤ b) ∧ Below w.heap.size w w'

theorem ownL_term {w : World} {t : Tm} {pv kv : Value} {S T : List Nat} (h : Own w S pv (pairMem t.perm)) (k : Own w T kv (tmsMem t.kids)) (hd : ∀ b ∈ S, b ∉ T) : OwnL w (S ++ (T ++ [])) [.int .i64 t.op, .int .i64 t.num, pv, kv] (encT t) := by
  rw [encT_eq]
  exact .cons (S := []) (.cell _) (.cons (S := []) (.cell _) (.cons h (.cons k .nil (fun b _ => by simp)) (fun b hb ht => hd b hb (by simpa using ht))) (fun b hb => by simp at hb)) (fun b hb => by simp at hb)

set_option maxRecDepth 100000 in
set_option maxHeartbeats 2000000 in
theorem toTerm_of (t : Tm) (x : Value) (w : World) (hx : TmIn w x t) (hlen : t.perm.length ≤ 1099511627776)
    (ih : ∀ (w' : World) (y : Value), TmsIn w' y t.kids → Calls Try.prog 18 #[y] w' (TmsOut t.kids w')) :
    Calls Try.prog 6 #[x] w (TmOut t w) := by
  obtain ⟨A, c, kv, rfl, hp, hk⟩ := hx
  have hb0 : Below w.heap.size w (((w.alloc (.cells #[.int .i64 t.op, .int .i64 t.num, .slice A t.perm.length c, kv] 25)).alloc (.cells #[.int .i64 0, .int .i64 0, .slice none 0 0, .slice none 0 0] 32)).alloc (.cells #[.int .i64 t.op, .int .i64 t.num, .slice none 0 0, .slice none 0 0] 32)) :=
    (((Below.refl _ _).alloc (Nat.le_refl _) _).alloc (by simp) _).alloc (by simp; omega) _
  have hto := toPairS_any A c t.perm _ (hp.below hb0) hlen
  have hsz0 : (((w.alloc (.cells #[.int .i64 t.op, .int .i64 t.num, .slice A t.perm.length c, kv] 25)).alloc (.cells #[.int .i64 0, .int .i64 0, .slice none 0 0, .slice none 0 0] 32)).alloc (.cells #[.int .i64 t.op, .int .i64 t.num, .slice none 0 0, .slice none 0 0] 32)).heap.size = w.heap.size + 3 := by simp
  have hbox : (((w.alloc (.cells #[.int .i64 t.op, .int .i64 t.num, .slice A t.perm.length c, kv] 25)).alloc (.cells #[.int .i64 0, .int .i64 0, .slice none 0 0, .slice none 0 0] 32)).alloc (.cells #[.int .i64 t.op, .int .i64 t.num, .slice none 0 0, .slice none 0 0] 32)).heap[w.heap.size]? = some (.cells #[.int .i64 t.op, .int .i64 t.num, .slice A t.perm.length c, kv] 25 (0, 0)) :=
    (Below.heap_alloc _ _ _ (by simp; omega)).trans ((Below.heap_alloc _ _ _ (by simp)).trans (heap_alloc_new w _))
  have hres : (((w.alloc (.cells #[.int .i64 t.op, .int .i64 t.num, .slice A t.perm.length c, kv] 25)).alloc (.cells #[.int .i64 0, .int .i64 0, .slice none 0 0, .slice none 0 0] 32)).alloc (.cells #[.int .i64 t.op, .int .i64 t.num, .slice none 0 0, .slice none 0 0] 32)).heap[w.heap.size + 1]? = some (.cells #[.int .i64 0, .int .i64 0, .slice none 0 0, .slice none 0 0] 32 (0, 0)) := by
    have h9 := heap_alloc_new (w.alloc (.cells #[.int .i64 t.op, .int .i64 t.num, .slice A t.perm.length c, kv] 25)) (.cells #[.int .i64 0, .int .i64 0, .slice none 0 0, .slice none 0 0] 32)
    rw [World.size_alloc] at h9
    exact (Below.heap_alloc _ _ _ (by simp)).trans h9
  have hout : (((w.alloc (.cells #[.int .i64 t.op, .int .i64 t.num, .slice A t.perm.length c, kv] 25)).alloc (.cells #[.int .i64 0, .int .i64 0, .slice none 0 0, .slice none 0 0] 32)).alloc (.cells #[.int .i64 t.op, .int .i64 t.num, .slice none 0 0, .slice none 0 0] 32)).heap[w.heap.size + 1 + 1]? = some (.cells #[.int .i64 t.op, .int .i64 t.num, .slice none 0 0, .slice none 0 0] 32 (0, 0)) := by
    have h9 := heap_alloc_new ((w.alloc (.cells #[.int .i64 t.op, .int .i64 t.num, .slice A t.perm.length c, kv] 25)).alloc (.cells #[.int .i64 0, .int .i64 0, .slice none 0 0, .slice none 0 0] 32)) (.cells #[.int .i64 t.op, .int .i64 t.num, .slice none 0 0, .slice none 0 0] 32)
    rw [World.size_alloc, World.size_alloc] at h9
    exact h9
  have HS0 := Lib.hid hsz0
  have HB := Lib.hid hbox
  have HO := Lib.hid hout
  have HR := Lib.hid hres
  clear hsz0 hbox hout hres
  go_enter Try.func6, Try.ntmps6
  go_wp2_with fail
  refine hto.mono ?_
  rintro e w1 ⟨pv, rfl, ho1, hb1⟩
  obtain ⟨S1, hS1, hS1b, _⟩ := own_pairMem ho1
  obtain ⟨Ap, cp, rfl, _⟩ := own_pairsAt ho1
  have hbx := (hb1.block w.heap.size (by rw [HS0.out]; omega)).trans HB.out
  have hrx := (hb1.block (w.heap.size + 1) (by rw [HS0.out]; omega)).trans HR.out
  have hox := (hb1.block (w.heap.size + 1 + 1) (by rw [HS0.out]; omega)).trans HO.out
  have hs1 := hb1.size
  rw [HS0.out] at hs1 hS1b
  have ha3 : w1.cell? ⟨w.heap.size, 3, none⟩ = some kv := by rw [cell_of_row w1 w.heap.size 3 _ _ _ hbx]; rfl
  have ho2 : w1.cell? ⟨w.heap.size + 1 + 1, 2, none⟩ = some (.slice none 0 0) := by rw [cell_of_row w1 (w.heap.size + 1 + 1) 2 _ _ _ hox]; rfl
  have hf2 : w1.frozen? ⟨w.heap.size + 1 + 1, 2, none⟩ = false := frozen_of_row w1 (w.heap.size + 1 + 1) 2 _ _ hox
  have hw2 := heap_setCell_same w1 (w.heap.size + 1 + 1) 2 _ _ (.slice Ap t.perm.length cp) hox
  have hr2 : (w1.setCell ⟨w.heap.size + 1 + 1, 2, none⟩ (.slice Ap t.perm.length cp)).heap[w.heap.size + 1]? = _ := (Below.heap_setCell w1 ⟨w.heap.size + 1 + 1, 2, none⟩ (.slice Ap t.perm.length cp) (w.heap.size + 1) (by simp)).trans hrx
  have hbw : Below w.heap.size w (w1.setCell ⟨w.heap.size + 1 + 1, 2, none⟩ (.slice Ap t.perm.length cp)) := (hb0.trans (hb1.mono hb0.size)).setCell (by simp; omega) _
  have hS2 := hS1.setCell_other ⟨w.heap.size + 1 + 1, 2, none⟩ (.slice Ap t.perm.length cp) (fun b hb => by have := hS1b b hb; show b ≠ w.heap.size + 1 + 1; omega)
  have hih := ih (w1.setCell ⟨w.heap.size + 1 + 1, 2, none⟩ (.slice Ap t.perm.length cp)) kv (hk.below hbw)
  have hs2 : (w1.setCell ⟨w.heap.size + 1 + 1, 2, none⟩ (.slice Ap t.perm.length cp)).heap.size = w1.heap.size := by simp
  have HS2 := Lib.hid hs2
  have HW := Lib.hid hw2
  have HR2 := Lib.hid hr2
  clear hto hb0 hb1 ho1 hbx hox hrx hS1 HB HO HR HS0 hp hk ih hs2 hw2 hr2
  go_wp2_with fail
  refine hih.mono ?_
  rintro e w3 ⟨kv', S3, rfl, hS3, hS3b, hb3⟩
  obtain ⟨Ak, ck, rfl⟩ := TmsIn.form (ts := t.kids) hS3.at_
  rw [HS2.out] at hS3b
  have hbx := (hb3.block (w.heap.size + 1 + 1) (by rw [HS2.out]; omega)).trans HW.out
  have hrx := (hb3.block (w.heap.size + 1) (by rw [HS2.out]; omega)).trans HR2.out
  have hs3 := hb3.size
  rw [HS2.out] at hs3
  have hS4 := (hS2.keep hb3).setCell_other ⟨w.heap.size + 1 + 1, 3, none⟩ (.slice Ak t.kids.length ck) (fun b hb => by have := hS1b b hb; show b ≠ w.heap.size + 1 + 1; omega)
  have hS5 := hS3.setCell_other ⟨w.heap.size + 1 + 1, 3, none⟩ (.slice Ak t.kids.length ck) (fun b hb => by have := hS3b b hb; show b ≠ w.heap.size + 1 + 1; omega)
  have hd : ∀ b ∈ S1, b ∉ S3 := fun b h1 h3 => by
    have h4 := hS3b b h3
    have h5 := hS2.lt b h1
    rw [HS2.out] at h5
    omega
  have hbz : Below w.heap.size w (w3.setCell ⟨w.heap.size + 1 + 1, 3, none⟩ (.slice Ak t.kids.length ck)) := (hbw.trans (hb3.mono hbw.size)).setCell (by simp; omega) _
  have hL := ownL_term (t := t) hS4 hS5 hd
  have hLb : ∀ b ∈ S1 ++ (S3 ++ []), w.heap.size + 2 < b := fun b hb => by
      rw [List.append_nil] at hb
      rcases List.mem_append.1 hb with h | h
      · have := hS1b b h; omega
      · have := hS3b b h; omega
  have hne : ∀ b ∈ S1 ++ (S3 ++ []), b ≠ w.heap.size + 1 := fun b hb => by have := hLb b hb; omega
  have hpost : TmOut t w (.returned (.agg #[.int .i64 t.op, .int .i64 t.num, .slice Ap t.perm.length cp, .slice Ak t.kids.length ck])) ((((w3.setCell ⟨w.heap.size + 1 + 1, 3, none⟩ (.slice Ak t.kids.length ck)).setCell ⟨w.heap.size + 1, 0, none⟩ (.int .i64 t.op)).setCell ⟨w.heap.size + 1, 1, none⟩ (.int .i64 t.num)).setCell ⟨w.heap.size + 1, 2, none⟩ (.slice Ap t.perm.length cp) |>.setCell ⟨w.heap.size + 1, 3, none⟩ (.slice Ak t.kids.length ck)) :=
    ⟨Ap, cp, Ak, ck, _, rfl, (((hL.setOther ⟨w.heap.size + 1, 0, none⟩ (.int .i64 t.op) hne).setOther ⟨w.heap.size + 1, 1, none⟩ (.int .i64 t.num) hne).setOther ⟨w.heap.size + 1, 2, none⟩ (.slice Ap t.perm.length cp) hne).setOther ⟨w.heap.size + 1, 3, none⟩ (.slice Ak t.kids.length ck) hne,
     fun b hb => by have := hLb b hb; omega, (((hbz.setCell (by simp) _).setCell (by simp) _).setCell (by simp) _).setCell (by simp) _⟩
  have hc0 : w3.cell? ⟨w.heap.size + 1 + 1, 0, none⟩ = some (.int .i64 t.op) := by rw [cell_of_row w3 (w.heap.size + 1 + 1) 0 _ _ _ hbx]; rfl
  have hc1 : w3.cell? ⟨w.heap.size + 1 + 1, 1, none⟩ = some (.int .i64 t.num) := by rw [cell_of_row w3 (w.heap.size + 1 + 1) 1 _ _ _ hbx]; rfl
  have hc2 : w3.cell? ⟨w.heap.size + 1 + 1, 2, none⟩ = some (.slice Ap t.perm.length cp) := by rw [cell_of_row w3 (w.heap.size + 1 + 1) 2 _ _ _ hbx]; rfl
  have hc3 : w3.cell? ⟨w.heap.size + 1 + 1, 3, none⟩ = some (.slice none 0 0) := by rw [cell_of_row w3 (w.heap.size + 1 + 1) 3 _ _ _ hbx]; rfl
  have hf3 : w3.frozen? ⟨w.heap.size + 1 + 1, 3, none⟩ = false := frozen_of_row w3 (w.heap.size + 1 + 1) 3 _ _ hbx
  have hr0 : w3.cell? ⟨w.heap.size + 1, 0, none⟩ = some (.int .i64 0) := by rw [cell_of_row w3 (w.heap.size + 1) 0 _ _ _ hrx]; rfl
  have hr1 : w3.cell? ⟨w.heap.size + 1, 1, none⟩ = some (.int .i64 0) := by rw [cell_of_row w3 (w.heap.size + 1) 1 _ _ _ hrx]; rfl
  have hr2 : w3.cell? ⟨w.heap.size + 1, 2, none⟩ = some (.slice none 0 0) := by rw [cell_of_row w3 (w.heap.size + 1) 2 _ _ _ hrx]; rfl
  have hr3 : w3.cell? ⟨w.heap.size + 1, 3, none⟩ = some (.slice none 0 0) := by rw [cell_of_row w3 (w.heap.size + 1) 3 _ _ _ hrx]; rfl
  have hz0 : w3.frozen? ⟨w.heap.size + 1, 0, none⟩ = false := frozen_of_row w3 (w.heap.size + 1) 0 _ _ hrx
  have hz1 : w3.frozen? ⟨w.heap.size + 1, 1, none⟩ = false := frozen_of_row w3 (w.heap.size + 1) 1 _ _ hrx
  have hz2 : w3.frozen? ⟨w.heap.size + 1, 2, none⟩ = false := frozen_of_row w3 (w.heap.size + 1) 2 _ _ hrx
  have hz3 : w3.frozen? ⟨w.heap.size + 1, 3, none⟩ = false := frozen_of_row w3 (w.heap.size + 1) 3 _ _ hrx
  clear hih hbw hS2 hS3 hS4 hS5 hd hbz hb3 HW HR2 HS2 hbx hrx ha3 ho2 hf2 hS1b hS3b hL hLb hne
  go_wp2
  exact bodyPost_ret (v := .agg #[.int .i64 t.op, .int .i64 t.num, .slice Ap t.perm.length cp, .slice Ak t.kids.length ck]) (by simp [results, Try.results6, go_sem, hr0, hr1, hr2, hr3]) rfl hpost

/-- A copy reads as the term. -/
theorem tmOut_in {w : World} {S : List Nat} {t : Tm} {A : Option Addr} {c : Nat} {kv : Value} (h : OwnL w S [.int .i64 t.op, .int .i64 t.num, .slice A t.perm.length c, kv] (encT t)) :
    TmIn w (.agg #[.int .i64 t.op, .int .i64 t.num, .slice A t.perm.length c, kv]) t := by
  have h1 := h.at_
  rw [encT_eq] at h1
  cases h1 with
  | cons _ h1 => cases h1 with
    | cons _ h1 => cases h1 with
      | cons h2 h1 => cases h1 with
        | cons h3 _ =>
          obtain ⟨A', c', e, hp⟩ := at_pairs h2
          simp only [Value.slice.injEq] at e
          obtain ⟨rfl, _, rfl⟩ := e
          exact ⟨A, c, kv, rfl, hp, h3⟩

theorem term_info : (Try.prog.info? 32).map (fun i => (i.zero, i.size, i.bytes)) = some (some (.agg #[.int .i64 0, .int .i64 0, .slice none 0 0, .slice none 0 0]), 4, 64) := by kernel_rfl

theorem take_set4 {xs : List Value} {j : Nat} {a b c d : Value} (h : j + 4 ≤ xs.length) : ((((xs.set j a).set (j + 1) b).set (j + 2) c).set (j + 3) d).take (j + 4) = xs.take j ++ [a, b, c, d] := by
  apply List.ext_getElem?
  intro i
  rw [List.getElem?_take]
  by_cases hi : i < j + 4
  · rw [if_pos hi]
    by_cases h1 : i < j
    · rw [List.getElem?_append_left (by rw [List.length_take]; omega), List.getElem?_take, if_pos h1]
      simp [show ¬ j + 3 = i by omega, show ¬ j + 2 = i by omega, show ¬ j + 1 = i by omega, show ¬ j = i by omega]
    · rw [List.getElem?_append_right (by rw [List.length_take]; omega), List.length_take, show min j xs.length = j by omega]
      have hc : i = j ∨ i = j + 1 ∨ i = j + 2 ∨ i = j + 3 := by omega
      rcases hc with rfl | rfl | rfl | rfl
      · simp [show i < xs.length by omega]
      · simp [show j + 1 < xs.length by omega, show j + 1 - j = 1 by omega]
      · simp [show j + 2 < xs.length by omega, show j + 2 - j = 2 by omega]
      · simp [show j + 3 < xs.length by omega, show j + 3 - j = 3 by omega]
  · rw [if_neg hi, List.getElem?_eq_none (by rw [List.length_append, List.length_take]; simp; omega)]

theorem OwnL.kept {w w' : World} {S : List Nat} {vs : List Value} {ms : List Mem} {row : Option Nat} (h : OwnL w S vs ms) (hg : w.grownBy w' row) (hn : ∀ b ∈ S, some b ≠ row) : OwnL w' S vs ms :=
  h.alike fun b hb => hg.block b (h.lt b hb) (hn b hb)

set_option maxRecDepth 100000 in
set_option maxHeartbeats 4000000 in
theorem toTermS_step (ts : List Tm) (hlen : ts.length ≤ 1048576) (w : World) (x : Value) (hx : TmsIn w x ts)
    (ih : ∀ i, i < ts.length → ∀ (w' : World) (y : Value), TmIn w' y (tmAt ts i) → Calls Try.prog 6 #[y] w' (TmOut (tmAt ts i) w')) :
    Calls Try.prog 18 #[x] w (TmsOut ts w) := by
  obtain ⟨A, c, rfl⟩ := hx.form
  obtain ⟨i0, hi0, hz0, hz1, hz2⟩ := info_parts term_info
  have HS := Lib.hid hz2
  clear hz2
  go_enter Try.func18, Try.ntmps18
  go_wp2_with (at_make; refine wpList_make_full _ rfl (.tmp 6) (.tmp 6) 30 rfl w.heap.size 32 i0 _ 4 Try.underlying30 hi0 hz0 hz1 .i64 .i64 _ _ ts.length rfl rfl rfl rfl ?c1 ?c2 (Nat.le_refl _) ?_)
  case c1 => rw [HS.out]; omega
  case c2 => unfold maxLen; omega
  intro w1 ho hg
  have hb0 := (Below.refl w.heap.size w).grown hg (Nat.le_refl _) (fun k hk => by cases hk)
  clear hg
  generalize hz : (madeCells #[Value.int IntKind.i64 0, Value.int IntKind.i64 0, Value.slice none 0 0, Value.slice none 0 0] (ts.length * 4)).toList = zs at ho
  clear hz
  have hlt0 : w.heap.size < w1.heap.size := (ho.lt w.heap.size rfl).2
  go_wp2
  go_loopw [4] (fun i wr => ∃ (k : Nat) (S : List Nat) (xs : List Value), k ≤ ts.length ∧ i = .int .i64 k ∧ wr.ownsRow w.heap.size 32 4 (.slice (some ⟨w.heap.size, 0, none⟩) ts.length ts.length) ts.length xs ∧ OwnL wr S (xs.take (k * 4)) (encTs (ts.take k)) ∧ (∀ b ∈ S, w.heap.size < b) ∧ Below w.heap.size w wr) (fun i _ => ts.length - (intOf i).toNat)
  case atStart => exact ⟨0, [], zs, Nat.zero_le _, rfl, ho, by simp [encTs]; exact .nil, fun b hb => by simp at hb, hb0⟩
  case round =>
    clear ho hb0
    obtain ⟨k, S, xs, hk, rfl, ho, hL, hSb, hb⟩ := hrel
    have hwr : w.heap.size < wr.heap.size := (ho.lt w.heap.size rfl).2
    by_cases hlt : k < ts.length
    · have hxr := hx.below hb
      obtain ⟨b, off, rfl, hbl, hget⟩ := hxr.get (by omega)
      obtain ⟨A1, c1, kv, d0, d1, d2, d3, hp1, hk1⟩ := hget k hlt
      have hct := ih k hlt wr _ ⟨A1, c1, kv, rfl, hp1, hk1⟩
      have hnx := Lib.hid (congrArg encTs (tm_take_next hlt))
      generalize tmAt ts k = t at hct hnx d0 d1 d2 d3
      clear hget hp1 hk1 hx hxr ih hbl
      go_wp2_with fail
      refine hct.mono ?_
      rintro e w2 ⟨P1, q1c, P2, q2c, R, rfl, hR, hRb, hb2⟩
      have ho2 := own_below ho hb2
      have hL2 := hL.alike (w' := w2) fun b hb' => hb2.block b (hL.lt b hb')
      have hb3 := hb.trans (hb2.mono hb.size)
      have hxl := ho2.1
      obtain ⟨v0, e0⟩ := some_of_lt xs (k * 4) (by omega)
      obtain ⟨v1, e1⟩ := some_of_lt xs (k * 4 + 1) (by omega)
      obtain ⟨v2, e2⟩ := some_of_lt xs (k * 4 + 2) (by omega)
      obtain ⟨v3, e3⟩ := some_of_lt xs (k * 4 + 3) (by omega)
      have g0 := (ho2.cellAt (k * 4) (by omega)).trans e0
      have g1 := (ho2.cellAt (k * 4 + 1) (by omega)).trans e1
      have g2 := (ho2.cellAt (k * 4 + 2) (by omega)).trans e2
      have g3 := (ho2.cellAt (k * 4 + 3) (by omega)).trans e3
      have f0 := ho2.frozenAt (k * 4)
      have f1 := ho2.frozenAt (k * 4 + 1)
      have f2 := ho2.frozenAt (k * 4 + 2)
      have f3 := ho2.frozenAt (k * 4 + 3)
      obtain ⟨o1, q1⟩ := ho2.stored (k * 4) (.int .i64 t.op)
      obtain ⟨o2, q2⟩ := o1.stored (k * 4 + 1) (.int .i64 t.num)
      obtain ⟨o3, q3⟩ := o2.stored (k * 4 + 2) (.slice P1 t.perm.length q1c)
      obtain ⟨o4, q4⟩ := o3.stored (k * 4 + 3) (.slice P2 t.kids.length q2c)
      have hq := grownBy_trans q1 (grownBy_trans q2 (grownBy_trans q3 q4))
      have hL3 := hL2.kept hq (fun b hb' => by have := hSb b hb'; intro e; injection e with e; omega)
      have hR3 := hR.kept hq (fun b hb' => by have := hRb b hb'; intro e; injection e with e; omega)
      have hdis : ∀ b ∈ S, b ∉ R := fun b h1 h2 => by have h3 := hL.lt b h1; have h4 := hRb b h2; omega
      have hL4 := hL3.append hR3 hdis
      have hb5 := hb3.grown hq hb3.size (fun j hj => by injection hj with hj; omega)
      have htk : Hid (((((xs.set (k * 4) (.int .i64 t.op)).set (k * 4 + 1) (.int .i64 t.num)).set (k * 4 + 2) (.slice P1 t.perm.length q1c)).set (k * 4 + 3) (.slice P2 t.kids.length q2c)).take ((k + 1) * 4) = xs.take (k * 4) ++ [.int .i64 t.op, .int .i64 t.num, .slice P1 t.perm.length q1c, .slice P2 t.kids.length q2c]) := by
        show ((((xs.set (k * 4) (.int .i64 t.op)).set (k * 4 + 1) (.int .i64 t.num)).set (k * 4 + 2) (.slice P1 t.perm.length q1c)).set (k * 4 + 3) (.slice P2 t.kids.length q2c)).take ((k + 1) * 4) = xs.take (k * 4) ++ [.int .i64 t.op, .int .i64 t.num, .slice P1 t.perm.length q1c, .slice P2 t.kids.length q2c]
        rw [show (k + 1) * 4 = k * 4 + 4 by omega]
        exact take_set4 (by omega)
      have hL5 := hL4
      rw [← htk.out, ← (show encTs [t] = encT t by simp [encTs]), ← encTs_append, ← hnx.out] at hL5
      have hSR : ∀ b ∈ S ++ R, w.heap.size < b := fun b hb' => by
        rcases List.mem_append.1 hb' with h | h
        · exact hSb b h
        · have := hRb b h; omega
      clear ho ho2 hL hL2 hL3 hL4 hR hR3 hb hb2 hb3 q1 q2 q3 q4 hq o1 o2 o3 e0 e1 e2 e3 hxl hct hnx htk hdis hSb hRb d0 d1 d2 d3
      go_wp2
      refine ⟨⟨k + 1, S ++ R, _, by omega, by go_num, o4, hL5, hSR, hb5⟩, ?_⟩
      simp only [intOf]
      omega
    · have e : k = ts.length := by omega
      subst e
      have hl := ho.1
      rw [List.take_of_length_le (by omega), List.take_of_length_le (Nat.le_refl _)] at hL
      have hpost : TmsOut ts w (.returned (.slice (some ⟨w.heap.size, 0, none⟩) ts.length ts.length)) wr :=
        ⟨_, w.heap.size :: S, rfl, .row (encTs_len ts) (own_le ho (Nat.zero_le _)) hL (fun h => by have := hSb _ h; omega), fun b hb' => by
          rcases List.mem_cons.1 hb' with h | h
          · omega
          · have := hSb b h; omega, hb⟩
      clear ho hL hSb hb hx ih hl
      go_wp2
      go_ret
      exact hpost

theorem toTermS_any : ∀ (N : Nat) (ts : List Tm), szTs ts ≤ N → Fits ts → ts.length ≤ 1048576 → ∀ (w : World) (x : Value), TmsIn w x ts → Calls Try.prog 18 #[x] w (TmsOut ts w) := by
  intro N
  induction N with
  | zero =>
    intro ts hN hf hlen w x hx
    exact toTermS_step ts hlen w x hx fun i hi => absurd (szTs_kid hi) (by omega)
  | succ N ih =>
    intro ts hN hf hlen w x hx
    refine toTermS_step ts hlen w x hx fun i hi w' y hy => ?_
    have h2 := (fit_eq _).1 (fits_at hf hi)
    exact toTerm_of _ y w' hy (by omega) fun w'' z hz => ih _ (by have := szTs_kid hi; omega) h2.2.2 h2.2.1 w'' z hz

theorem toTerm_any (t : Tm) (hf : Fit t) (w : World) (x : Value) (hx : TmIn w x t) : Calls Try.prog 6 #[x] w (TmOut t w) := by
  have h2 := (fit_eq _).1 hf
  exact toTerm_of t x w hx (by omega) fun w' y hy => toTermS_any _ _ (Nat.le_refl _) h2.2.2 h2.2.1 w' y hy

end Go.Proofs.Ytnnebndcjjdhoaa
end

section
namespace Go.Proofs.Ytnnebndcjjdhoaa
open Go.RowKit

/-- The two slices of a term. -/
theorem ownL_parts {w : World} {S : List Nat} {a b pv kv : Value} {t : Tm} (h : OwnL w S [a, b, pv, kv] (encT t)) :
    ∃ P K, (∀ x, x ∈ S ↔ x ∈ P ∨ x ∈ K) ∧ (∀ x ∈ P, x ∉ K) ∧ Own w P pv (pairMem t.perm) ∧ Own w K kv (tmsMem t.kids) := by
  rw [encT_eq] at h
  cases h with
  | cons h0 k0 hd0 =>
    cases k0 with
    | cons h1 k1 hd1 =>
      cases k1 with
      | cons h2 k2 hd2 =>
        cases k2 with
        | cons h3 k3 hd3 =>
          cases k3
          cases h0
          cases h1
          exact ⟨_, _, fun x => by simp, fun x hx hk => hd2 x hx (by simpa using hk), h2, h3⟩

mutual
theorem mcT_le : ∀ t : Tm, mcT t ≤ 2 + 2 * cntT t
  | .mk o n p ks => by
    have := mcTs_le ks
    rw [mcT, cntT]; omega
theorem mcTs_le : ∀ ts : List Tm, mcTs ts ≤ 2 * (ts.length + sumT ts)
  | [] => by simp [mcTs]
  | t :: r => by
    have h1 := mcT_le t
    have h2 := mcTs_le r
    rw [mcTs, sumT, List.length_cons]; omega
end

set_option maxRecDepth 100000 in
set_option maxHeartbeats 2000000 in
theorem markTerm_any (t : Tm) (hf : Fit t) (S : List Nat) (A B : Option Addr) (c d : Nat) (k : Int) (w : World) (hk0 : 0 ≤ k) (hk1 : k + t.perm.length * 2 + mcTs t.kids ≤ 9007199254740992)
    (h : OwnL w S [.int .i64 t.op, .int .i64 t.num, .slice A t.perm.length c, .slice B t.kids.length d] (encT t)) :
    Calls Try.prog 10 #[.agg #[.int .i64 t.op, .int .i64 t.num, .slice A t.perm.length c, .slice B t.kids.length d], .int .i64 k] w
      fun e w' => e = .returned (.int .i64 (k + t.perm.length * 2 + mcTs t.kids)) ∧ Only S w w' := by
  have h2 := (fit_eq _).1 hf
  obtain ⟨P, K, hS, hd, hP, hK⟩ := ownL_parts h
  have hbx : Below w.heap.size w (w.alloc (.cells #[.int .i64 t.op, .int .i64 t.num, .slice A t.perm.length c, .slice B t.kids.length d] 32)) := (Below.refl _ _).alloc (Nat.le_refl _) _
  have hP1 := hP.keep hbx
  have hK1 := hK.keep hbx
  obtain ⟨how, hPe⟩ := pairMem_own hP1
  have hmp := markPairS_own 0 t.perm.length (.slice A t.perm.length c) _ k _ how (by omega) (by omega)
  have hlt := fun (b : Nat) hb => hP.lt b hb
  clear h hP hK hP1 how
  go_enter Try.func10, Try.ntmps10
  go_wp2_with fail
  (with_reducible refine hmp.mono ?_)
  rintro e w1 ⟨rfl, _, hg1⟩
  have hon1 : Only P (w.alloc (.cells #[.int .i64 t.op, .int .i64 t.num, .slice A t.perm.length c, .slice B t.kids.length d] 32)) w1 := Only.of_grown hg1 (fun b e => by rw [hPe, e]; simp)
  have hK2 := hK1.alike (w' := w1) (fun b hb => hon1.block b (hK1.lt b hb) (fun hp => hd b hp hb))
  have b3 : w1.cell? ⟨w.heap.size, 3, none⟩ = some (.slice B t.kids.length d) := by
    have h9 := (hon1.block w.heap.size (by simp) (fun hp => by have := hlt _ hp; omega)).trans (heap_alloc_new w _)
    rw [cell_of_row w1 w.heap.size _ _ _ _ h9]; rfl
  have hon2 : Only S w w1 := (only_of_below hbx).trans (hon1.wide fun b hb => (hS b).2 (.inl hb))
  have hmk := markTermS_any _ t.kids (Nat.le_refl _) h2.2.2 h2.2.1 K _ (k + t.perm.length * 2) w1 (by omega) hk1 hK2
  clear hmp hg1 hon1 hK1 hK2 hPe hbx
  go_wp2_with fail
  (with_reducible refine hmk.mono ?_)
  rintro e w2 ⟨rfl, _, hon3⟩
  have hon4 := hon2.trans (hon3.wide fun b hb => (hS b).2 (.inr hb))
  clear hmk hon2 hon3 b3
  go_wp2
  go_ret
  exact ⟨rfl, hon4⟩

end Go.Proofs.Ytnnebndcjjdhoaa
end

