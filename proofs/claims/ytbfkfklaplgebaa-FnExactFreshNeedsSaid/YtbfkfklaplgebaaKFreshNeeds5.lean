/-
  The size of a term that the laws count, as contracts. The laws' own copy of a term, as contracts. The comparison of two pairs and of two lists of pairs, as contracts. Comparing numbers, atoms, and finding a pair by its first atom, as contracts. Whether moves are in order, as a contract. Whether a list of pairs is a permutation, as the program decides it: a contract. Whether a list of pairs is a permutation, as the model decides it: a contract; and that both decide alike.
-/
import Derived.Test.YtbfkfklaplgebaaKFreshNeeds3
import Derived.Test.YtbfkfklaplgebaaKFreshNeeds4
import Derived.BigQuiet
import Derived.Lib.QuietBelow
import Derived.WalkLawsBesides
import Derived.WalkSpells
import Derived.Lib.Hide
section
namespace Go.Proofs.Ytbfkfklaplgebaa
open Go.RowKit Go.Sort

/-- What is left of a bound. -/
def leftR (left : Int) (c : Nat) : Int := if (c : Int) ≤ left then left - c else -1

theorem leftR_yes {left : Int} {c : Nat} (h : (c : Int) ≤ left) : leftR left c = left - c := by simp [leftR, h]
theorem leftR_no {left : Int} {c : Nat} (h : ¬ (c : Int) ≤ left) : leftR left c = -1 := by simp [leftR, h]

/-- The answer, and new blocks at most. -/
def LeftPost (left : Int) (c : Nat) (w : World) (e : Ending) (w' : World) : Prop := e = .returned (.int .i64 (leftR left c)) ∧ Below w.heap.size w w'

set_option maxRecDepth 100000 in
set_option maxHeartbeats 1000000 in
theorem szTerm_of (t : Tm) (x : Value) (w : World) (left : Int) (h0 : 0 ≤ left) (h1 : left ≤ 1099511627776) (hx : TmIn w x t) (hlen : t.perm.length ≤ maxLen)
    (ih : ∀ (left' : Int) (w' : World) (y : Value), 0 ≤ left' → left' ≤ 1099511627776 → TmsIn w' y t.kids → Calls Try.prog 30 #[y, .int .i64 left'] w' (LeftPost left' (t.kids.length + sumT t.kids) w')) :
    Calls Try.prog 8 #[x, .int .i64 left] w (LeftPost left (cntT t) w) := by
  obtain ⟨A, c, kv, rfl, hp, hk⟩ := hx
  have hc := Lib.hid (cntT_eq t)
  unfold maxLen at hlen
  generalize t.op = o
  generalize t.num = n
  generalize t.perm.length = pl at hc hlen ⊢
  generalize t.kids.length + sumT t.kids = kc at hc ih
  have hb0 : Below w.heap.size w (w.alloc (.cells #[.int .i64 o, .int .i64 n, .slice A pl c, kv] 25)) := (Below.refl _ _).alloc (Nat.le_refl _) _
  have hk0 := hk.below hb0
  clear hp hk
  by_cases h2 : (pl : Int) ≤ left
  · have hleft : ¬ left - (pl : Int) < 0 := by omega
    have hsz := fun W => sz_yes A pl c left W (by omega) h1 h2
    have hih := ih (left - pl) _ kv (by omega) (by omega) hk0
    by_cases h3 : (kc : Int) ≤ left - pl
    · have hr : Hid (leftR left (cntT t) = left - pl - kc) := by show leftR left (cntT t) = left - pl - kc; rw [hc.out, leftR_yes (by omega)]; omega
      have hl3 : ¬ left - (pl : Int) - (kc : Int) < 0 := by omega
      unfold LeftPost at hih
      rw [leftR_yes h3] at hih
      clear ih
      go_enter Try.func8, Try.ntmps8
      go_wp2_with fail
      refine (hsz _).mono ?_
      rintro e w' ⟨rfl, rfl⟩
      go_wp2_with fail
      refine hih.mono ?_
      rintro e w1 ⟨rfl, hb1⟩
      have hpost : LeftPost left (cntT t) w (.returned (.int .i64 (left - pl - kc))) w1 := ⟨by rw [hr.out], hb0.trans (hb1.mono hb0.size)⟩
      clear hsz hih hb0 hb1 hr hk0
      go_wp2
      go_ret
      exact hpost
    · have hr : Hid (leftR left (cntT t) = -1) := by show leftR left (cntT t) = -1; rw [hc.out, leftR_no (by omega)]
      unfold LeftPost at hih
      rw [leftR_no h3] at hih
      clear ih
      go_enter Try.func8, Try.ntmps8
      go_wp2_with fail
      refine (hsz _).mono ?_
      rintro e w' ⟨rfl, rfl⟩
      go_wp2_with fail
      refine hih.mono ?_
      rintro e w1 ⟨rfl, hb1⟩
      have hpost : LeftPost left (cntT t) w (.returned (.int .i64 (-1))) w1 := ⟨by rw [hr.out], hb0.trans (hb1.mono hb0.size)⟩
      clear hsz hih hb0 hb1 hr hk0
      go_wp2
      go_ret
      exact hpost
  · have hr : Hid (leftR left (cntT t) = -1) := by show leftR left (cntT t) = -1; rw [hc.out, leftR_no (by omega)]
    have hsz := fun W => sz_no A pl c left W (by omega) h0 h1 (by omega)
    have hpost : LeftPost left (cntT t) w (.returned (.int .i64 (-1))) (w.alloc (.cells #[.int .i64 o, .int .i64 n, .slice A pl c, kv] 25)) := ⟨by rw [hr.out], hb0⟩
    clear ih hr hk0 hb0
    go_enter Try.func8, Try.ntmps8
    go_wp2_with fail
    refine (hsz _).mono ?_
    rintro e w' ⟨rfl, rfl⟩
    go_wp2
    go_ret
    exact hpost

theorem LeftPost.later {left : Int} {c : Nat} {w w1 w2 : World} {e : Ending} (h : LeftPost left c w1 e w2) (hb : Below w.heap.size w w1) : LeftPost left c w e w2 := ⟨h.1, hb.trans (h.2.mono hb.size)⟩

mutual
/-- .. anywhere within. -/
def Short : Tm → Prop
  | .mk _ _ p ks => p.length ≤ maxLen ∧ ks.length ≤ maxLen ∧ Shorts ks
def Shorts : List Tm → Prop
  | [] => True
  | t :: r => Short t ∧ Shorts r
end

theorem short_eq (t : Tm) : Short t ↔ t.perm.length ≤ maxLen ∧ t.kids.length ≤ maxLen ∧ Shorts t.kids := by cases t; simp [Short, Tm.perm, Tm.kids]
theorem shorts_at : ∀ {ts : List Tm} {i : Nat}, Shorts ts → i < ts.length → Short (tmAt ts i)
  | [], i, _, h => by simp at h
  | t :: r, 0, h, _ => h.1
  | t :: r, i + 1, h, hi => by rw [tmAt_cons_succ]; exact shorts_at h.2 (by simpa using hi)

set_option maxRecDepth 100000 in
set_option maxHeartbeats 2000000 in
theorem szTermS_step (ts : List Tm) (hsh : Shorts ts) (hlen : ts.length ≤ maxLen) (left : Int) (w : World) (x : Value) (h0 : 0 ≤ left) (h1 : left ≤ 1099511627776) (hx : TmsIn w x ts)
    (ih : ∀ i, i < ts.length → ∀ (left' : Int) (w' : World) (y : Value), 0 ≤ left' → left' ≤ 1099511627776 → TmsIn w' y (tmAt ts i).kids → Calls Try.prog 30 #[y, .int .i64 left'] w' (LeftPost left' ((tmAt ts i).kids.length + sumT (tmAt ts i).kids) w')) :
    Calls Try.prog 30 #[x, .int .i64 left] w (LeftPost left (ts.length + sumT ts) w) := by
  obtain ⟨A, c, rfl⟩ := hx.form
  unfold maxLen at hlen
  by_cases h2 : (ts.length : Int) ≤ left
  · have hl2 : ¬ left - (ts.length : Int) < 0 := by omega
    go_enter Try.func30, Try.ntmps30
    go_wp2
    go_loopw [1, 5] (fun l i wr => ∃ k : Nat, k ≤ ts.length ∧ i = .int .i64 k ∧ l = .int .i64 (left - ts.length - sumT (ts.take k)) ∧ (sumT (ts.take k) : Int) ≤ left - ts.length ∧ Below w.heap.size w wr) (fun _ i _ => ts.length - (intOf i).toNat)
    case atStart => exact ⟨0, Nat.zero_le _, rfl, by simp [sumT], by simp [sumT]; omega, Below.refl _ _⟩
    case round =>
      obtain ⟨k, hk, rfl, rfl, hle, hb⟩ := hrel
      by_cases hlt : k < ts.length
      · have hxr := hx.below hb
        obtain ⟨b, off, rfl, hbl, hget⟩ := hxr.get (by omega)
        obtain ⟨A1, c1, kv, d0, d1, d2, d3, hp1, hk1⟩ := hget k hlt
        have hct := szTerm_of (tmAt ts k) _ wr (left - ts.length - sumT (ts.take k)) (by omega) (by omega) ⟨A1, c1, kv, rfl, hp1, hk1⟩ ((short_eq _).1 (shorts_at hsh hlt)).1 (ih k hlt)
        have hnx := Lib.hid (sumT_next hlt)
        have hst := sumT_take ts (k + 1)
        generalize hc : cntT (tmAt ts k) = cc at hct hnx
        generalize hs : sumT (ts.take k) = s at hct hnx hle
        generalize (tmAt ts k).op = o at d0 hct
        generalize (tmAt ts k).num = n at d1 hct
        generalize (tmAt ts k).perm.length = pl at d2 hct
        clear hget hp1 hk1 hx hxr ih hc hs
        by_cases h3 : (cc : Int) ≤ left - ts.length - s
        · have hl3 : ¬ left - (ts.length : Int) - (s : Int) - (cc : Int) < 0 := by omega
          unfold LeftPost at hct
          rw [leftR_yes h3] at hct
          have hse : Hid (((sumT (ts.take (k + 1)) : Nat) : Int) = s + cc) := by show ((sumT (ts.take (k + 1)) : Nat) : Int) = s + cc; rw [hnx.out]; omega
          clear hst
          go_wp2_with fail
          refine hct.mono ?_
          rintro e w2 ⟨rfl, hb2⟩
          have hb3 := hb.trans (hb2.mono hb.size)
          clear hct hb2 d0 d1 d2 d3
          go_wp2
          refine ⟨⟨k + 1, by omega, by go_num, by rw [hse.out]; go_num, by rw [hse.out]; omega, hb3⟩, ?_⟩
          simp only [intOf]
          omega
        · unfold LeftPost at hct
          rw [leftR_no h3] at hct
          have hr : Hid (leftR left (ts.length + sumT ts) = -1) := by
            show leftR left (ts.length + sumT ts) = -1
            refine leftR_no ?_
            have := hnx.out
            omega
          clear hst
          go_wp2_with fail
          refine hct.mono ?_
          rintro e w2 ⟨rfl, hb2⟩
          have hpost : LeftPost left (ts.length + sumT ts) w (.returned (.int .i64 (-1))) w2 := ⟨by rw [hr.out], hb.trans (hb2.mono hb.size)⟩
          clear hct hb2 d0 d1 d2 d3 hr hb
          go_wp2
          go_ret
          exact hpost
      · have e : k = ts.length := by omega
        have hr : Hid (left - ts.length - sumT (ts.take k) = leftR left (ts.length + sumT ts)) := by
          show left - ts.length - sumT (ts.take k) = leftR left (ts.length + sumT ts)
          rw [List.take_of_length_le (by omega)] at hle ⊢
          rw [leftR_yes (by omega)]
          omega
        have hpost : LeftPost left (ts.length + sumT ts) w (.returned (.int .i64 (left - ts.length - sumT (ts.take k)))) wr := ⟨by rw [hr.out], hb⟩
        clear hx ih e hr hb
        go_wp2
        go_ret
        exact hpost
  · have hl2 : left - (ts.length : Int) < 0 := by omega
    have hpost : LeftPost left (ts.length + sumT ts) w (.returned (.int .i64 (-1))) w := ⟨by rw [leftR_no (by omega)], Below.refl _ _⟩
    clear ih hx
    go_enter Try.func30, Try.ntmps30
    go_wp2
    go_ret
    exact hpost

set_option maxRecDepth 100000 in
set_option maxHeartbeats 2000000 in
theorem szTermS_any : ∀ (N : Nat) (ts : List Tm), szTs ts ≤ N → Shorts ts → ts.length ≤ maxLen → ∀ (left : Int) (w : World) (x : Value), 0 ≤ left → left ≤ 1099511627776 → TmsIn w x ts →
    Calls Try.prog 30 #[x, .int .i64 left] w (LeftPost left (ts.length + sumT ts) w) := by
  intro N
  induction N with
  | zero =>
    intro ts hN hsh hlen left w x h0 h1 hx
    exact szTermS_step ts hsh hlen left w x h0 h1 hx fun i hi => absurd (szTs_kid hi) (by omega)
  | succ N ih =>
    intro ts hN hsh hlen left w x h0 h1 hx
    refine szTermS_step ts hsh hlen left w x h0 h1 hx fun i hi left' w' y g0 g1 hy => ?_
    have h2 := (short_eq _).1 (shorts_at hsh hi)
    exact ih _ (by have := szTs_kid hi; omega) h2.2.2 h2.2.1 left' w' y g0 g1 hy

end Go.Proofs.Ytbfkfklaplgebaa
end

section
namespace Go.Proofs.Ytbfkfklaplgebaa
open Go.RowKit Go.Sort

theorem Own.setCell_other {w : World} {S : List Nat} {v : Value} {m : Mem} (h : Own w S v m) (a : Addr) (u : Value) (hb : ∀ b ∈ S, b ≠ a.block) : Own (w.setCell a u) S v m :=
  h.alike fun b hb' => Below.heap_setCell w a u b (hb b hb')

theorem OwnL.setOther {w : World} {S : List Nat} {vs : List Value} {ms : List Mem} (h : OwnL w S vs ms) (a : Addr) (u : Value) (hb : ∀ b ∈ S, b ≠ a.block) : OwnL (w.setCell a u) S vs ms :=
  h.alike fun b hb' => Below.heap_setCell w a u b (hb b hb')

/-- A slice of terms of the call's own. -/
def TmsOut (ts : List Tm) (w : World) (e : Ending) (w' : World) : Prop :=
  ∃ v S, e = .returned v ∧ Own w' S v (tmsMem ts) ∧ (∀ b ∈ S, w.heap.size ≤ b) ∧ Below w.heap.size w w'

/-- A term whose slices are of the call's own. -/
def TmOut (t : Tm) (w : World) (e : Ending) (w' : World) : Prop :=
  ∃ A1 c1 A2 c2 S, e = .returned (.agg #[.int .i64 t.op, .int .i64 t.num, .slice A1 t.perm.length c1, .slice A2 t.kids.length c2]) ∧
    OwnL w' S [.int .i64 t.op, .int .i64 t.num, .slice A1 t.perm.length c1, .slice A2 t.kids.length c2] (encT t) ∧ (∀ b ∈ S, w.heap.size ≤ b) ∧ Below w.heap.size w w'

theorem ownL_term {w : World} {t : Tm} {pv kv : Value} {S T : List Nat} (h : Own w S pv (pairMem t.perm)) (k : Own w T kv (tmsMem t.kids)) (hd : ∀ b ∈ S, b ∉ T) : OwnL w (S ++ (T ++ [])) [.int .i64 t.op, .int .i64 t.num, pv, kv] (encT t) := by
  rw [encT_eq]
  exact .cons (S := []) (.cell _) (.cons (S := []) (.cell _) (.cons h (.cons k .nil (fun b _ => by simp)) (fun b hb ht => hd b hb (by simpa using ht))) (fun b hb => by simp at hb)) (fun b hb => by simp at hb)

set_option maxRecDepth 100000 in
set_option maxHeartbeats 2000000 in
theorem toTerm_of (t : Tm) (x : Value) (w : World) (hx : TmIn w x t) (hlen : t.perm.length ≤ 1099511627776)
    (ih : ∀ (w' : World) (y : Value), TmsIn w' y t.kids → Calls Try.prog 35 #[y] w' (TmsOut t.kids w')) :
    Calls Try.prog 11 #[x] w (TmOut t w) := by
  obtain ⟨A, c, kv, rfl, hp, hk⟩ := hx
  have hb0 : Below w.heap.size w (((w.alloc (.cells #[.int .i64 t.op, .int .i64 t.num, .slice A t.perm.length c, kv] 25)).alloc (.cells #[.int .i64 0, .int .i64 0, .slice none 0 0, .slice none 0 0] 31)).alloc (.cells #[.int .i64 t.op, .int .i64 t.num, .slice none 0 0, .slice none 0 0] 31)) :=
    (((Below.refl _ _).alloc (Nat.le_refl _) _).alloc (by simp) _).alloc (by simp; omega) _
  have hto := toPairS_any A c t.perm _ (hp.below hb0) hlen
  have hsz0 : (((w.alloc (.cells #[.int .i64 t.op, .int .i64 t.num, .slice A t.perm.length c, kv] 25)).alloc (.cells #[.int .i64 0, .int .i64 0, .slice none 0 0, .slice none 0 0] 31)).alloc (.cells #[.int .i64 t.op, .int .i64 t.num, .slice none 0 0, .slice none 0 0] 31)).heap.size = w.heap.size + 3 := by simp
  have hbox : (((w.alloc (.cells #[.int .i64 t.op, .int .i64 t.num, .slice A t.perm.length c, kv] 25)).alloc (.cells #[.int .i64 0, .int .i64 0, .slice none 0 0, .slice none 0 0] 31)).alloc (.cells #[.int .i64 t.op, .int .i64 t.num, .slice none 0 0, .slice none 0 0] 31)).heap[w.heap.size]? = some (.cells #[.int .i64 t.op, .int .i64 t.num, .slice A t.perm.length c, kv] 25 (0, 0)) :=
    (Below.heap_alloc _ _ _ (by simp; omega)).trans ((Below.heap_alloc _ _ _ (by simp)).trans (heap_alloc_new w _))
  have hres : (((w.alloc (.cells #[.int .i64 t.op, .int .i64 t.num, .slice A t.perm.length c, kv] 25)).alloc (.cells #[.int .i64 0, .int .i64 0, .slice none 0 0, .slice none 0 0] 31)).alloc (.cells #[.int .i64 t.op, .int .i64 t.num, .slice none 0 0, .slice none 0 0] 31)).heap[w.heap.size + 1]? = some (.cells #[.int .i64 0, .int .i64 0, .slice none 0 0, .slice none 0 0] 31 (0, 0)) := by
    have h9 := heap_alloc_new (w.alloc (.cells #[.int .i64 t.op, .int .i64 t.num, .slice A t.perm.length c, kv] 25)) (.cells #[.int .i64 0, .int .i64 0, .slice none 0 0, .slice none 0 0] 31)
    rw [World.size_alloc] at h9
    exact (Below.heap_alloc _ _ _ (by simp)).trans h9
  have hout : (((w.alloc (.cells #[.int .i64 t.op, .int .i64 t.num, .slice A t.perm.length c, kv] 25)).alloc (.cells #[.int .i64 0, .int .i64 0, .slice none 0 0, .slice none 0 0] 31)).alloc (.cells #[.int .i64 t.op, .int .i64 t.num, .slice none 0 0, .slice none 0 0] 31)).heap[w.heap.size + 1 + 1]? = some (.cells #[.int .i64 t.op, .int .i64 t.num, .slice none 0 0, .slice none 0 0] 31 (0, 0)) := by
    have h9 := heap_alloc_new ((w.alloc (.cells #[.int .i64 t.op, .int .i64 t.num, .slice A t.perm.length c, kv] 25)).alloc (.cells #[.int .i64 0, .int .i64 0, .slice none 0 0, .slice none 0 0] 31)) (.cells #[.int .i64 t.op, .int .i64 t.num, .slice none 0 0, .slice none 0 0] 31)
    rw [World.size_alloc, World.size_alloc] at h9
    exact h9
  have HS0 := Lib.hid hsz0
  have HB := Lib.hid hbox
  have HO := Lib.hid hout
  have HR := Lib.hid hres
  clear hsz0 hbox hout hres
  go_enter Try.func11, Try.ntmps11
  go_wp2_with fail
  refine hto.mono ?_
  rintro e w1 ⟨pv, rfl, ho1, hb1⟩
  obtain ⟨S1, hS1, hS1b, _⟩ := own_pairMem ho1
  obtain ⟨Ap, cp, rfl, _⟩ := own_pairsAt ho1
  have hbx := (hb1.block w.heap.size (by rw [HS0.out]; omega)).trans HB.out
  have hrx := (hb1.block (w.heap.size + 1) (by rw [HS0.out]; omega)).trans HR.out
  have hox := (hb1.block (w.heap.size + 1 + 1) (by rw [HS0.out]; omega)).trans HO.out
  have hs1 := hb1.size
  rw [HS0.out] at hs1 hS1b
  have ha3 : w1.cell? ⟨w.heap.size, 3, none⟩ = some kv := by rw [cell_of_row w1 w.heap.size 3 _ _ _ hbx]; rfl
  have ho2 : w1.cell? ⟨w.heap.size + 1 + 1, 2, none⟩ = some (.slice none 0 0) := by rw [cell_of_row w1 (w.heap.size + 1 + 1) 2 _ _ _ hox]; rfl
  have hf2 : w1.frozen? ⟨w.heap.size + 1 + 1, 2, none⟩ = false := frozen_of_row w1 (w.heap.size + 1 + 1) 2 _ _ hox
  have hw2 := heap_setCell_same w1 (w.heap.size + 1 + 1) 2 _ _ (.slice Ap t.perm.length cp) hox
  have hr2 : (w1.setCell ⟨w.heap.size + 1 + 1, 2, none⟩ (.slice Ap t.perm.length cp)).heap[w.heap.size + 1]? = _ := (Below.heap_setCell w1 ⟨w.heap.size + 1 + 1, 2, none⟩ (.slice Ap t.perm.length cp) (w.heap.size + 1) (by simp)).trans hrx
  have hbw : Below w.heap.size w (w1.setCell ⟨w.heap.size + 1 + 1, 2, none⟩ (.slice Ap t.perm.length cp)) := (hb0.trans (hb1.mono hb0.size)).setCell (by simp; omega) _
  have hS2 := hS1.setCell_other ⟨w.heap.size + 1 + 1, 2, none⟩ (.slice Ap t.perm.length cp) (fun b hb => by have := hS1b b hb; show b ≠ w.heap.size + 1 + 1; omega)
  have hih := ih (w1.setCell ⟨w.heap.size + 1 + 1, 2, none⟩ (.slice Ap t.perm.length cp)) kv (hk.below hbw)
  have hs2 : (w1.setCell ⟨w.heap.size + 1 + 1, 2, none⟩ (.slice Ap t.perm.length cp)).heap.size = w1.heap.size := by simp
  have HS2 := Lib.hid hs2
  have HW := Lib.hid hw2
  have HR2 := Lib.hid hr2
  clear hto hb0 hb1 ho1 hbx hox hrx hS1 HB HO HR HS0 hp hk ih hs2 hw2 hr2
  go_wp2_with fail
  refine hih.mono ?_
  rintro e w3 ⟨kv', S3, rfl, hS3, hS3b, hb3⟩
  obtain ⟨Ak, ck, rfl⟩ := TmsIn.form (ts := t.kids) hS3.at_
  rw [HS2.out] at hS3b
  have hbx := (hb3.block (w.heap.size + 1 + 1) (by rw [HS2.out]; omega)).trans HW.out
  have hrx := (hb3.block (w.heap.size + 1) (by rw [HS2.out]; omega)).trans HR2.out
  have hs3 := hb3.size
  rw [HS2.out] at hs3
  have hS4 := (hS2.keep hb3).setCell_other ⟨w.heap.size + 1 + 1, 3, none⟩ (.slice Ak t.kids.length ck) (fun b hb => by have := hS1b b hb; show b ≠ w.heap.size + 1 + 1; omega)
  have hS5 := hS3.setCell_other ⟨w.heap.size + 1 + 1, 3, none⟩ (.slice Ak t.kids.length ck) (fun b hb => by have := hS3b b hb; show b ≠ w.heap.size + 1 + 1; omega)
  have hd : ∀ b ∈ S1, b ∉ S3 := fun b h1 h3 => by
    have h4 := hS3b b h3
    have h5 := hS2.lt b h1
    rw [HS2.out] at h5
    omega
  have hbz : Below w.heap.size w (w3.setCell ⟨w.heap.size + 1 + 1, 3, none⟩ (.slice Ak t.kids.length ck)) := (hbw.trans (hb3.mono hbw.size)).setCell (by simp; omega) _
  have hL := ownL_term (t := t) hS4 hS5 hd
  have hLb : ∀ b ∈ S1 ++ (S3 ++ []), w.heap.size + 2 < b := fun b hb => by
      rw [List.append_nil] at hb
      rcases List.mem_append.1 hb with h | h
      · have := hS1b b h; omega
      · have := hS3b b h; omega
  have hne : ∀ b ∈ S1 ++ (S3 ++ []), b ≠ w.heap.size + 1 := fun b hb => by have := hLb b hb; omega
  have hpost : TmOut t w (.returned (.agg #[.int .i64 t.op, .int .i64 t.num, .slice Ap t.perm.length cp, .slice Ak t.kids.length ck])) ((((w3.setCell ⟨w.heap.size + 1 + 1, 3, none⟩ (.slice Ak t.kids.length ck)).setCell ⟨w.heap.size + 1, 0, none⟩ (.int .i64 t.op)).setCell ⟨w.heap.size + 1, 1, none⟩ (.int .i64 t.num)).setCell ⟨w.heap.size + 1, 2, none⟩ (.slice Ap t.perm.length cp) |>.setCell ⟨w.heap.size + 1, 3, none⟩ (.slice Ak t.kids.length ck)) :=
    ⟨Ap, cp, Ak, ck, _, rfl, (((hL.setOther ⟨w.heap.size + 1, 0, none⟩ (.int .i64 t.op) hne).setOther ⟨w.heap.size + 1, 1, none⟩ (.int .i64 t.num) hne).setOther ⟨w.heap.size + 1, 2, none⟩ (.slice Ap t.perm.length cp) hne).setOther ⟨w.heap.size + 1, 3, none⟩ (.slice Ak t.kids.length ck) hne,
     fun b hb => by have := hLb b hb; omega, (((hbz.setCell (by simp) _).setCell (by simp) _).setCell (by simp) _).setCell (by simp) _⟩
  have hc0 : w3.cell? ⟨w.heap.size + 1 + 1, 0, none⟩ = some (.int .i64 t.op) := by rw [cell_of_row w3 (w.heap.size + 1 + 1) 0 _ _ _ hbx]; rfl
  have hc1 : w3.cell? ⟨w.heap.size + 1 + 1, 1, none⟩ = some (.int .i64 t.num) := by rw [cell_of_row w3 (w.heap.size + 1 + 1) 1 _ _ _ hbx]; rfl
  have hc2 : w3.cell? ⟨w.heap.size + 1 + 1, 2, none⟩ = some (.slice Ap t.perm.length cp) := by rw [cell_of_row w3 (w.heap.size + 1 + 1) 2 _ _ _ hbx]; rfl
  have hc3 : w3.cell? ⟨w.heap.size + 1 + 1, 3, none⟩ = some (.slice none 0 0) := by rw [cell_of_row w3 (w.heap.size + 1 + 1) 3 _ _ _ hbx]; rfl
  have hf3 : w3.frozen? ⟨w.heap.size + 1 + 1, 3, none⟩ = false := frozen_of_row w3 (w.heap.size + 1 + 1) 3 _ _ hbx
  have hr0 : w3.cell? ⟨w.heap.size + 1, 0, none⟩ = some (.int .i64 0) := by rw [cell_of_row w3 (w.heap.size + 1) 0 _ _ _ hrx]; rfl
  have hr1 : w3.cell? ⟨w.heap.size + 1, 1, none⟩ = some (.int .i64 0) := by rw [cell_of_row w3 (w.heap.size + 1) 1 _ _ _ hrx]; rfl
  have hr2 : w3.cell? ⟨w.heap.size + 1, 2, none⟩ = some (.slice none 0 0) := by rw [cell_of_row w3 (w.heap.size + 1) 2 _ _ _ hrx]; rfl
  have hr3 : w3.cell? ⟨w.heap.size + 1, 3, none⟩ = some (.slice none 0 0) := by rw [cell_of_row w3 (w.heap.size + 1) 3 _ _ _ hrx]; rfl
  have hz0 : w3.frozen? ⟨w.heap.size + 1, 0, none⟩ = false := frozen_of_row w3 (w.heap.size + 1) 0 _ _ hrx
  have hz1 : w3.frozen? ⟨w.heap.size + 1, 1, none⟩ = false := frozen_of_row w3 (w.heap.size + 1) 1 _ _ hrx
  have hz2 : w3.frozen? ⟨w.heap.size + 1, 2, none⟩ = false := frozen_of_row w3 (w.heap.size + 1) 2 _ _ hrx
  have hz3 : w3.frozen? ⟨w.heap.size + 1, 3, none⟩ = false := frozen_of_row w3 (w.heap.size + 1) 3 _ _ hrx
  clear hih hbw hS2 hS3 hS4 hS5 hd hbz hb3 HW HR2 HS2 hbx hrx ha3 ho2 hf2 hS1b hS3b hL hLb hne
  go_wp2
  exact bodyPost_ret (v := .agg #[.int .i64 t.op, .int .i64 t.num, .slice Ap t.perm.length cp, .slice Ak t.kids.length ck]) (by simp [results, Try.results11, go_sem, hr0, hr1, hr2, hr3]) rfl hpost

/-- A copy reads as the term. -/
theorem tmOut_in {w : World} {S : List Nat} {t : Tm} {A : Option Addr} {c : Nat} {kv : Value} (h : OwnL w S [.int .i64 t.op, .int .i64 t.num, .slice A t.perm.length c, kv] (encT t)) :
    TmIn w (.agg #[.int .i64 t.op, .int .i64 t.num, .slice A t.perm.length c, kv]) t := by
  have h1 := h.at_
  rw [encT_eq] at h1
  cases h1 with
  | cons _ h1 => cases h1 with
    | cons _ h1 => cases h1 with
      | cons h2 h1 => cases h1 with
        | cons h3 _ =>
          obtain ⟨A', c', e, hp⟩ := at_pairs h2
          simp only [Value.slice.injEq] at e
          obtain ⟨rfl, _, rfl⟩ := e
          exact ⟨A, c, kv, rfl, hp, h3⟩

theorem term_info : (Try.prog.info? 31).map (fun i => (i.zero, i.size, i.bytes)) = some (some (.agg #[.int .i64 0, .int .i64 0, .slice none 0 0, .slice none 0 0]), 4, 64) := by kernel_rfl

theorem take_set4 {xs : List Value} {j : Nat} {a b c d : Value} (h : j + 4 ≤ xs.length) : ((((xs.set j a).set (j + 1) b).set (j + 2) c).set (j + 3) d).take (j + 4) = xs.take j ++ [a, b, c, d] := by
  apply List.ext_getElem?
  intro i
  rw [List.getElem?_take]
  by_cases hi : i < j + 4
  · rw [if_pos hi]
    by_cases h1 : i < j
    · rw [List.getElem?_append_left (by rw [List.length_take]; omega), List.getElem?_take, if_pos h1]
      simp [show ¬ j + 3 = i by omega, show ¬ j + 2 = i by omega, show ¬ j + 1 = i by omega, show ¬ j = i by omega]
    · rw [List.getElem?_append_right (by rw [List.length_take]; omega), List.length_take, show min j xs.length = j by omega]
      have hc : i = j ∨ i = j + 1 ∨ i = j + 2 ∨ i = j + 3 := by omega
      rcases hc with rfl | rfl | rfl | rfl
      · simp [show i < xs.length by omega]
      · simp [show j + 1 < xs.length by omega, show j + 1 - j = 1 by omega]
      · simp [show j + 2 < xs.length by omega, show j + 2 - j = 2 by omega]
      · simp [show j + 3 < xs.length by omega, show j + 3 - j = 3 by omega]
  · rw [if_neg hi, List.getElem?_eq_none (by rw [List.length_append, List.length_take]; simp; omega)]

theorem OwnL.kept {w w' : World} {S : List Nat} {vs : List Value} {ms : List Mem} {row : Option Nat} (h : OwnL w S vs ms) (hg : w.grownBy w' row) (hn : ∀ b ∈ S, some b ≠ row) : OwnL w' S vs ms :=
  h.alike fun b hb => hg.block b (h.lt b hb) (hn b hb)

set_option maxRecDepth 100000 in
set_option maxHeartbeats 4000000 in
theorem toTermS_step (ts : List Tm) (hlen : ts.length ≤ 1048576) (w : World) (x : Value) (hx : TmsIn w x ts)
    (ih : ∀ i, i < ts.length → ∀ (w' : World) (y : Value), TmIn w' y (tmAt ts i) → Calls Try.prog 11 #[y] w' (TmOut (tmAt ts i) w')) :
    Calls Try.prog 35 #[x] w (TmsOut ts w) := by
  obtain ⟨A, c, rfl⟩ := hx.form
  obtain ⟨i0, hi0, hz0, hz1, hz2⟩ := info_parts term_info
  have HS := Lib.hid hz2
  clear hz2
  go_enter Try.func35, Try.ntmps35
  go_wp2_with (at_make; refine wpList_make_full _ rfl (.tmp 6) (.tmp 6) 29 rfl w.heap.size 31 i0 _ 4 Try.underlying29 hi0 hz0 hz1 .i64 .i64 _ _ ts.length rfl rfl rfl rfl ?c1 ?c2 (Nat.le_refl _) ?_)
  case c1 => rw [HS.out]; omega
  case c2 => unfold maxLen; omega
  intro w1 ho hg
  have hb0 := (Below.refl w.heap.size w).grown hg (Nat.le_refl _) (fun k hk => by cases hk)
  clear hg
  generalize hz : (madeCells #[Value.int IntKind.i64 0, Value.int IntKind.i64 0, Value.slice none 0 0, Value.slice none 0 0] (ts.length * 4)).toList = zs at ho
  clear hz
  have hlt0 : w.heap.size < w1.heap.size := (ho.lt w.heap.size rfl).2
  go_wp2
  go_loopw [4] (fun i wr => ∃ (k : Nat) (S : List Nat) (xs : List Value), k ≤ ts.length ∧ i = .int .i64 k ∧ wr.ownsRow w.heap.size 31 4 (.slice (some ⟨w.heap.size, 0, none⟩) ts.length ts.length) ts.length xs ∧ OwnL wr S (xs.take (k * 4)) (encTs (ts.take k)) ∧ (∀ b ∈ S, w.heap.size < b) ∧ Below w.heap.size w wr) (fun i _ => ts.length - (intOf i).toNat)
  case atStart => exact ⟨0, [], zs, Nat.zero_le _, rfl, ho, by simp [encTs]; exact .nil, fun b hb => by simp at hb, hb0⟩
  case round =>
    clear ho hb0
    obtain ⟨k, S, xs, hk, rfl, ho, hL, hSb, hb⟩ := hrel
    have hwr : w.heap.size < wr.heap.size := (ho.lt w.heap.size rfl).2
    by_cases hlt : k < ts.length
    · have hxr := hx.below hb
      obtain ⟨b, off, rfl, hbl, hget⟩ := hxr.get (by omega)
      obtain ⟨A1, c1, kv, d0, d1, d2, d3, hp1, hk1⟩ := hget k hlt
      have hct := ih k hlt wr _ ⟨A1, c1, kv, rfl, hp1, hk1⟩
      have hnx := Lib.hid (congrArg encTs (tm_take_next hlt))
      generalize tmAt ts k = t at hct hnx d0 d1 d2 d3
      clear hget hp1 hk1 hx hxr ih hbl
      go_wp2_with fail
      refine hct.mono ?_
      rintro e w2 ⟨P1, q1c, P2, q2c, R, rfl, hR, hRb, hb2⟩
      have ho2 := own_below ho hb2
      have hL2 := hL.alike (w' := w2) fun b hb' => hb2.block b (hL.lt b hb')
      have hb3 := hb.trans (hb2.mono hb.size)
      have hxl := ho2.1
      obtain ⟨v0, e0⟩ := some_of_lt xs (k * 4) (by omega)
      obtain ⟨v1, e1⟩ := some_of_lt xs (k * 4 + 1) (by omega)
      obtain ⟨v2, e2⟩ := some_of_lt xs (k * 4 + 2) (by omega)
      obtain ⟨v3, e3⟩ := some_of_lt xs (k * 4 + 3) (by omega)
      have g0 := (ho2.cellAt (k * 4) (by omega)).trans e0
      have g1 := (ho2.cellAt (k * 4 + 1) (by omega)).trans e1
      have g2 := (ho2.cellAt (k * 4 + 2) (by omega)).trans e2
      have g3 := (ho2.cellAt (k * 4 + 3) (by omega)).trans e3
      have f0 := ho2.frozenAt (k * 4)
      have f1 := ho2.frozenAt (k * 4 + 1)
      have f2 := ho2.frozenAt (k * 4 + 2)
      have f3 := ho2.frozenAt (k * 4 + 3)
      obtain ⟨o1, q1⟩ := ho2.stored (k * 4) (.int .i64 t.op)
      obtain ⟨o2, q2⟩ := o1.stored (k * 4 + 1) (.int .i64 t.num)
      obtain ⟨o3, q3⟩ := o2.stored (k * 4 + 2) (.slice P1 t.perm.length q1c)
      obtain ⟨o4, q4⟩ := o3.stored (k * 4 + 3) (.slice P2 t.kids.length q2c)
      have hq := grownBy_trans q1 (grownBy_trans q2 (grownBy_trans q3 q4))
      have hL3 := hL2.kept hq (fun b hb' => by have := hSb b hb'; intro e; injection e with e; omega)
      have hR3 := hR.kept hq (fun b hb' => by have := hRb b hb'; intro e; injection e with e; omega)
      have hdis : ∀ b ∈ S, b ∉ R := fun b h1 h2 => by have h3 := hL.lt b h1; have h4 := hRb b h2; omega
      have hL4 := hL3.append hR3 hdis
      have hb5 := hb3.grown hq hb3.size (fun j hj => by injection hj with hj; omega)
      have htk : Hid (((((xs.set (k * 4) (.int .i64 t.op)).set (k * 4 + 1) (.int .i64 t.num)).set (k * 4 + 2) (.slice P1 t.perm.length q1c)).set (k * 4 + 3) (.slice P2 t.kids.length q2c)).take ((k + 1) * 4) = xs.take (k * 4) ++ [.int .i64 t.op, .int .i64 t.num, .slice P1 t.perm.length q1c, .slice P2 t.kids.length q2c]) := by
        show ((((xs.set (k * 4) (.int .i64 t.op)).set (k * 4 + 1) (.int .i64 t.num)).set (k * 4 + 2) (.slice P1 t.perm.length q1c)).set (k * 4 + 3) (.slice P2 t.kids.length q2c)).take ((k + 1) * 4) = xs.take (k * 4) ++ [.int .i64 t.op, .int .i64 t.num, .slice P1 t.perm.length q1c, .slice P2 t.kids.length q2c]
        rw [show (k + 1) * 4 = k * 4 + 4 by omega]
        exact take_set4 (by omega)
      have hL5 := hL4
      rw [← htk.out, ← (show encTs [t] = encT t by simp [encTs]), ← encTs_append, ← hnx.out] at hL5
      have hSR : ∀ b ∈ S ++ R, w.heap.size < b := fun b hb' => by
        rcases List.mem_append.1 hb' with h | h
        · exact hSb b h
        · have := hRb b h; omega
      clear ho ho2 hL hL2 hL3 hL4 hR hR3 hb hb2 hb3 q1 q2 q3 q4 hq o1 o2 o3 e0 e1 e2 e3 hxl hct hnx htk hdis hSb hRb d0 d1 d2 d3
      go_wp2
      refine ⟨⟨k + 1, S ++ R, _, by omega, by go_num, o4, hL5, hSR, hb5⟩, ?_⟩
      simp only [intOf]
      omega
    · have e : k = ts.length := by omega
      subst e
      have hl := ho.1
      rw [List.take_of_length_le (by omega), List.take_of_length_le (Nat.le_refl _)] at hL
      have hpost : TmsOut ts w (.returned (.slice (some ⟨w.heap.size, 0, none⟩) ts.length ts.length)) wr :=
        ⟨_, w.heap.size :: S, rfl, .row (encTs_len ts) (own_le ho (Nat.zero_le _)) hL (fun h => by have := hSb _ h; omega), fun b hb' => by
          rcases List.mem_cons.1 hb' with h | h
          · omega
          · have := hSb b h; omega, hb⟩
      clear ho hL hSb hb hx ih hl
      go_wp2
      go_ret
      exact hpost

theorem toTermS_any : ∀ (N : Nat) (ts : List Tm), szTs ts ≤ N → Fits ts → ts.length ≤ 1048576 → ∀ (w : World) (x : Value), TmsIn w x ts → Calls Try.prog 35 #[x] w (TmsOut ts w) := by
  intro N
  induction N with
  | zero =>
    intro ts hN hf hlen w x hx
    exact toTermS_step ts hlen w x hx fun i hi => absurd (szTs_kid hi) (by omega)
  | succ N ih =>
    intro ts hN hf hlen w x hx
    refine toTermS_step ts hlen w x hx fun i hi w' y hy => ?_
    have h2 := (fit_eq _).1 (fits_at hf hi)
    exact toTerm_of _ y w' hy (by omega) fun w'' z hz => ih _ (by have := szTs_kid hi; omega) h2.2.2 h2.2.1 w'' z hz

theorem toTerm_any (t : Tm) (hf : Fit t) (w : World) (x : Value) (hx : TmIn w x t) : Calls Try.prog 11 #[x] w (TmOut t w) := by
  have h2 := (fit_eq _).1 hf
  exact toTerm_of t x w hx (by omega) fun w' y hy => toTermS_any _ _ (Nat.le_refl _) h2.2.2 h2.2.1 w' y hy

end Go.Proofs.Ytbfkfklaplgebaa
end

section
namespace Go.Proofs.Ytbfkfklaplgebaa
open Go.RowKit Go.Sort

def prEq (a b c d : Int) : Bool := decide ((a, b) = (c, d))

theorem prEq_of {xs ys : List (Int × Int)} {k : Nat} : prEq (prAt xs k).1 (prAt xs k).2 (prAt ys k).1 (prAt ys k).2 = decide (prAt xs k = prAt ys k) := rfl

theorem eqPair_any (a b c d : Int) (w : World) :
    Calls Try.prog 41 #[.agg #[.int .i64 a, .int .i64 b], .agg #[.int .i64 c, .int .i64 d]] w
      fun e w' => e = .returned (.bool (prEq a b c d)) ∧ Below w.heap.size w w' := by
  have hend : Below w.heap.size w ((w.alloc (.cells #[.int .i64 a, .int .i64 b] 58)).alloc (.cells #[.int .i64 c, .int .i64 d] 58)) :=
    ((Below.refl _ _).alloc (Nat.le_refl _) _).alloc (by simp) _
  by_cases h1 : a = c
  · subst h1
    have k1 : (a != a) = false := by simp
    by_cases h2 : b = d
    · subst h2
      have k2 : (b != b) = false := by simp
      go_enter Try.func41, Try.ntmps41
      go_wp2
      go_ret
      exact ⟨bool_end (by simp [prEq]), hend⟩
    · have k2 : (b != d) = true := by simpa using h2
      go_enter Try.func41, Try.ntmps41
      go_wp2
      go_ret
      exact ⟨bool_end (by simp [prEq, h2]), hend⟩
  · have k1 : (a != c) = true := by simpa using h1
    go_enter Try.func41, Try.ntmps41
    go_wp2
    go_ret
    exact ⟨bool_end (by simp [prEq, h1]), hend⟩

set_option maxHeartbeats 400000 in
theorem eqPairS_any (A B : Option Addr) (c d : Nat) (xs ys : List (Int × Int)) (w : World) (hx : PairsAt w A xs) (hy : PairsAt w B ys) (hlx : xs.length ≤ 9223372036854775807) :
    Calls Try.prog 14 #[.slice A xs.length c, .slice B ys.length d] w
      fun e w' => e = .returned (.bool (decide (xs = ys))) ∧ Below w.heap.size w w' := by
  by_cases hl : xs.length = ys.length
  · have k0 : ((xs.length : Int) != (ys.length : Int)) = false := by simp [hl]
    have HL := Lib.hid hl
    clear hl
    go_enter Try.func14, Try.ntmps14
    go_wp2
    go_loopw [5] (fun i wr => ∃ k : Nat, k ≤ xs.length ∧ i = .int .i64 k ∧ xs.take k = ys.take k ∧ Below w.heap.size w wr) (fun i _ => xs.length - (intOf i).toNat)
    case atStart => exact ⟨0, Nat.zero_le _, rfl, rfl, Below.refl _ _⟩
    case round =>
      obtain ⟨k, hk, rfl, ht, hb⟩ := hrel
      have HT := Lib.hid ht
      clear ht
      by_cases hlt : k < xs.length
      · obtain ⟨b1, o1, rfl, hb1, hc1⟩ := hx (by omega)
        obtain ⟨b2, o2, rfl, hb2, hc2⟩ := hy (by have := HL.out; omega)
        obtain ⟨c1, c2⟩ := hc1 k hlt
        obtain ⟨c3, c4⟩ := hc2 k (by have := HL.out; omega)
        rw [← hb.cell (p := ⟨b1, _, none⟩) hb1] at c1 c2
        rw [← hb.cell (p := ⟨b2, _, none⟩) hb2] at c3 c4
        have hlt2 : k < ys.length := by have := HL.out; omega
        clear hc1 hc2 hx hy
        have q1 := fun d os => cell_regrown c1 d os
        have q2 := fun d os => cell_regrown c2 d os
        have q3 := fun d os => cell_regrown c3 d os
        have q4 := fun d os => cell_regrown c4 d os
        by_cases he : prAt xs k = prAt ys k
        · have hq : prEq (prAt xs k).1 (prAt xs k).2 (prAt ys k).1 (prAt ys k).2 = true := by rw [prEq_of]; simp [he]
          have HE := Lib.hid he
          clear he
          go_wp2
          refine wp_region_quiet_below (by kernel_rfl) (by kernel_rfl) ?_
          repeat (any_goals (first | go_big_quiet_step ((go_at_call 41; exact Calls.regrown_of (eqPair_any _ _ _ _ _))) | quiet_step ((go_at_call 41; exact Calls.regrown_of (eqPair_any _ _ _ _ _)))))
          refine wpQuiet_nil ?_
          intro _ hw'
          obtain ⟨⟨dq, osq⟩, hw''⟩ := hw'
          subst hw''
          have hb3 := hb.trans ((below_regrown wr dq osq).mono hb.size)
          clear q1 q2 q3 q4 c1 c2 c3 c4
          generalize grow (redrawn wr dq) osq = w2 at *
          go_wp2
          go_roundw
          case rel => exact ⟨k + 1, by omega, by go_num, (take_next (0, 0) k hlt hlt2 HT.out).2 HE.out, hb3⟩
          case measure => simp [intOf]; omega
        · have hq : prEq (prAt xs k).1 (prAt xs k).2 (prAt ys k).1 (prAt ys k).2 = false := by rw [prEq_of]; simp [he]
          have HE := Lib.hid he
          clear he
          go_wp2
          refine wp_region_quiet_below (by kernel_rfl) (by kernel_rfl) ?_
          repeat (any_goals (first | go_big_quiet_step ((go_at_call 41; exact Calls.regrown_of (eqPair_any _ _ _ _ _))) | quiet_step ((go_at_call 41; exact Calls.regrown_of (eqPair_any _ _ _ _ _)))))
          refine wpQuiet_nil ?_
          intro _ hw'
          obtain ⟨⟨dq, osq⟩, hw''⟩ := hw'
          subst hw''
          have hb3 := hb.trans ((below_regrown wr dq osq).mono hb.size)
          clear q1 q2 q3 q4 c1 c2 c3 c4
          generalize grow (redrawn wr dq) osq = w2 at *
          go_wp2
          go_ret
          exact ⟨bool_end (differ_at k HE.out).symm, hb3⟩
      · go_wp2
        go_ret
        have e : k = xs.length := by omega
        subst e
        exact ⟨bool_end (same_all HL.out HT.out).symm, hb⟩
  · have k0 : ((xs.length : Int) != (ys.length : Int)) = true := by simp; omega
    have hf : decide (xs = ys) = false := by
      simp only [decide_eq_false_iff_not]
      intro e
      exact hl (by rw [e])
    have HF := Lib.hid hf
    clear hl hf
    go_enter Try.func14, Try.ntmps14
    go_wp2
    go_ret
    exact ⟨bool_end HF.out.symm, Below.refl _ _⟩

end Go.Proofs.Ytbfkfklaplgebaa
end

section
namespace Go.Proofs.Ytbfkfklaplgebaa
section
open Go.RowKit Go.Sort

/-- Less, the same, greater. -/
def cmpI (a b : Int) : Int := if a < b then -1 else if b < a then 1 else 0

def atomB (a : Int) : Bool := decide (0 ≤ a ∧ a ≤ 999)

theorem isAtom_any (a : Int) (w : World) :
    Calls Try.prog 49 #[.int .i64 a] w fun e w' => e = .returned (.bool (atomB a)) ∧ w = w' := by
  by_cases h1 : 0 ≤ a
  · by_cases h2 : a ≤ 999
    · go_enter Try.func49, Try.ntmps49
      go_wp2
      go_ret
      exact ⟨bool_end (by simp [atomB, h1, h2]), rfl⟩
    · have k2 : decide (a ≤ 999) = false := by simpa using h2
      have k3 : 999 < a := by omega
      clear h2
      go_enter Try.func49, Try.ntmps49
      go_wp2
      go_ret
      exact ⟨bool_end (by simp [atomB]; omega), rfl⟩
  · have k1 : a < 0 := by omega
    clear h1
    go_enter Try.func49, Try.ntmps49
    go_wp2
    go_ret
    exact ⟨bool_end (by simp [atomB]; omega), rfl⟩

theorem compare_any (a b : Int) (w : World) :
    Calls Try.prog 84 #[.int .i64 a, .int .i64 b] w fun e w' => e = .returned (.int .i64 (cmpI a b)) ∧ w = w' := by
  have na : (a != a) = false := by simp
  have nb : (b != b) = false := by simp
  by_cases h1 : a < b
  · go_enter Try.func84, Try.ntmps84
    go_wp2
    go_ret
    exact ⟨int_end (by simp [cmpI, h1]), rfl⟩
  · by_cases h2 : b < a
    · go_enter Try.func84, Try.ntmps84
      go_wp2
      go_ret
      exact ⟨int_end (by simp [cmpI, h1, h2]), rfl⟩
    · go_enter Try.func84, Try.ntmps84
      go_wp2
      go_ret
      exact ⟨int_end (by unfold cmpI; rw [if_neg (by omega), if_neg (by omega)]), rfl⟩

theorem closure_any (a b t : Int) (w : World) :
    Calls Try.prog 83 #[.agg #[.int .i64 a, .int .i64 b], .int .i64 t] w
      fun e w' => e = .returned (.int .i64 (cmpI a t)) ∧ Below w.heap.size w w' := by
  go_enter Try.func83, Try.ntmps83
  go_wp2_with (go_at_call 84; refine (compare_any _ _ _).mono ?_; rintro e w' ⟨rfl, rfl⟩)
  go_ret
  exact ⟨rfl, (Below.refl _ _).alloc (Nat.le_refl _) _⟩

/-- The first atoms ascend. -/
def Asc (l : List (Int × Int)) : Prop := ∀ i j, i < j → j < l.length → (prAt l i).1 < (prAt l j).1

/-- Place i divides the pairs at t. -/
def Divides (l : List (Int × Int)) (t : Int) (i : Nat) : Prop := i ≤ l.length ∧ (∀ j, j < i → (prAt l j).1 < t) ∧ ∀ j, i ≤ j → j < l.length → t ≤ (prAt l j).1

def foundB (l : List (Int × Int)) (t : Int) (i : Nat) : Bool := decide (i < l.length ∧ (prAt l i).1 = t)

def FindPost (l : List (Int × Int)) (t : Int) (w : World) (e : Ending) (w' : World) : Prop :=
  ∃ i : Nat, e = .returned (.tuple #[.int .i64 i, .bool (foundB l t i)]) ∧ Divides l t i ∧ Below w.heap.size w w'

theorem divides_up {l : List (Int × Int)} {t : Int} {a b m : Nat} (hasc : Asc l) (h : (∀ q, q < a → (prAt l q).1 < t) ∧ ∀ q, b ≤ q → q < l.length → t ≤ (prAt l q).1) (hm : m < l.length) (ht : (prAt l m).1 < t) :
    (∀ q, q < m + 1 → (prAt l q).1 < t) ∧ ∀ q, b ≤ q → q < l.length → t ≤ (prAt l q).1 := by
  refine ⟨fun q hq => ?_, h.2⟩
  by_cases e : q = m
  · rw [e]; exact ht
  · have := hasc q m (by omega) hm; omega

theorem divides_down {l : List (Int × Int)} {t : Int} {a b m : Nat} (hasc : Asc l) (h : (∀ q, q < a → (prAt l q).1 < t) ∧ ∀ q, b ≤ q → q < l.length → t ≤ (prAt l q).1) (ht : ¬ (prAt l m).1 < t) :
    (∀ q, q < a → (prAt l q).1 < t) ∧ ∀ q, m ≤ q → q < l.length → t ≤ (prAt l q).1 := by
  refine ⟨h.1, fun q hq hl => ?_⟩
  by_cases e : q = m
  · rw [e]; omega
  · have := hasc m q (by omega) hl; omega

set_option maxRecDepth 100000 in
set_option maxHeartbeats 1000000 in
theorem search_any (A : Option Addr) (c : Nat) (l : List (Int × Int)) (t : Int) (w : World) (hA : PairsAt w A l) (hl : l.length ≤ 1099511627776) (hasc : Asc l) :
    Calls Try.prog 82 #[.slice A l.length c, .int .i64 t, .func (.func 83) #[] #[]] w (FindPost l t w) := by
  have HA := Lib.hid hasc
  clear hasc
  go_enter Try.func82, Try.ntmps82
  go_wp2
  go_loopw [9, 10, 11] (fun i j h wr => ∃ (a b : Nat), a ≤ b ∧ b ≤ l.length ∧ i = .int .i64 a ∧ j = .int .i64 b ∧ Hid ((∀ q, q < a → (prAt l q).1 < t) ∧ ∀ q, b ≤ q → q < l.length → t ≤ (prAt l q).1) ∧ Below w.heap.size w wr) (fun i j _ _ => (intOf j).toNat - (intOf i).toNat)
  case atStart => exact ⟨0, l.length, Nat.zero_le _, Nat.le_refl _, rfl, rfl, ⟨fun q h => absurd h (by omega), fun q h1 h2 => absurd h1 (by omega)⟩, Below.refl _ _⟩
  case round =>
    obtain ⟨a, b, hab, hbl, rfl, rfl, hq, hb⟩ := hrel
    by_cases hlt : a < b
    · have hm : (a + b) / 2 < l.length := by omega
      obtain ⟨b1, o1, rfl, hb1, hc1⟩ := hA (by omega)
      obtain ⟨c1, c2⟩ := hc1 ((a + b) / 2) hm
      rw [← hb.cell (p := ⟨b1, _, none⟩) hb1] at c1 c2
      clear hc1 hA
      have hcl := closure_any (prAt l ((a + b) / 2)).1 (prAt l ((a + b) / 2)).2 t wr
      by_cases ht : (prAt l ((a + b) / 2)).1 < t
      · have HQ : Hid _ := divides_up HA.out hq.out hm ht
        have k1 : cmpI (prAt l ((a + b) / 2)).1 t = -1 := by simp [cmpI, ht]
        rw [k1] at hcl
        generalize prAt l ((a + b) / 2) = pr at c1 c2 hcl
        clear ht k1 hq
        go_wp2_with (go_at_call 83; refine hcl.mono ?_; rintro e w2 ⟨rfl, hb2⟩; have hb3 := hb.trans (hb2.mono hb.size))
        refine ⟨⟨(a + b) / 2 + 1, b, by omega, hbl, by go_num, rfl, HQ, hb3⟩, ?_⟩
        simp only [intOf]
        omega
      · have HQ : Hid _ := divides_down HA.out hq.out ht
        have k1 : 0 ≤ cmpI (prAt l ((a + b) / 2)).1 t := by unfold cmpI; split; omega; split <;> omega
        generalize prAt l ((a + b) / 2) = pr at c1 c2 hcl k1
        generalize cmpI pr.1 t = z at hcl k1
        clear ht hq
        go_wp2_with (go_at_call 83; refine hcl.mono ?_; rintro e w2 ⟨rfl, hb2⟩; have hb3 := hb.trans (hb2.mono hb.size))
        refine ⟨⟨a, (a + b) / 2, by omega, by omega, rfl, by go_num, HQ, hb3⟩, ?_⟩
        simp only [intOf]
        omega
    · have hba : b ≤ a := by omega
      have hd : Divides l t a := ⟨by omega, hq.out.1, fun q h1 h2 => hq.out.2 q (by omega) h2⟩
      have HD := Lib.hid hd
      clear hd hq
      by_cases hn : a < l.length
      · obtain ⟨b1, o1, rfl, hb1, hc1⟩ := hA (by omega)
        obtain ⟨c1, c2⟩ := hc1 a hn
        rw [← hb.cell (p := ⟨b1, _, none⟩) hb1] at c1 c2
        clear hc1 hA
        have hcl := closure_any (prAt l a).1 (prAt l a).2 t wr
        by_cases he : (prAt l a).1 = t
        · have hf : foundB l t a = true := by simp [foundB, hn, he]
          have k1 : cmpI (prAt l a).1 t = 0 := by simp [cmpI, he]
          have HF := Lib.hid hf
          rw [k1] at hcl
          generalize prAt l a = pr at c1 c2 hcl
          clear he k1 hf
          go_wp2_with (go_at_call 83; refine hcl.mono ?_; rintro e w2 ⟨rfl, hb2⟩; have hb3 := hb.trans (hb2.mono hb.size))
          go_ret2
          exact ⟨a, by rw [HF.out]; rfl, HD.out, hb3⟩
        · have hf : foundB l t a = false := by simp [foundB, he]
          have k1 : (cmpI (prAt l a).1 t == 0) = false := by
            unfold cmpI
            split
            · rfl
            · split
              · rfl
              · omega
          have HF := Lib.hid hf
          generalize prAt l a = pr at c1 c2 hcl k1
          generalize cmpI pr.1 t = z at hcl k1
          clear he hf
          go_wp2_with (go_at_call 83; refine hcl.mono ?_; rintro e w2 ⟨rfl, hb2⟩; have hb3 := hb.trans (hb2.mono hb.size))
          go_ret2
          exact ⟨a, by rw [HF.out]; rfl, HD.out, hb3⟩
      · have hf : foundB l t a = false := by simp [foundB, hn]
        have HF := Lib.hid hf
        clear hf
        go_wp2
        go_ret2
        exact ⟨a, by rw [HF.out]; rfl, HD.out, hb⟩

theorem placeOf_any (A : Option Addr) (c : Nat) (l : List (Int × Int)) (t : Int) (w : World) (hA : PairsAt w A l) (hl : l.length ≤ 1099511627776) (hasc : Asc l) :
    Calls Try.prog 63 #[.slice A l.length c, .int .i64 t] w (FindPost l t w) := by
  have hs := search_any A c l t w hA hl hasc
  clear hasc hA
  go_enter Try.func63, Try.ntmps63
  go_wp2_with fail
  refine hs.mono ?_
  rintro e w1 ⟨i, rfl, hd, hb⟩
  have HD := Lib.hid hd
  clear hs hd
  go_wp2
  go_ret2
  exact ⟨i, rfl, HD.out, hb⟩
end

section
open Go.RowKit Go.Sort

/-- What is asked of the pair at a place. -/
def okAt (l : List (Int × Int)) (i : Nat) : Bool :=
  atomB (prAt l i).1 && (atomB (prAt l i).2 && (decide ((prAt l i).1 ≠ (prAt l i).2) && (decide (i = 0) || decide ((prAt l (i - 1)).1 < (prAt l i).1))))

def orderB (l : List (Int × Int)) : Bool := (List.range l.length).all (okAt l)

theorem orderB_no {l : List (Int × Int)} {i : Nat} (hi : i < l.length) (h : okAt l i = false) : orderB l = false := by
  unfold orderB
  rw [List.all_eq_false]
  exact ⟨i, List.mem_range.2 hi, by simp [h]⟩

theorem orderB_yes {l : List (Int × Int)} (h : ∀ j, j < l.length → okAt l j = true) : orderB l = true := by
  unfold orderB
  rw [List.all_eq_true]
  exact fun x hx => h x (List.mem_range.1 hx)

theorem all_next {p : Nat → Bool} {k : Nat} (h : ∀ j, j < k → p j = true) (hk : p k = true) : ∀ j, j < k + 1 → p j = true := by
  intro j hj
  by_cases e : j = k
  · rw [e]; exact hk
  · exact h j (by omega)

set_option maxRecDepth 100000 in
set_option maxHeartbeats 2000000 in
theorem inOrder_any (A : Option Addr) (c : Nat) (l : List (Int × Int)) (w : World) (hA : PairsAt w A l) (hl : l.length ≤ 1099511627776) :
    Calls Try.prog 62 #[.slice A l.length c] w fun e w' => e = .returned (.bool (orderB l)) ∧ Below w.heap.size w w' := by
  go_enter Try.func62, Try.ntmps62
  go_wp2
  go_loopw [3, 4, 7] (fun _ _ i wr => ∃ k : Nat, k ≤ l.length ∧ i = .int .i64 k ∧ Hid (∀ j, j < k → okAt l j = true) ∧ Below w.heap.size w wr) (fun _ _ i _ => l.length - (intOf i).toNat)
  case atStart => exact ⟨0, Nat.zero_le _, rfl, fun j hj => absurd hj (by omega), Below.refl _ _⟩
  case round =>
    obtain ⟨k, hk, rfl, hq, hb⟩ := hrel
    by_cases hlt : k < l.length
    · obtain ⟨b1, o1, rfl, hb1, hc1⟩ := hA (by omega)
      obtain ⟨c1, c2⟩ := hc1 k hlt
      rw [← hb.cell (p := ⟨b1, _, none⟩) hb1] at c1 c2
      have hbs := hb.size
      by_cases hbad : (atomB (prAt l k).1 && (atomB (prAt l k).2 && decide ((prAt l k).1 ≠ (prAt l k).2))) = false
      · have hn : Hid (orderB l = false) := orderB_no hlt (by
          unfold okAt
          revert hbad
          cases atomB (prAt l k).1 <;> cases atomB (prAt l k).2 <;> cases decide ((prAt l k).1 ≠ (prAt l k).2) <;> simp)
        have hbW : Below w.heap.size w (wr.alloc (.cells #[.int .i64 (prAt l k).1, .int .i64 (prAt l k).2] 58)) := hb.alloc hb.size _
        generalize prAt l k = p1 at c1 c2 hbad hbW
        clear hq hc1 hA
        by_cases ha1 : atomB p1.1 = true
        · by_cases ha2 : atomB p1.2 = true
          · have ha3 : (p1.1 == p1.2) = true := by revert hbad; rw [ha1, ha2]; simp
            clear hbad
            go_wp2_with (go_at_call 49; refine (isAtom_any _ _).mono ?_; rintro e w' ⟨rfl, rfl⟩)
            go_ret
            exact ⟨bool_end hn.out.symm, hbW⟩
          · have ha2' : atomB p1.2 = false := by simpa using ha2
            clear hbad ha2
            go_wp2_with (go_at_call 49; refine (isAtom_any _ _).mono ?_; rintro e w' ⟨rfl, rfl⟩)
            go_ret
            exact ⟨bool_end hn.out.symm, hbW⟩
        · have ha1' : atomB p1.1 = false := by simpa using ha1
          clear hbad ha1
          go_wp2_with (go_at_call 49; refine (isAtom_any _ _).mono ?_; rintro e w' ⟨rfl, rfl⟩)
          go_ret
          exact ⟨bool_end hn.out.symm, hbW⟩
      · have ha1 : atomB (prAt l k).1 = true := by revert hbad; cases atomB (prAt l k).1 <;> simp
        have ha2 : atomB (prAt l k).2 = true := by revert hbad; cases atomB (prAt l k).2 <;> simp
        have ha3 : ((prAt l k).1 == (prAt l k).2) = false := by revert hbad; rw [ha1, ha2]; simp
        clear hbad
        by_cases hz : k = 0
        · subst hz
          have hn : Hid (∀ q, q < 0 + 1 → okAt l q = true) := all_next hq.out (by simp [okAt, ha1, ha2]; simpa using ha3)
          rw [Nat.zero_mul, Nat.add_zero] at c1 c2
          generalize prAt l 0 = p1 at c1 c2 ha1 ha2 ha3
          clear hq hc1 hA
          go_wp2_with (go_at_call 49; refine (isAtom_any _ _).mono ?_; rintro e w' ⟨rfl, rfl⟩)
          have hbW : Below w.heap.size w (wr.alloc (.cells #[.int .i64 p1.1, .int .i64 p1.2] 58)) := hb.alloc hb.size _
          generalize wr.alloc (.cells #[.int .i64 p1.1, .int .i64 p1.2] 58) = W1 at hbW ⊢
          clear c1 c2
          refine wp_region_quiet_below (by kernel_rfl) (by kernel_rfl) ?_
          repeat (any_goals (first | go_big_quiet_step (fail) | quiet_step (fail)))
          refine wpQuiet_nil ?_
          intro _ hw'
          obtain ⟨⟨dq, osq⟩, hw''⟩ := hw'
          subst hw''
          have hb3 := hbW.trans ((below_regrown W1 dq osq).mono hbW.size)
          generalize grow (redrawn W1 dq) osq = w2 at hb3 ⊢
          clear hbW
          go_wp2
          refine ⟨⟨0 + 1, by omega, by go_num, hn, hb3⟩, ?_⟩
          simp only [intOf]
          omega
        · obtain ⟨j, rfl⟩ : ∃ j, k = j + 1 := ⟨k - 1, by omega⟩
          obtain ⟨c3, _⟩ := hc1 j (by omega)
          rw [← hb.cell (p := ⟨b1, _, none⟩) hb1] at c3
          clear hc1 hA hz
          by_cases hp : (prAt l j).1 < (prAt l (j + 1)).1
          · have hn : Hid (∀ q, q < j + 1 + 1 → okAt l q = true) := all_next hq.out (by simp [okAt, ha1, ha2, hp]; simpa using ha3)
            generalize prAt l (j + 1) = p1 at c1 c2 ha1 ha2 ha3 hp
            generalize (prAt l j).1 = p2 at c3 hp
            clear hq
            go_wp2_with (go_at_call 49; refine (isAtom_any _ _).mono ?_; rintro e w' ⟨rfl, rfl⟩)
            have d0 : (wr.alloc (.cells #[.int .i64 p1.1, .int .i64 p1.2] 58)).cell? ⟨wr.heap.size, 0, none⟩ = some (.int .i64 p1.1) := by simp
            have d3 : (wr.alloc (.cells #[.int .i64 p1.1, .int .i64 p1.2] 58)).cell? ⟨b1, o1 + j * 2, none⟩ = some (.int .i64 p2) := by
              rw [World.cell?_alloc_lt _ _ _ (by show b1 < _; omega)]; exact c3
            have hbW : Below w.heap.size w (wr.alloc (.cells #[.int .i64 p1.1, .int .i64 p1.2] 58)) := hb.alloc hb.size _
            generalize wr.alloc (.cells #[.int .i64 p1.1, .int .i64 p1.2] 58) = W1 at d0 d3 hbW ⊢
            have q0 := fun d os => cell_regrown d0 d os
            have q3 := fun d os => cell_regrown d3 d os
            clear c1 c2 c3 d0 d3
            refine wp_region_quiet_below (by kernel_rfl) (by kernel_rfl) ?_
            repeat (any_goals (first | go_big_quiet_step (fail) | quiet_step (fail)))
            refine wpQuiet_nil ?_
            intro _ hw'
            obtain ⟨⟨dq, osq⟩, hw''⟩ := hw'
            subst hw''
            have hb3 := hbW.trans ((below_regrown W1 dq osq).mono hbW.size)
            generalize grow (redrawn W1 dq) osq = w2 at hb3 ⊢
            clear q0 q3 hbW
            go_wp2
            refine ⟨⟨j + 1 + 1, by omega, by go_num, hn, hb3⟩, ?_⟩
            simp only [intOf]
            omega
          · have hn : Hid (orderB l = false) := orderB_no hlt (by simp [okAt, hp])
            generalize prAt l (j + 1) = p1 at c1 c2 ha1 ha2 ha3 hp
            generalize (prAt l j).1 = p2 at c3 hp
            have hp' : p1.1 ≤ p2 := by omega
            clear hq hp
            go_wp2_with (go_at_call 49; refine (isAtom_any _ _).mono ?_; rintro e w' ⟨rfl, rfl⟩)
            have d0 : (wr.alloc (.cells #[.int .i64 p1.1, .int .i64 p1.2] 58)).cell? ⟨wr.heap.size, 0, none⟩ = some (.int .i64 p1.1) := by simp
            have d3 : (wr.alloc (.cells #[.int .i64 p1.1, .int .i64 p1.2] 58)).cell? ⟨b1, o1 + j * 2, none⟩ = some (.int .i64 p2) := by
              rw [World.cell?_alloc_lt _ _ _ (by show b1 < _; omega)]; exact c3
            have hbW : Below w.heap.size w (wr.alloc (.cells #[.int .i64 p1.1, .int .i64 p1.2] 58)) := hb.alloc hb.size _
            generalize wr.alloc (.cells #[.int .i64 p1.1, .int .i64 p1.2] 58) = W1 at d0 d3 hbW ⊢
            have q0 := fun d os => cell_regrown d0 d os
            have q3 := fun d os => cell_regrown d3 d os
            clear c1 c2 c3 d0 d3
            refine wp_region_quiet_below (by kernel_rfl) (by kernel_rfl) ?_
            repeat (any_goals (first | go_big_quiet_step (fail) | quiet_step (fail)))
            refine wpQuiet_nil ?_
            intro _ hw'
            obtain ⟨⟨dq, osq⟩, hw''⟩ := hw'
            subst hw''
            have hb3 := hbW.trans ((below_regrown W1 dq osq).mono hbW.size)
            generalize grow (redrawn W1 dq) osq = w2 at hb3 ⊢
            clear q0 q3 hbW
            go_wp2
            go_ret
            exact ⟨bool_end hn.out.symm, hb3⟩
    · have hn : Hid (orderB l = true) := orderB_yes fun j hj => hq.out j (by omega)
      clear hq
      go_wp2
      go_ret
      exact ⟨bool_end hn.out.symm, hb⟩
end
end Go.Proofs.Ytbfkfklaplgebaa
end

section
namespace Go.Proofs.Ytbfkfklaplgebaa
open Go.RowKit Go.Sort

def froms (l : List (Int × Int)) : List Int := l.map (·.1)
def tos (l : List (Int × Int)) : List Int := l.map (·.2)

theorem froms_at (l : List (Int × Int)) (i : Nat) (h : i < l.length) : (froms l)[i]? = some (prAt l i).1 := by
  simp [froms, prAt, h]
theorem tos_at (l : List (Int × Int)) (i : Nat) (h : i < l.length) : (tos l)[i]? = some (prAt l i).2 := by
  simp [tos, prAt, h]

theorem mem_froms {l : List (Int × Int)} {t : Int} : t ∈ froms l ↔ ∃ i, i < l.length ∧ (prAt l i).1 = t := by
  constructor
  · intro h
    obtain ⟨i, hi, e⟩ := List.getElem_of_mem h
    have hl : i < l.length := by simpa [froms] using hi
    refine ⟨i, hl, ?_⟩
    have h1 := froms_at l i hl
    rw [List.getElem?_eq_getElem hi, e] at h1
    injection h1 with h1
    exact h1.symm
  · rintro ⟨i, hi, rfl⟩
    exact List.mem_of_getElem? (froms_at l i hi)

theorem okAt_parts {l : List (Int × Int)} {i : Nat} (h : okAt l i = true) :
    (0 ≤ (prAt l i).1 ∧ (prAt l i).1 ≤ 999) ∧ (0 ≤ (prAt l i).2 ∧ (prAt l i).2 ≤ 999) ∧ (prAt l i).1 ≠ (prAt l i).2 ∧ (i = 0 ∨ (prAt l (i - 1)).1 < (prAt l i).1) := by
  simpa [okAt, atomB] using h

theorem order_at {l : List (Int × Int)} (h : orderB l = true) (i : Nat) (hi : i < l.length) : okAt l i = true := by
  unfold orderB at h
  rw [List.all_eq_true] at h
  exact h i (List.mem_range.2 hi)

theorem asc_of_order {l : List (Int × Int)} (h : orderB l = true) : Asc l := by
  intro i j hij hj
  induction j with
  | zero => omega
  | succ j ih =>
    have h1 := (okAt_parts (order_at h (j + 1) hj)).2.2.2
    rcases h1 with h1 | h1
    · omega
    · have e : j + 1 - 1 = j := by omega
      rw [e] at h1
      by_cases hc : i = j
      · rw [hc]; exact h1
      · have := ih (by omega) (by omega); omega

theorem found_iff {l : List (Int × Int)} {t : Int} {i : Nat} (hasc : Asc l) (hd : Divides l t i) : foundB l t i = (froms l).contains t := by
  rw [Bool.eq_iff_iff]
  simp only [foundB, decide_eq_true_eq, List.contains_iff_mem]
  rw [mem_froms]
  constructor
  · rintro ⟨h1, h2⟩
    exact ⟨i, h1, h2⟩
  · rintro ⟨q, hq, e⟩
    have h1 : i ≤ q := by
      rcases Nat.lt_or_ge q i with h | h
      · have := hd.2.1 q h; omega
      · exact h
    have h2 : i < l.length := by omega
    refine ⟨h2, ?_⟩
    have h3 := hd.2.2 i (Nat.le_refl _) h2
    by_cases hc : i = q
    · rw [hc]; exact e
    · have := hasc i q (by omega) hq; omega

/-- Which atoms of the pairs have been given by the first k. -/
def gBit (l : List (Int × Int)) (k q : Nat) : Bool := decide (q < l.length) && ((tos l).take k).contains (prAt l q).1
def gBits (l : List (Int × Int)) (k : Nat) : List Value := (List.range 40).map fun q => .bool (gBit l k q)

theorem gBits_at (l : List (Int × Int)) (k q : Nat) (h : q < 40) : (gBits l k)[q]? = some (.bool (gBit l k q)) := by
  simp [gBits, List.getElem?_map, List.getElem?_range h]

theorem gBits_set {l : List (Int × Int)} {k i : Nat} (hasc : Asc l) (hk : k < l.length) (hi : i < l.length) (e : (prAt l i).1 = (prAt l k).2) :
    (gBits l k).set i (.bool true) = gBits l (k + 1) := by
  have ht : (tos l).take (k + 1) = (tos l).take k ++ [(prAt l k).2] := by
    have hlt : k < (tos l).length := by simpa [tos] using hk
    rw [List.take_succ_eq_append_getElem hlt]
    have h1 := tos_at l k hk
    rw [List.getElem?_eq_getElem hlt] at h1
    injection h1 with h1
    rw [h1]
  apply List.ext_getElem?
  intro q
  by_cases hq : q < 40
  · rw [gBits_at l (k + 1) q hq, List.getElem?_set]
    by_cases hc : i = q
    · subst hc
      rw [if_pos rfl, if_pos (by simpa [gBits] using hq)]
      simp [gBit, hi, ht, e]
    · rw [if_neg hc, gBits_at l k q hq]
      by_cases hql : q < l.length
      · have hne : (prAt l q).1 ≠ (prAt l k).2 := by
          rw [← e]
          intro h
          rcases Nat.lt_or_gt_of_ne hc with h1 | h1
          · have := hasc i q h1 hql; omega
          · have := hasc q i h1 hi; omega
        simp [gBit, ht, hne]
      · simp [gBit, hql]
  · rw [List.getElem?_eq_none (by simp [gBits]; omega), List.getElem?_eq_none (by simp [gBits]; omega)]

theorem gBits_zero (l : List (Int × Int)) : gBits l 0 = List.replicate 40 (.bool false) := by
  apply List.ext_getElem?
  intro q
  by_cases hq : q < 40
  · rw [gBits_at l 0 q hq, List.getElem?_replicate, if_pos hq]
    simp [gBit]
  · rw [List.getElem?_eq_none (by simp [gBits]; omega), List.getElem?_eq_none (by simp; omega)]

def goodAt (l : List (Int × Int)) (k : Nat) : Bool := (froms l).contains (prAt l k).2 && !((tos l).take k).contains (prAt l k).2

/-- Whether a list of pairs is a permutation. -/
def permB (l : List (Int × Int)) : Bool := decide (l.length ≤ 40) && (orderB l && (List.range l.length).all (goodAt l))

theorem permB_no {l : List (Int × Int)} {i : Nat} (hi : i < l.length) (h : goodAt l i = false) : permB l = false := by
  unfold permB
  have : (List.range l.length).all (goodAt l) = false := by
    rw [List.all_eq_false]
    exact ⟨i, List.mem_range.2 hi, by simp [h]⟩
  rw [this]; simp

theorem permB_yes {l : List (Int × Int)} (h0 : l.length ≤ 40) (h1 : orderB l = true) (h : ∀ j, j < l.length → goodAt l j = true) : permB l = true := by
  unfold permB
  have : (List.range l.length).all (goodAt l) = true := by
    rw [List.all_eq_true]
    exact fun x hx => h x (List.mem_range.1 hx)
  rw [this, h1]; simp [h0]

/-- The block of marks after k pairs. -/
def Marks (w : World) (G : Nat) (l : List (Int × Int)) (k : Nat) : Prop := w.heap[G]? = some (.cells (gBits l k).toArray 84 (0, 0))

theorem Marks.lt {w : World} {G : Nat} {l : List (Int × Int)} {k : Nat} (h : Marks w G l k) : G < w.heap.size := (Array.getElem?_eq_some_iff.1 h).1
theorem Marks.cell {w : World} {G : Nat} {l : List (Int × Int)} {k : Nat} (h : Marks w G l k) (q : Nat) (hq : q < 40) : w.cell? ⟨G, q, none⟩ = some (.bool (gBit l k q)) := by
  rw [cell_of_row w G q _ _ _ h]
  simpa using gBits_at l k q hq
theorem Marks.frozen {w : World} {G : Nat} {l : List (Int × Int)} {k : Nat} (h : Marks w G l k) (q : Nat) : w.frozen? ⟨G, q, none⟩ = false := frozen_of_row w G q _ _ h
theorem Marks.below {w w' : World} {G : Nat} {l : List (Int × Int)} {k : Nat} (h : Marks w G l k) (hb : Below w.heap.size w w') : Marks w' G l k := (hb.block G h.lt).trans h
theorem Marks.alloc {w : World} {G : Nat} {l : List (Int × Int)} {k : Nat} (h : Marks w G l k) (o : Obj) : Marks (w.alloc o) G l k := h.below ((Below.refl _ _).alloc (Nat.le_refl _) o)
theorem Marks.set_ {w : World} {G : Nat} {l : List (Int × Int)} {k i : Nat} (h : Marks w G l k) (hasc : Asc l) (hk : k < l.length) (hi : i < l.length) (e : (prAt l i).1 = (prAt l k).2) :
    Marks (w.setCell ⟨G, i, none⟩ (.bool true)) G l (k + 1) := by
  unfold Marks at h ⊢
  rw [heap_setCell_same w G i _ _ _ h, ← gBits_set hasc hk hi e]
  simp

set_option maxRecDepth 100000 in
set_option maxHeartbeats 2000000 in
theorem isPerm_impl (A : Option Addr) (c : Nat) (l : List (Int × Int)) (w : World) (hA : PairsAt w A l) (hl : l.length ≤ 1099511627776) :
    Calls Try.prog 36 #[.slice A l.length c] w fun e w' => e = .returned (.bool (permB l)) ∧ Below w.heap.size w w' := by
  by_cases h40 : l.length ≤ 40
  · have hio := inOrder_any A c l w hA hl
    by_cases ho : orderB l = true
    · rw [ho] at hio
      have hasc := asc_of_order ho
      have HO := Lib.hid ho
      have HA := Lib.hid hasc
      clear ho hasc
      go_enter Try.func36, Try.ntmps36
      go_wp2_with fail
      refine hio.mono ?_
      rintro e w1 ⟨rfl, hb1⟩
      have k40 : decide (40 < (l.length : Int)) = false := by simp; omega
      clear hio
      go_wp2_with fail
      have hm0 : Marks (w1.alloc (.cells (gBits l 0).toArray 84)) w1.heap.size l 0 := heap_alloc_new w1 _
      rw [gBits_zero] at hm0
      have hb2 : Below w.heap.size w (w1.alloc (.cells (List.replicate 40 (Value.bool false)).toArray 84)) := hb1.alloc hb1.size _
      have e2 : w1.alloc (.cells (List.replicate 40 (Value.bool false)).toArray 84) = w1.alloc (.cells #[.bool false, .bool false, .bool false, .bool false, .bool false, .bool false, .bool false, .bool false, .bool false, .bool false, .bool false, .bool false, .bool false, .bool false, .bool false, .bool false, .bool false, .bool false, .bool false, .bool false, .bool false, .bool false, .bool false, .bool false, .bool false, .bool false, .bool false, .bool false, .bool false, .bool false, .bool false, .bool false, .bool false, .bool false, .bool false, .bool false, .bool false, .bool false, .bool false, .bool false] 84) := rfl
      rw [← e2]
      have hG : w.heap.size ≤ w1.heap.size := hb1.size
      generalize w1.alloc (.cells (List.replicate 40 (Value.bool false)).toArray 84) = w2 at hm0 hb2 ⊢
      clear e2 hb1
      generalize w1.heap.size = G at hm0 hG ⊢
      go_loopw [5, 6, 7, 18] (fun _ _ _ i wr => ∃ k : Nat, k ≤ l.length ∧ i = .int .i64 k ∧ Hid (∀ j, j < k → goodAt l j = true) ∧ Marks wr G l k ∧ Below w.heap.size w wr) (fun _ _ _ i _ => l.length - (intOf i).toNat)
      case atStart => exact ⟨0, Nat.zero_le _, rfl, fun j hj => absurd hj (by omega), hm0, hb2⟩
      case round =>
        clear hm0 hb2
        obtain ⟨k, hk, rfl, hq, hm, hb⟩ := hrel
        by_cases hlt : k < l.length
        · have hA1 := hA.below (w' := wr) (hb)
          obtain ⟨b1, o1, rfl, hb1, hc1⟩ := hA (by omega)
          obtain ⟨c1, c2⟩ := hc1 k hlt
          rw [← hb.cell (p := ⟨b1, _, none⟩) hb1] at c1 c2
          clear hc1 hA
          have hpl := fun W (hW : PairsAt W (some ⟨b1, o1, none⟩) l) => placeOf_any (some ⟨b1, o1, none⟩) c l (prAt l k).2 W hW hl HA.out
          have HG : Hid (goodAt l k = ((froms l).contains (prAt l k).2 && !((tos l).take k).contains (prAt l k).2)) := rfl
          generalize hp : prAt l k = p at c1 c2 hpl HG
          have HP := Lib.hid hp
          clear hp
          have hA2 : PairsAt (wr.alloc (.cells #[.int .i64 p.1, .int .i64 p.2] 58)) (some ⟨b1, o1, none⟩) l := hA1.below ((Below.refl _ _).alloc (Nat.le_refl _) _)
          have hm2 := hm.alloc (.cells #[.int .i64 p.1, .int .i64 p.2] 58)
          have hb2 := hb.alloc hb.size (.cells #[.int .i64 p.1, .int .i64 p.2] 58)
          clear hA1 hm
          go_wp2_with fail
          refine (hpl _ hA2).mono ?_
          rintro e w3 ⟨i, he, hd, hb3⟩
          have hfi := found_iff HA.out hd
          have hfp : foundB l p.2 i = true → i < l.length ∧ (prAt l i).1 = p.2 := fun h => by simpa [foundB] using h
          have hm3 := hm2.below hb3
          have hb4 := hb2.trans (hb3.mono hb2.size)
          clear hpl hA2 hm2 hb2 hb3 hd
          by_cases hfb : (froms l).contains p.2 = true
          · rw [hfb] at hfi
            obtain ⟨hi, hie⟩ := hfp hfi
            rw [hfi] at he
            subst he
            have hc := hm3.cell i (by omega)
            have hfz := hm3.frozen i
            have hgb : gBit l k i = ((tos l).take k).contains p.2 := by simp [gBit, hi, hie]
            have hst := hm3.set_ HA.out hlt hi (by rw [HP.out]; exact hie)
            have hst2 : Below w.heap.size w (w3.setCell ⟨G, i, none⟩ (.bool true)) := hb4.setCell hG _
            by_cases hg : ((tos l).take k).contains p.2 = true
            · have hn : Hid (permB l = false) := permB_no hlt (by rw [HG.out, hg]; simp)
              rw [hgb, hg] at hc
              clear hfp hfi hfb hgb hg hst hst2 hie hm3 hq HG
              go_wp2
              go_ret
              exact ⟨bool_end hn.out.symm, hb4⟩
            · have hg' : ((tos l).take k).contains p.2 = false := by simpa using hg
              have hn : Hid (∀ j, j < k + 1 → goodAt l j = true) := all_next hq.out (by rw [HG.out, hg', hfb]; rfl)
              rw [hgb, hg'] at hc
              clear hfp hfi hfb hgb hg hg' hie hm3 hq HG
              have HS := Lib.hid hst
              clear hst
              go_wp2
              refine ⟨⟨k + 1, by omega, by go_num, hn, HS.out, hst2⟩, ?_⟩
              simp only [intOf]
              omega
          · have hfb' : (froms l).contains p.2 = false := by simpa using hfb
            have hn : Hid (permB l = false) := permB_no hlt (by rw [HG.out, hfb']; rfl)
            rw [hfi, hfb'] at he
            subst he
            clear hfp hfi hfb hfb' hm3 hq HG
            go_wp2
            go_ret
            exact ⟨bool_end hn.out.symm, hb4⟩
        · have hn : Hid (permB l = true) := permB_yes h40 HO.out fun j hj => hq.out j (by omega)
          clear hq hm
          go_wp2
          go_ret
          exact ⟨bool_end hn.out.symm, hb⟩
    · have ho' : orderB l = false := by simpa using ho
      rw [ho'] at hio
      have hf : Hid (permB l = false) := by show permB l = false; unfold permB; rw [ho']; simp
      clear ho ho'
      go_enter Try.func36, Try.ntmps36
      go_wp2_with fail
      refine hio.mono ?_
      rintro e w1 ⟨rfl, hb1⟩
      go_wp2
      go_ret
      exact ⟨bool_end hf.out.symm, hb1⟩
  · have hf : Hid (permB l = false) := by show permB l = false; unfold permB; simp [h40]
    have h41 : 40 < l.length := by omega
    clear h40 hA
    go_enter Try.func36, Try.ntmps36
    go_wp2
    go_ret
    exact ⟨bool_end hf.out.symm, Below.refl _ _⟩

end Go.Proofs.Ytbfkfklaplgebaa
end

section
namespace Go.Proofs.Ytbfkfklaplgebaa
open Go.RowKit Go.Sort

theorem l1Atom_any (a : Int) (w : World) :
    Calls Try.prog 46 #[.int .i64 a] w fun e w' => e = .returned (.bool (atomB a)) ∧ w = w' := by
  by_cases h1 : 0 ≤ a
  · by_cases h2 : a ≤ 999
    · go_enter Try.func46, Try.ntmps46
      go_wp2
      go_ret
      exact ⟨bool_end (by simp [atomB, h1, h2]), rfl⟩
    · have k2 : decide (a ≤ 999) = false := by simpa using h2
      have k3 : 999 < a := by omega
      clear h2
      go_enter Try.func46, Try.ntmps46
      go_wp2
      go_ret
      exact ⟨bool_end (by simp [atomB]; omega), rfl⟩
  · have k1 : a < 0 := by omega
    clear h1
    go_enter Try.func46, Try.ntmps46
    go_wp2
    go_ret
    exact ⟨bool_end (by simp [atomB]; omega), rfl⟩

theorem l1Atom_below (a : Int) (w : World) :
    Calls Try.prog 46 #[.int .i64 a] w fun e w' => e = .returned (.bool (atomB a)) ∧ Below w.heap.size w w' :=
  (l1Atom_any a w).mono fun _ _ ⟨he, hw⟩ => ⟨he, hw ▸ Below.refl _ _⟩

/-- What the model asks of the pair at a place. -/
def okSAt (l : List (Int × Int)) (i : Nat) : Bool :=
  atomB (prAt l i).1 && (decide ((prAt l i).1 ≠ (prAt l i).2) && (decide (i = 0) || decide ((prAt l (i - 1)).1 < (prAt l i).1)))

def oneAt (l : List (Int × Int)) (i : Nat) : Bool := decide ((tos l).count (prAt l i).1 = 1)

def permSB (l : List (Int × Int)) : Bool := decide (l.length ≤ 40) && ((List.range l.length).all (okSAt l) && (List.range l.length).all (oneAt l))

theorem all_no {p : Nat → Bool} {n i : Nat} (hi : i < n) (h : p i = false) : (List.range n).all p = false := by
  rw [List.all_eq_false]
  exact ⟨i, List.mem_range.2 hi, by simp [h]⟩
theorem all_yes {p : Nat → Bool} {n : Nat} (h : ∀ j, j < n → p j = true) : (List.range n).all p = true := by
  rw [List.all_eq_true]
  exact fun x hx => h x (List.mem_range.1 hx)
theorem all_at {p : Nat → Bool} {n : Nat} (h : (List.range n).all p = true) (i : Nat) (hi : i < n) : p i = true := by
  rw [List.all_eq_true] at h
  exact h i (List.mem_range.2 hi)

theorem permSB_no1 {l : List (Int × Int)} {i : Nat} (hi : i < l.length) (h : okSAt l i = false) : permSB l = false := by
  unfold permSB; rw [all_no hi h]; simp
theorem permSB_no2 {l : List (Int × Int)} {i : Nat} (hi : i < l.length) (h : oneAt l i = false) : permSB l = false := by
  unfold permSB; rw [all_no hi h]; simp

/-- The same length, each element of the one without repetition in the other: the same elements. -/
theorem perm_of_subset : ∀ (xs ys : List Int), xs.Nodup → (∀ a, a ∈ xs → a ∈ ys) → ys.length ≤ xs.length → ys.Perm xs
  | [], ys, _, _, hl => by
    have : ys = [] := List.eq_nil_of_length_eq_zero (by simpa using hl)
    rw [this]
  | x :: r, ys, hn, hs, hl => by
    have hx : x ∈ ys := hs x List.mem_cons_self
    rw [List.nodup_cons] at hn
    have h1 : ys.Perm (x :: ys.erase x) := List.perm_cons_erase hx
    have h2 : (ys.erase x).Perm r := by
      refine perm_of_subset r (ys.erase x) hn.2 (fun a ha => ?_) ?_
      · have hne : a ≠ x := fun e => hn.1 (e ▸ ha)
        exact (List.mem_erase_of_ne hne).2 (hs a (List.mem_cons_of_mem _ ha))
      · rw [List.length_erase_of_mem hx]
        simp only [List.length_cons] at hl
        omega
    exact h1.trans (h2.cons x)

theorem nodup_of_get {l : List Int} (h : ∀ (i j : Nat) (a : Int), i < j → l[i]? = some a → l[j]? = some a → False) : l.Nodup := by
  rw [List.Nodup, List.pairwise_iff_getElem]
  intro i j hi hj hij e
  exact h i j l[i] hij (List.getElem?_eq_getElem hi) (by rw [List.getElem?_eq_getElem hj, e])

theorem asc_of {l : List (Int × Int)} (h : ∀ i, i < l.length → i = 0 ∨ (prAt l (i - 1)).1 < (prAt l i).1) : Asc l := by
  intro i j hij hj
  induction j with
  | zero => omega
  | succ j ih =>
    have h1 := h (j + 1) hj
    rcases h1 with h1 | h1
    · omega
    · have e : j + 1 - 1 = j := by omega
      rw [e] at h1
      by_cases hc : i = j
      · rw [hc]; exact h1
      · have := ih (by omega) (by omega); omega

theorem froms_nodup {l : List (Int × Int)} (h : Asc l) : (froms l).Nodup := by
  refine nodup_of_get fun i j a hij h1 h2 => ?_
  have hj : j < l.length := by
    rcases Nat.lt_or_ge j l.length with h3 | h3
    · exact h3
    · rw [List.getElem?_eq_none (by simpa [froms] using h3)] at h2; cases h2
  rw [froms_at l i (by omega)] at h1
  rw [froms_at l j hj] at h2
  have := h i j hij hj
  simp only [Option.some.injEq] at h1 h2
  omega

theorem mem_take_tos {l : List (Int × Int)} {k : Nat} {a : Int} (hk : k ≤ l.length) (h : a ∈ (tos l).take k) : ∃ j, j < k ∧ (prAt l j).2 = a := by
  obtain ⟨j, hj, e⟩ := List.getElem_of_mem h
  have hjk : j < k := by rw [List.length_take] at hj; omega
  refine ⟨j, hjk, ?_⟩
  have h1 := tos_at l j (by omega)
  have h2 : ((tos l).take k)[j]? = some a := by rw [List.getElem?_eq_getElem hj, e]
  rw [List.getElem?_take, if_pos hjk, h1] at h2
  injection h2

theorem take_tos_mem {l : List (Int × Int)} {j k : Nat} (hk : k ≤ l.length) (hj : j < k) : (prAt l j).2 ∈ (tos l).take k := by
  refine List.mem_of_getElem? (i := j) ?_
  rw [List.getElem?_take, if_pos hj]
  exact tos_at l j (by omega)

theorem okSAt_parts {l : List (Int × Int)} {i : Nat} (h : okSAt l i = true) :
    (0 ≤ (prAt l i).1 ∧ (prAt l i).1 ≤ 999) ∧ (prAt l i).1 ≠ (prAt l i).2 ∧ (i = 0 ∨ (prAt l (i - 1)).1 < (prAt l i).1) := by
  simpa [okSAt, atomB] using h

theorem perm_to (l : List (Int × Int)) (h : permSB l = true) : permB l = true := by
  unfold permSB at h
  simp only [Bool.and_eq_true, decide_eq_true_eq] at h
  obtain ⟨h40, hA, hB⟩ := h
  have hok := all_at hA
  have hone := all_at hB
  have hasc : Asc l := asc_of fun i hi => (okSAt_parts (hok i hi)).2.2
  have hP : (tos l).Perm (froms l) := by
    refine perm_of_subset _ _ (froms_nodup hasc) (fun a ha => ?_) (by simp [tos, froms])
    obtain ⟨i, hi, rfl⟩ := mem_froms.1 ha
    have h1 := hone i hi
    simp only [oneAt, decide_eq_true_eq] at h1
    exact List.count_pos_iff.1 (by omega)
  have hin : ∀ k, k < l.length → (prAt l k).2 ∈ froms l := fun k hk => hP.mem_iff.1 (List.mem_of_getElem? (tos_at l k hk))
  have hnd : (tos l).Nodup := hP.nodup_iff.2 (froms_nodup hasc)
  refine permB_yes h40 (orderB_yes fun j hj => ?_) fun j hj => ?_
  · have h1 := okSAt_parts (hok j hj)
    obtain ⟨q, hq, e⟩ := mem_froms.1 (hin j hj)
    have h2 := okSAt_parts (hok q hq)
    simp only [okAt, atomB, Bool.and_eq_true, decide_eq_true_eq, Bool.or_eq_true]
    rw [← e]
    exact ⟨h1.1, h2.1, by rw [e]; exact h1.2.1, h1.2.2⟩
  · unfold goodAt
    simp only [Bool.and_eq_true, List.contains_iff_mem, Bool.not_eq_true', ← Bool.not_eq_true]
    refine ⟨hin j hj, fun hc => ?_⟩
    obtain ⟨i, hij, e⟩ := mem_take_tos (by omega) hc
    rw [List.Nodup, List.pairwise_iff_getElem] at hnd
    have hli : i < (tos l).length := by simp [tos]; omega
    have hlj : j < (tos l).length := by simp [tos]; omega
    refine hnd i j hli hlj hij ?_
    have h1 := tos_at l i (by omega)
    have h2 := tos_at l j hj
    rw [List.getElem?_eq_getElem hli] at h1
    rw [List.getElem?_eq_getElem hlj] at h2
    injection h1 with h1
    injection h2 with h2
    rw [h1, h2, e]

theorem permB_parts {l : List (Int × Int)} (h : permB l = true) : l.length ≤ 40 ∧ orderB l = true ∧ ∀ j, j < l.length → goodAt l j = true := by
  unfold permB at h
  simp only [Bool.and_eq_true, decide_eq_true_eq] at h
  exact ⟨h.1, h.2.1, all_at h.2.2⟩

/-- What makes a permutation of a list of pairs. -/
theorem perm_tos {l : List (Int × Int)} (h : permB l = true) : (froms l).Perm (tos l) := by
  obtain ⟨h40, hO, hG⟩ := permB_parts h
  refine perm_of_subset _ _ (nodup_of_get fun i j a hij h1 h2 => ?_) (fun a ha => ?_) (by simp [tos, froms])
  · have hj : j < l.length := by
      rcases Nat.lt_or_ge j l.length with h3 | h3
      · exact h3
      · rw [List.getElem?_eq_none (by simpa [tos] using h3)] at h2; cases h2
    rw [tos_at l i (by omega)] at h1
    rw [tos_at l j hj] at h2
    simp only [Option.some.injEq] at h1 h2
    have h3 := hG j hj
    unfold goodAt at h3
    simp only [Bool.and_eq_true, Bool.not_eq_true', ← Bool.not_eq_true, List.contains_iff_mem] at h3
    exact h3.2 (by rw [h2, ← h1]; exact take_tos_mem (by omega) hij)
  · obtain ⟨i, hi, e⟩ := List.getElem_of_mem ha
    have hl : i < l.length := by simpa [tos] using hi
    have h1 := tos_at l i hl
    rw [List.getElem?_eq_getElem hi, e] at h1
    injection h1 with h1
    have h3 := hG i hl
    unfold goodAt at h3
    simp only [Bool.and_eq_true, List.contains_iff_mem] at h3
    rw [h1]
    exact h3.1

theorem perm_of (l : List (Int × Int)) (h : permB l = true) : permSB l = true := by
  obtain ⟨h40, hO, hG⟩ := permB_parts h
  have hP := perm_tos h
  have hasc := asc_of_order hO
  unfold permSB
  simp only [Bool.and_eq_true, decide_eq_true_eq]
  refine ⟨h40, all_yes fun j hj => ?_, all_yes fun j hj => ?_⟩
  · have h1 := okAt_parts (order_at hO j hj)
    simp only [okSAt, atomB, Bool.and_eq_true, decide_eq_true_eq, Bool.or_eq_true]
    exact ⟨h1.1, h1.2.2.1, h1.2.2.2⟩
  · simp only [oneAt, decide_eq_true_eq]
    rw [← hP.count_eq]
    have h1 := List.nodup_iff_count.1 (froms_nodup hasc) (prAt l j).1
    have h2 : 0 < (froms l).count (prAt l j).1 := List.count_pos_iff.2 (mem_froms.2 ⟨j, hj, rfl⟩)
    omega

theorem perm_same (l : List (Int × Int)) : permSB l = permB l := by
  rw [Bool.eq_iff_iff]
  exact ⟨perm_to l, perm_of l⟩

theorem count_next {l : List (Int × Int)} {q : Nat} {a : Int} (hq : q < l.length) :
    ((tos l).take (q + 1)).count a = ((tos l).take q).count a + if (prAt l q).2 = a then 1 else 0 := by
  have hlt : q < (tos l).length := by simpa [tos] using hq
  rw [List.take_succ_eq_append_getElem hlt]
  have h1 := tos_at l q hq
  rw [List.getElem?_eq_getElem hlt] at h1
  injection h1 with h1
  rw [h1, List.count_append]
  simp [List.count_singleton]

set_option maxRecDepth 100000 in
set_option maxHeartbeats 4000000 in
theorem isPerm_spec (A : Option Addr) (c : Nat) (l : List (Int × Int)) (w : World) (hA : PairsAt w A l) (hl : l.length ≤ 1099511627776) :
    Calls Try.prog 31 #[.slice A l.length c] w fun e w' => e = .returned (.bool (permSB l)) ∧ Below w.heap.size w w' := by
  by_cases h40 : l.length ≤ 40
  · go_enter Try.func31, Try.ntmps31
    go_wp2
    go_loopw [3] (fun i wr => ∃ k : Nat, k ≤ l.length ∧ i = .int .i64 k ∧ Hid (∀ j, j < k → okSAt l j = true) ∧ Below w.heap.size w wr) (fun i _ => l.length - (intOf i).toNat)
    case atStart => exact ⟨0, Nat.zero_le _, rfl, fun j hj => absurd hj (by omega), Below.refl _ _⟩
    case round =>
      obtain ⟨k, hk, rfl, hq, hb⟩ := hrel
      by_cases hlt : k < l.length
      · obtain ⟨b1, o1, rfl, hb1, hc1⟩ := hA (by omega)
        obtain ⟨c1, c2⟩ := hc1 k hlt
        rw [← hb.cell (p := ⟨b1, _, none⟩) hb1] at c1 c2
        by_cases ha1 : atomB (prAt l k).1 = true
        · by_cases ha3 : ((prAt l k).1 == (prAt l k).2) = true
          · have hn : Hid (permSB l = false) := permSB_no1 hlt (by simp only [beq_iff_eq] at ha3; simp [okSAt, ha3])
            generalize prAt l k = p1 at c1 c2 ha1 ha3
            have q1 := fun d os => cell_regrown c1 d os
            have q2 := fun d os => cell_regrown c2 d os
            clear hc1 hA hq c1 c2
            go_wp2_with fail
            refine wp_region_quiet_below (by kernel_rfl) (by kernel_rfl) ?_
            repeat (any_goals (first | go_big_quiet_step ((go_at_call 46; exact Calls.regrown_of (l1Atom_below _ _))) | quiet_step ((go_at_call 46; exact Calls.regrown_of (l1Atom_below _ _)))))
            refine wpQuiet_nil ?_
            intro _ hw'
            obtain ⟨⟨dq, osq⟩, hw''⟩ := hw'
            subst hw''
            have hb3 := hb.trans ((below_regrown wr dq osq).mono hb.size)
            generalize grow (redrawn wr dq) osq = w2 at hb3 ⊢
            clear q1 q2 hb
            go_wp2
            go_ret
            exact ⟨bool_end hn.out.symm, hb3⟩
          · have ha4 : ((prAt l k).1 == (prAt l k).2) = false := by simpa using ha3
            clear ha3
            by_cases hz : k = 0
            · subst hz
              have hn : Hid (∀ q, q < 0 + 1 → okSAt l q = true) := all_next hq.out (by simp [okSAt, ha1]; simpa using ha4)
              rw [Nat.zero_mul, Nat.add_zero] at c1 c2
              generalize prAt l 0 = p1 at c1 c2 ha1 ha4
              have q1 := fun d os => cell_regrown c1 d os
              have q2 := fun d os => cell_regrown c2 d os
              clear hc1 hA hq c1 c2
              go_wp2_with fail
              refine wp_region_quiet_below (by kernel_rfl) (by kernel_rfl) ?_
              repeat (any_goals (first | go_big_quiet_step ((go_at_call 46; exact Calls.regrown_of (l1Atom_below _ _))) | quiet_step ((go_at_call 46; exact Calls.regrown_of (l1Atom_below _ _)))))
              refine wpQuiet_nil ?_
              intro _ hw'
              obtain ⟨⟨dq, osq⟩, hw''⟩ := hw'
              subst hw''
              have hb3 := hb.trans ((below_regrown wr dq osq).mono hb.size)
              generalize grow (redrawn wr dq) osq = w2 at hb3 ⊢
              clear q1 q2 hb
              go_wp2
              refine ⟨⟨0 + 1, by omega, by go_num, hn, hb3⟩, ?_⟩
              simp only [intOf]
              omega
            · obtain ⟨j, rfl⟩ : ∃ j, k = j + 1 := ⟨k - 1, by omega⟩
              obtain ⟨c3, _⟩ := hc1 j (by omega)
              rw [← hb.cell (p := ⟨b1, _, none⟩) hb1] at c3
              by_cases hp : (prAt l j).1 < (prAt l (j + 1)).1
              · have hn : Hid (∀ q, q < j + 1 + 1 → okSAt l q = true) := all_next hq.out (by simp [okSAt, ha1, hp]; simpa using ha4)
                generalize prAt l (j + 1) = p1 at c1 c2 ha1 ha4 hp
                generalize (prAt l j).1 = p2 at c3 hp
                have q1 := fun d os => cell_regrown c1 d os
                have q2 := fun d os => cell_regrown c2 d os
                have q3 := fun d os => cell_regrown c3 d os
                clear hc1 hA hq c1 c2 c3 hz
                go_wp2_with fail
                refine wp_region_quiet_below (by kernel_rfl) (by kernel_rfl) ?_
                repeat (any_goals (first | go_big_quiet_step ((go_at_call 46; exact Calls.regrown_of (l1Atom_below _ _))) | quiet_step ((go_at_call 46; exact Calls.regrown_of (l1Atom_below _ _)))))
                refine wpQuiet_nil ?_
                intro _ hw'
                obtain ⟨⟨dq, osq⟩, hw''⟩ := hw'
                subst hw''
                have hb3 := hb.trans ((below_regrown wr dq osq).mono hb.size)
                generalize grow (redrawn wr dq) osq = w2 at hb3 ⊢
                clear q1 q2 q3 hb
                go_wp2
                refine ⟨⟨j + 1 + 1, by omega, by go_num, hn, hb3⟩, ?_⟩
                simp only [intOf]
                omega
              · have hn : Hid (permSB l = false) := permSB_no1 hlt (by simp [okSAt, hp])
                generalize prAt l (j + 1) = p1 at c1 c2 ha1 ha4 hp
                generalize (prAt l j).1 = p2 at c3 hp
                have hp' : p1.1 ≤ p2 := by omega
                have q1 := fun d os => cell_regrown c1 d os
                have q2 := fun d os => cell_regrown c2 d os
                have q3 := fun d os => cell_regrown c3 d os
                clear hc1 hA hq c1 c2 c3 hz hp
                go_wp2_with fail
                refine wp_region_quiet_below (by kernel_rfl) (by kernel_rfl) ?_
                repeat (any_goals (first | go_big_quiet_step ((go_at_call 46; exact Calls.regrown_of (l1Atom_below _ _))) | quiet_step ((go_at_call 46; exact Calls.regrown_of (l1Atom_below _ _)))))
                refine wpQuiet_nil ?_
                intro _ hw'
                obtain ⟨⟨dq, osq⟩, hw''⟩ := hw'
                subst hw''
                have hb3 := hb.trans ((below_regrown wr dq osq).mono hb.size)
                generalize grow (redrawn wr dq) osq = w2 at hb3 ⊢
                clear q1 q2 q3 hb
                go_wp2
                go_ret
                exact ⟨bool_end hn.out.symm, hb3⟩
        · have ha2 : atomB (prAt l k).1 = false := by simpa using ha1
          have hn : Hid (permSB l = false) := permSB_no1 hlt (by simp [okSAt, ha2])
          generalize prAt l k = p1 at c1 c2 ha1 ha2
          have q1 := fun d os => cell_regrown c1 d os
          clear hc1 hA hq c1 c2 ha1
          go_wp2_with fail
          refine wp_region_quiet_below (by kernel_rfl) (by kernel_rfl) ?_
          repeat (any_goals (first | go_big_quiet_step ((go_at_call 46; exact Calls.regrown_of (l1Atom_below _ _))) | quiet_step ((go_at_call 46; exact Calls.regrown_of (l1Atom_below _ _)))))
          refine wpQuiet_nil ?_
          intro _ hw'
          obtain ⟨⟨dq, osq⟩, hw''⟩ := hw'
          subst hw''
          have hb3 := hb.trans ((below_regrown wr dq osq).mono hb.size)
          generalize grow (redrawn wr dq) osq = w2 at hb3 ⊢
          clear q1 hb
          go_wp2
          go_ret
          exact ⟨bool_end hn.out.symm, hb3⟩
      · have hok : Hid (∀ j, j < l.length → okSAt l j = true) := fun j hj => hq.out j (by omega)
        obtain ⟨wo, rfl⟩ : ∃ wo : World, wo = wr := ⟨_, rfl⟩
        clear hq
        go_wp2
        go_loopw [4, 5, 6] (fun i _ _ wr => ∃ k : Nat, k ≤ l.length ∧ i = .int .i64 k ∧ Hid (∀ j, j < k → oneAt l j = true) ∧ Below w.heap.size w wr) (fun i _ _ _ => l.length - (intOf i).toNat)
        case atStart => exact ⟨0, Nat.zero_le _, rfl, fun j hj => absurd hj (by omega), hb⟩
        case round =>
          clear hb
          obtain ⟨k2, hk2, rfl, hq2, hb⟩ := hrel
          by_cases hlt2 : k2 < l.length
          · obtain ⟨b1, o1, rfl, hb1, hc1⟩ := hA (by omega)
            obtain ⟨d1, _⟩ := hc1 k2 hlt2
            have HC := Lib.hid hc1
            have hn1 : Hid (oneAt l k2 = decide ((tos l).count (prAt l k2).1 = 1)) := rfl
            clear hc1 hA
            generalize (prAt l k2).1 = a at d1 hn1
            obtain ⟨wo2, rfl⟩ : ∃ wo : World, wo = wr := ⟨_, rfl⟩
            go_wp2
            go_loopw [5, 6] (fun cn q wr => ∃ q' : Nat, q' ≤ l.length ∧ q = .int .i64 q' ∧ cn = .int .i64 (((tos l).take q').count a : Nat) ∧ Below w.heap.size w wr) (fun _ q _ => l.length - (intOf q).toNat)
            case atStart => exact ⟨0, Nat.zero_le _, rfl, by simp, hb⟩
            case round =>
              obtain ⟨wi, rfl⟩ : ∃ wi : World, wi = wr := ⟨_, rfl⟩
              clear hb
              obtain ⟨q', hq', rfl, rfl, hbi⟩ := hrel
              by_cases hlt3 : q' < l.length
              · obtain ⟨_, e2⟩ := HC.out q' hlt3
                have e1 := d1
                rw [← hbi.cell (p := ⟨b1, _, none⟩) hb1] at e1 e2
                have q1 := fun d os => cell_regrown e1 d os
                have q2 := fun d os => cell_regrown e2 d os
                have hcn := count_next (a := a) hlt3
                have hcle : ((tos l).take q').count a ≤ q' := Nat.le_trans List.count_le_length (by rw [List.length_take]; omega)
                generalize ((tos l).take q').count a = m at hcn hcle ⊢
                by_cases ht : ((prAt l q').2 == a) = true
                · have hcn' : Hid (((tos l).take (q' + 1)).count a = m + 1) := by
                    show ((tos l).take (q' + 1)).count a = m + 1
                    rw [hcn, if_pos (by simpa using ht)]
                  generalize (prAt l q').2 = t at ht q2 e2
                  clear hcn e1 e2
                  go_wp2
                  refine wp_region_quiet_below (by kernel_rfl) (by kernel_rfl) ?_
                  repeat (any_goals (first | go_big_quiet_step (fail) | quiet_step (fail)))
                  refine wpQuiet_nil ?_
                  intro _ hw'
                  obtain ⟨⟨dq, osq⟩, hw''⟩ := hw'
                  subst hw''
                  have hb3 := hbi.trans ((below_regrown wi dq osq).mono hbi.size)
                  generalize grow (redrawn wi dq) osq = w2 at hb3 ⊢
                  clear q1 q2 hbi
                  go_wp2
                  refine ⟨⟨q' + 1, by omega, by go_num, by rw [hcn'.out]; go_num, hb3⟩, ?_⟩
                  simp only [intOf]
                  omega
                · have ht' : ((prAt l q').2 == a) = false := by simpa using ht
                  have hcn' : Hid (((tos l).take (q' + 1)).count a = m) := by
                    show ((tos l).take (q' + 1)).count a = m
                    rw [hcn, if_neg (by simpa using ht)]
                    rfl
                  generalize (prAt l q').2 = t at ht ht' q2 e2
                  clear hcn e1 e2 ht
                  go_wp2
                  refine wp_region_quiet_below (by kernel_rfl) (by kernel_rfl) ?_
                  repeat (any_goals (first | go_big_quiet_step (fail) | quiet_step (fail)))
                  refine wpQuiet_nil ?_
                  intro _ hw'
                  obtain ⟨⟨dq, osq⟩, hw''⟩ := hw'
                  subst hw''
                  have hb3 := hbi.trans ((below_regrown wi dq osq).mono hbi.size)
                  generalize grow (redrawn wi dq) osq = w2 at hb3 ⊢
                  clear q1 q2 hbi
                  go_wp2
                  refine ⟨⟨q' + 1, by omega, by go_num, by rw [hcn'.out], hb3⟩, ?_⟩
                  simp only [intOf]
                  omega
              · have hall : Hid (((tos l).take q').count a = (tos l).count a) := by
                  show ((tos l).take q').count a = (tos l).count a
                  rw [List.take_of_length_le (by simp [tos]; omega)]
                rw [hall.out]
                have hcle : (tos l).count a ≤ l.length := Nat.le_trans List.count_le_length (by simp [tos])
                by_cases h1 : (tos l).count a = 1
                · have hn2 : Hid (∀ j, j < k2 + 1 → oneAt l j = true) := all_next hq2.out (by rw [hn1.out, h1]; rfl)
                  have t1 : (((tos l).count a : Int) != 1) = false := by rw [h1]; rfl
                  generalize (tos l).count a = m at t1 ⊢
                  clear h1 hall hn1 hq2 hcle
                  go_wp2
                  refine ⟨⟨k2 + 1, by omega, by go_num, hn2, hbi⟩, ?_⟩
                  simp only [intOf]
                  omega
                · have hn2 : Hid (permSB l = false) := permSB_no2 hlt2 (by rw [hn1.out]; simpa using h1)
                  have t1 : (((tos l).count a : Int) != 1) = true := by simp; omega
                  generalize (tos l).count a = m at t1 ⊢
                  clear h1 hall hn1 hq2 hcle
                  go_wp2
                  go_ret
                  exact ⟨bool_end hn2.out.symm, hbi⟩
          · have hn2 : Hid (permSB l = true) := by
              show permSB l = true
              unfold permSB
              rw [all_yes hok.out, all_yes fun j hj => hq2.out j (by omega)]
              simp [h40]
            clear hq2
            go_wp2
            go_ret
            exact ⟨bool_end hn2.out.symm, hb⟩
  · have hf : Hid (permSB l = false) := by show permSB l = false; unfold permSB; simp [h40]
    have h41 : 40 < l.length := by omega
    clear h40 hA
    go_enter Try.func31, Try.ntmps31
    go_wp2
    go_ret
    exact ⟨bool_end hf.out.symm, Below.refl _ _⟩

end Go.Proofs.Ytbfkfklaplgebaa
end

