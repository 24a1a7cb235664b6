/-
  The laws' own comparison of two values that read as the same term, as contracts. Index terms: their sizes, copies and comparison in the laws, as contracts. What is an index term, in the model, as contracts.
-/
import Derived.Test.YtihijigbdpjcoaaKStepIndices1
import Derived.Test.YtihijigbdpjcoaaKStepIndices3
import Derived.Deep.RegionHeld3
import Derived.Deep.DrawnRows
section
namespace Go.Proofs.Ytihijigbdpjcoaa
open Go.RowKit Go.Sort

/-- Yes, and new blocks at most. -/
def YesPost (w : World) (e : Ending) (w' : World) : Prop := e = .returned (.bool true) ∧ Below w.heap.size w w'

theorem Calls.regrown_yes {f : FuncId} {args : Array Value} {w : World} {d : Nat} {os : Array Obj} (h : Calls Try.prog f args (grow (redrawn w d) os) (YesPost (grow (redrawn w d) os))) :
    Calls Try.prog f args (grow (redrawn w d) os) fun e w'' => e = .returned (.bool true) ∧ ∃ p : Regrown, w'' = grow (redrawn w p.d) p.os := Calls.regrown_of h

end Go.Proofs.Ytihijigbdpjcoaa
end

section
namespace Go.Proofs.Ytihijigbdpjcoaa
open Go.RowKit Go.Sort
set_option linter.unusedVariables false

set_option maxRecDepth 100000 in
set_option maxHeartbeats 1000000 in
theorem szIndex_of (t : Ix) (x : Value) (w : World) (left : Int) (h0 : 0 ≤ left) (h1 : left ≤ 1099511627776) (hx : IxIn w x t)
    (ih : ∀ (left' : Int) (w' : World) (y : Value), 0 ≤ left' → left' ≤ 1099511627776 → IxsIn w' y t.kids → Calls Try.prog 48 #[y, .int .i64 left'] w' (LeftPost left' (t.kids.length + sumIx t.kids) w')) :
    Calls Try.prog 15 #[x, .int .i64 left] w (LeftPost left (cntIx t) w) := by
  obtain ⟨B, d, rfl, hk⟩ := hx
  rw [cntIx_eq]
  have hb0 : Below w.heap.size w (w.alloc (.cells #[.int .i64 t.op, .int .i64 t.num, .slice B t.kids.length d] 37)) := (Below.refl _ _).alloc (Nat.le_refl _) _
  have hih := ih left _ _ h0 h1 (hk.below hb0)
  clear ih hk
  generalize t.kids.length + sumIx t.kids = kc at *
  by_cases h3 : (kc : Int) ≤ left
  · have hl3 : ¬ left - (kc : Int) < 0 := by omega
    have hr : Hid (leftR left kc = left - kc) := leftR_yes h3
    unfold LeftPost at hih
    rw [leftR_yes h3] at hih
    go_enter Try.func15, Try.ntmps15
    go_wp2_with fail
    refine hih.mono ?_
    rintro e w1 ⟨rfl, hb1⟩
    have hpost : LeftPost left kc w (.returned (.int .i64 (left - kc))) w1 := ⟨by rw [hr.out], hb0.trans (hb1.mono hb0.size)⟩
    clear hih hb0 hb1 hr
    go_wp2
    go_ret
    exact hpost
  · have hr : Hid (leftR left kc = -1) := leftR_no h3
    unfold LeftPost at hih
    rw [leftR_no h3] at hih
    go_enter Try.func15, Try.ntmps15
    go_wp2_with fail
    refine hih.mono ?_
    rintro e w1 ⟨rfl, hb1⟩
    have hpost : LeftPost left kc w (.returned (.int .i64 (-1))) w1 := ⟨by rw [hr.out], hb0.trans (hb1.mono hb0.size)⟩
    clear hih hb0 hb1 hr
    go_wp2
    go_ret
    exact hpost

set_option maxRecDepth 100000 in
set_option maxHeartbeats 2000000 in
theorem szIndexS_step (ts : List Ix) (hlen : ts.length ≤ maxLen) (left : Int) (w : World) (x : Value) (h0 : 0 ≤ left) (h1 : left ≤ 1099511627776) (hx : IxsIn w x ts)
    (ih : ∀ i, i < ts.length → ∀ (left' : Int) (w' : World) (y : Value), 0 ≤ left' → left' ≤ 1099511627776 → IxsIn w' y (ixAt ts i).kids → Calls Try.prog 48 #[y, .int .i64 left'] w' (LeftPost left' ((ixAt ts i).kids.length + sumIx (ixAt ts i).kids) w')) :
    Calls Try.prog 48 #[x, .int .i64 left] w (LeftPost left (ts.length + sumIx ts) w) := by
  obtain ⟨A, c, rfl⟩ := hx.form
  unfold maxLen at hlen
  by_cases h2 : (ts.length : Int) ≤ left
  · have hl2 : ¬ left - (ts.length : Int) < 0 := by omega
    go_enter Try.func48, Try.ntmps48
    go_wp2
    go_loopw [1, 5] (fun l i wr => ∃ k : Nat, k ≤ ts.length ∧ i = .int .i64 k ∧ l = .int .i64 (left - ts.length - sumIx (ts.take k)) ∧ (sumIx (ts.take k) : Int) ≤ left - ts.length ∧ Below w.heap.size w wr) (fun _ i _ => ts.length - (intOf i).toNat)
    case atStart => exact ⟨0, Nat.zero_le _, rfl, by simp [sumIx], by simp [sumIx]; omega, Below.refl _ _⟩
    case round =>
      obtain ⟨k, hk, rfl, rfl, hle, hb⟩ := hrel
      by_cases hlt : k < ts.length
      · have hxr := hx.below hb
        obtain ⟨b, off, rfl, hbl, hget⟩ := hxr.get (by omega)
        obtain ⟨B1, e1, d0, d1, d2, hk1⟩ := hget k hlt
        have hct := szIndex_of (ixAt ts k) _ wr (left - ts.length - sumIx (ts.take k)) (by omega) (by omega) ⟨B1, e1, rfl, hk1⟩ (ih k hlt)
        have hnx := Lib.hid (sumIx_next hlt)
        have hst := sumIx_take ts (k + 1)
        generalize hc : cntIx (ixAt ts k) = cc at hct hnx
        generalize hs : sumIx (ts.take k) = s at hct hnx hle
        generalize ixAt ts k = tk at *
        clear hget hk1 hx hxr ih hc hs
        by_cases h3 : (cc : Int) ≤ left - ts.length - s
        · have hl3 : ¬ left - (ts.length : Int) - (s : Int) - (cc : Int) < 0 := by omega
          unfold LeftPost at hct
          rw [leftR_yes h3] at hct
          have hse : Hid (((sumIx (ts.take (k + 1)) : Nat) : Int) = s + cc) := by show ((sumIx (ts.take (k + 1)) : Nat) : Int) = s + cc; rw [hnx.out]; omega
          clear hst
          go_wp2_with fail
          refine hct.mono ?_
          rintro e w2 ⟨rfl, hb2⟩
          have hb3 := hb.trans (hb2.mono hb.size)
          clear hct hb2 d0 d1 d2
          go_wp2
          refine ⟨⟨k + 1, by omega, by go_num, by rw [hse.out]; go_num, by rw [hse.out]; omega, hb3⟩, ?_⟩
          simp only [intOf]
          omega
        · unfold LeftPost at hct
          rw [leftR_no h3] at hct
          have hr : Hid (leftR left (ts.length + sumIx ts) = -1) := by
            show leftR left (ts.length + sumIx ts) = -1
            refine leftR_no ?_
            have := hnx.out
            omega
          clear hst
          go_wp2_with fail
          refine hct.mono ?_
          rintro e w2 ⟨rfl, hb2⟩
          have hpost : LeftPost left (ts.length + sumIx ts) w (.returned (.int .i64 (-1))) w2 := ⟨by rw [hr.out], hb.trans (hb2.mono hb.size)⟩
          clear hct hb2 d0 d1 d2 hr hb
          go_wp2
          go_ret
          exact hpost
      · have e : k = ts.length := by omega
        have hr : Hid (left - ts.length - sumIx (ts.take k) = leftR left (ts.length + sumIx ts)) := by
          show left - ts.length - sumIx (ts.take k) = leftR left (ts.length + sumIx ts)
          rw [List.take_of_length_le (by omega)] at hle ⊢
          rw [leftR_yes (by omega)]
          omega
        have hpost : LeftPost left (ts.length + sumIx ts) w (.returned (.int .i64 (left - ts.length - sumIx (ts.take k)))) wr := ⟨by rw [hr.out], hb⟩
        clear hx ih e hr hb
        go_wp2
        go_ret
        exact hpost
  · have hl2 : left - (ts.length : Int) < 0 := by omega
    have hpost : LeftPost left (ts.length + sumIx ts) w (.returned (.int .i64 (-1))) w := ⟨by rw [leftR_no (by omega)], Below.refl _ _⟩
    clear ih hx
    go_enter Try.func48, Try.ntmps48
    go_wp2
    go_ret
    exact hpost

theorem szIndexS_any : ∀ (N : Nat) (ts : List Ix), szIxs ts ≤ N → ShortIxs ts → ts.length ≤ maxLen → ∀ (left : Int) (w : World) (x : Value), 0 ≤ left → left ≤ 1099511627776 → IxsIn w x ts →
    Calls Try.prog 48 #[x, .int .i64 left] w (LeftPost left (ts.length + sumIx ts) w) := by
  intro N
  induction N with
  | zero =>
    intro ts hN hsh hlen left w x h0 h1 hx
    exact szIndexS_step ts hlen left w x h0 h1 hx fun i hi => absurd (szIxs_kid hi) (by omega)
  | succ N ih =>
    intro ts hN hsh hlen left w x h0 h1 hx
    refine szIndexS_step ts hlen left w x h0 h1 hx fun i hi left' w' y g0 g1 hy => ?_
    have h2 := (shortIx_eq _).1 (shortIxs_at hsh hi)
    exact ih _ (by have := szIxs_kid hi; omega) h2.2 h2.1 left' w' y g0 g1 hy
theorem szIndex_any (t : Ix) (hs : ShortIx t) (left : Int) (w : World) (x : Value) (h0 : 0 ≤ left) (h1 : left ≤ 1099511627776) (hx : IxIn w x t) :
    Calls Try.prog 15 #[x, .int .i64 left] w (LeftPost left (cntIx t) w) := by
  have h2 := (shortIx_eq _).1 hs
  exact szIndex_of t x w left h0 h1 hx fun l' w' y g0 g1 hy => szIndexS_any _ t.kids (Nat.le_refl _) h2.2 h2.1 l' w' y g0 g1 hy

namespace IxK
theorem row3 {w : World} {g : Nat} {a b c : Value} {T : TypeId} (h : w.heap[g]? = some (.cells #[a, b, c] T (0, 0))) : w.cell? ⟨g, 0, none⟩ = some a ∧ w.cell? ⟨g, 1, none⟩ = some b ∧ w.cell? ⟨g, 2, none⟩ = some c := by
  refine ⟨?_, ?_, ?_⟩ <;> rw [cell_of_row w g _ _ _ _ h] <;> rfl
end IxK

/-- A slice of index terms of the call's own. -/
def IxsOut (ts : List Ix) (w : World) (e : Ending) (w' : World) : Prop :=
  ∃ v S, e = .returned v ∧ Own w' S v (ixsMem ts) ∧ (∀ b ∈ S, w.heap.size ≤ b) ∧ Below w.heap.size w w'
/-- A formula whose slice is of the call's own. -/
def IxOut (t : Ix) (w : World) (e : Ending) (w' : World) : Prop :=
  ∃ A2 c2 S, e = .returned (.agg #[.int .i64 t.op, .int .i64 t.num, .slice A2 t.kids.length c2]) ∧
    OwnL w' S [.int .i64 t.op, .int .i64 t.num, .slice A2 t.kids.length c2] (encIx t) ∧ (∀ b ∈ S, w.heap.size ≤ b) ∧ Below w.heap.size w w'
theorem ownL_ix {w : World} {t : Ix} {kv : Value} {T : List Nat} (k : Own w T kv (ixsMem t.kids)) : OwnL w (T ++ []) [.int .i64 t.op, .int .i64 t.num, kv] (encIx t) := by
  rw [encIx_eq]
  exact .cons (S := []) (.cell _) (.cons (S := []) (.cell _) (.cons k .nil (fun b _ => by simp)) (fun b hb => by simp at hb)) (fun b hb => by simp at hb)
theorem ixOut_in {w : World} {S : List Nat} {t : Ix} {A : Option Addr} {c : Nat} (h : OwnL w S [.int .i64 t.op, .int .i64 t.num, .slice A t.kids.length c] (encIx t)) :
    IxIn w (.agg #[.int .i64 t.op, .int .i64 t.num, .slice A t.kids.length c]) t := by
  have h1 := h.at_
  rw [encIx_eq] at h1
  cases h1 with
  | cons _ h1 => cases h1 with
    | cons _ h1 => cases h1 with
      | cons h3 _ => exact ⟨A, c, rfl, h3⟩

set_option maxRecDepth 100000 in
set_option maxHeartbeats 2000000 in
theorem toIndex_of (t : Ix) (x : Value) (w : World) (hx : IxIn w x t)
    (ih : ∀ (w' : World) (y : Value), IxsIn w' y t.kids → Calls Try.prog 51 #[y] w' (IxsOut t.kids w')) :
    Calls Try.prog 17 #[x] w (IxOut t w) := by
  obtain ⟨B, d, rfl, hk⟩ := hx
  have hb0 : Below w.heap.size w (((w.alloc (.cells #[.int .i64 t.op, .int .i64 t.num, .slice B t.kids.length d] 37)).alloc (.cells #[.int .i64 0, .int .i64 0, .slice none 0 0] 42)).alloc (.cells #[.int .i64 t.op, .int .i64 t.num, .slice none 0 0] 42)) :=
    (((Below.refl _ _).alloc (Nat.le_refl _) _).alloc (by simp) _).alloc (by simp; omega) _
  have hsz0 : (((w.alloc (.cells #[.int .i64 t.op, .int .i64 t.num, .slice B t.kids.length d] 37)).alloc (.cells #[.int .i64 0, .int .i64 0, .slice none 0 0] 42)).alloc (.cells #[.int .i64 t.op, .int .i64 t.num, .slice none 0 0] 42)).heap.size = w.heap.size + 3 := by simp
  have hres : (((w.alloc (.cells #[.int .i64 t.op, .int .i64 t.num, .slice B t.kids.length d] 37)).alloc (.cells #[.int .i64 0, .int .i64 0, .slice none 0 0] 42)).alloc (.cells #[.int .i64 t.op, .int .i64 t.num, .slice none 0 0] 42)).heap[w.heap.size + 1]? = some (.cells #[.int .i64 0, .int .i64 0, .slice none 0 0] 42 (0, 0)) := by
    have h9 := heap_alloc_new (w.alloc (.cells #[.int .i64 t.op, .int .i64 t.num, .slice B t.kids.length d] 37)) (.cells #[.int .i64 0, .int .i64 0, .slice none 0 0] 42)
    rw [World.size_alloc] at h9
    exact (Below.heap_alloc _ _ _ (by simp)).trans h9
  have hout : (((w.alloc (.cells #[.int .i64 t.op, .int .i64 t.num, .slice B t.kids.length d] 37)).alloc (.cells #[.int .i64 0, .int .i64 0, .slice none 0 0] 42)).alloc (.cells #[.int .i64 t.op, .int .i64 t.num, .slice none 0 0] 42)).heap[w.heap.size + 1 + 1]? = some (.cells #[.int .i64 t.op, .int .i64 t.num, .slice none 0 0] 42 (0, 0)) := by
    have h9 := heap_alloc_new ((w.alloc (.cells #[.int .i64 t.op, .int .i64 t.num, .slice B t.kids.length d] 37)).alloc (.cells #[.int .i64 0, .int .i64 0, .slice none 0 0] 42)) (.cells #[.int .i64 t.op, .int .i64 t.num, .slice none 0 0] 42)
    rw [World.size_alloc, World.size_alloc] at h9
    exact h9
  have hih := ih (((w.alloc (.cells #[.int .i64 t.op, .int .i64 t.num, .slice B t.kids.length d] 37)).alloc (.cells #[.int .i64 0, .int .i64 0, .slice none 0 0] 42)).alloc (.cells #[.int .i64 t.op, .int .i64 t.num, .slice none 0 0] 42)) (.slice B t.kids.length d) (hk.below hb0)
  have HS0 := Lib.hid hsz0
  have HR := Lib.hid hres
  have HO := Lib.hid hout
  clear hk ih hsz0 hres hout
  go_enter Try.func17, Try.ntmps17
  go_wp2_with fail
  refine hih.mono ?_
  rintro e w3 ⟨kv', S3, rfl, hS3, hS3b, hb3⟩
  obtain ⟨Ak, ck, rfl⟩ := IxsIn.form (ts := t.kids) hS3.at_
  rw [HS0.out] at hS3b
  have hbx := (hb3.block (w.heap.size + 1 + 1) (by rw [HS0.out]; omega)).trans HO.out
  have hrx := (hb3.block (w.heap.size + 1) (by rw [HS0.out]; omega)).trans HR.out
  have hbw := hb0.trans (hb3.mono hb0.size)
  have hL := ownL_ix (t := t) hS3
  have hLb : ∀ b ∈ S3 ++ [], w.heap.size + 2 < b := fun b hb => by
    rw [List.append_nil] at hb
    have := hS3b b hb; omega
  have hne : ∀ b ∈ S3 ++ [], b ≠ w.heap.size + 1 := fun b hb => by have := hLb b hb; omega
  have hne2 : ∀ b ∈ S3 ++ [], b ≠ w.heap.size + 1 + 1 := fun b hb => by have := hLb b hb; omega
  have hbz : Below w.heap.size w (w3.setCell ⟨w.heap.size + 1 + 1, 2, none⟩ (.slice Ak t.kids.length ck)) := hbw.setCell (by simp; omega) _
  have hpost : IxOut t w (.returned (.agg #[.int .i64 t.op, .int .i64 t.num, .slice Ak t.kids.length ck])) (((w3.setCell ⟨w.heap.size + 1 + 1, 2, none⟩ (.slice Ak t.kids.length ck)).setCell ⟨w.heap.size + 1, 0, none⟩ (.int .i64 t.op)).setCell ⟨w.heap.size + 1, 1, none⟩ (.int .i64 t.num) |>.setCell ⟨w.heap.size + 1, 2, none⟩ (.slice Ak t.kids.length ck)) :=
    ⟨Ak, ck, _, rfl, (((hL.setOther ⟨w.heap.size + 1 + 1, 2, none⟩ (.slice Ak t.kids.length ck) hne2).setOther ⟨w.heap.size + 1, 0, none⟩ (.int .i64 t.op) hne).setOther ⟨w.heap.size + 1, 1, none⟩ (.int .i64 t.num) hne).setOther ⟨w.heap.size + 1, 2, none⟩ (.slice Ak t.kids.length ck) hne,
     fun b hb => by have := hLb b hb; omega, ((hbz.setCell (by simp) _).setCell (by simp) _).setCell (by simp) _⟩
  have hc0 : w3.cell? ⟨w.heap.size + 1 + 1, 0, none⟩ = some (.int .i64 t.op) := by rw [cell_of_row w3 (w.heap.size + 1 + 1) 0 _ _ _ hbx]; rfl
  have hc1 : w3.cell? ⟨w.heap.size + 1 + 1, 1, none⟩ = some (.int .i64 t.num) := by rw [cell_of_row w3 (w.heap.size + 1 + 1) 1 _ _ _ hbx]; rfl
  have hc2 : w3.cell? ⟨w.heap.size + 1 + 1, 2, none⟩ = some (.slice none 0 0) := by rw [cell_of_row w3 (w.heap.size + 1 + 1) 2 _ _ _ hbx]; rfl
  have hf2 : w3.frozen? ⟨w.heap.size + 1 + 1, 2, none⟩ = false := frozen_of_row w3 (w.heap.size + 1 + 1) 2 _ _ hbx
  have hr0 : w3.cell? ⟨w.heap.size + 1, 0, none⟩ = some (.int .i64 0) := by rw [cell_of_row w3 (w.heap.size + 1) 0 _ _ _ hrx]; rfl
  have hr1 : w3.cell? ⟨w.heap.size + 1, 1, none⟩ = some (.int .i64 0) := by rw [cell_of_row w3 (w.heap.size + 1) 1 _ _ _ hrx]; rfl
  have hr2 : w3.cell? ⟨w.heap.size + 1, 2, none⟩ = some (.slice none 0 0) := by rw [cell_of_row w3 (w.heap.size + 1) 2 _ _ _ hrx]; rfl
  have hz0 : w3.frozen? ⟨w.heap.size + 1, 0, none⟩ = false := frozen_of_row w3 (w.heap.size + 1) 0 _ _ hrx
  have hz1 : w3.frozen? ⟨w.heap.size + 1, 1, none⟩ = false := frozen_of_row w3 (w.heap.size + 1) 1 _ _ hrx
  have hz2 : w3.frozen? ⟨w.heap.size + 1, 2, none⟩ = false := frozen_of_row w3 (w.heap.size + 1) 2 _ _ hrx
  clear hih hbw hS3 hbz hb3 HS0 HR HO hbx hrx hS3b hL hLb hne hne2 hb0
  go_wp2
  exact bodyPost_ret (v := .agg #[.int .i64 t.op, .int .i64 t.num, .slice Ak t.kids.length ck]) (by simp [results, Try.results17, go_sem, hr0, hr1, hr2]) rfl hpost

theorem take_set3 {xs : List Value} {j : Nat} {a b c : Value} (h : j + 3 ≤ xs.length) : (((xs.set j a).set (j + 1) b).set (j + 2) c).take (j + 3) = xs.take j ++ [a, b, c] := by
  apply List.ext_getElem?
  intro i
  rw [List.getElem?_take]
  by_cases hi : i < j + 3
  · rw [if_pos hi]
    by_cases h1 : i < j
    · rw [List.getElem?_append_left (by rw [List.length_take]; omega), List.getElem?_take, if_pos h1]
      simp [show ¬ j + 2 = i by omega, show ¬ j + 1 = i by omega, show ¬ j = i by omega]
    · rw [List.getElem?_append_right (by rw [List.length_take]; omega), List.length_take, show min j xs.length = j by omega]
      have hc : i = j ∨ i = j + 1 ∨ i = j + 2 := by omega
      rcases hc with rfl | rfl | rfl
      · simp [show i < xs.length by omega]
      · simp [show j + 1 < xs.length by omega, show j + 1 - j = 1 by omega]
      · simp [show j + 2 < xs.length by omega, show j + 2 - j = 2 by omega]
  · rw [if_neg hi, List.getElem?_eq_none (by rw [List.length_append, List.length_take]; simp; omega)]

theorem ix_info : (Try.prog.info? 42).map (fun i => (i.zero, i.size, i.bytes)) = some (some (.agg #[.int .i64 0, .int .i64 0, .slice none 0 0]), 3, 40) := by kernel_rfl

set_option maxRecDepth 100000 in
set_option maxHeartbeats 4000000 in
theorem toIndexS_step (ts : List Ix) (hlen : ts.length ≤ 1048576) (w : World) (x : Value) (hx : IxsIn w x ts)
    (ih : ∀ i, i < ts.length → ∀ (w' : World) (y : Value), IxIn w' y (ixAt ts i) → Calls Try.prog 17 #[y] w' (IxOut (ixAt ts i) w')) :
    Calls Try.prog 51 #[x] w (IxsOut ts w) := by
  obtain ⟨A, c, rfl⟩ := hx.form
  obtain ⟨i0, hi0, hz0, hz1, hz2⟩ := info_parts ix_info
  have HS := Lib.hid hz2
  clear hz2
  go_enter Try.func51, Try.ntmps51
  go_wp2_with (at_make; refine wpList_make_full _ rfl (.tmp 6) (.tmp 6) 40 rfl w.heap.size 42 i0 _ 3 Try.underlying40 hi0 hz0 hz1 .i64 .i64 _ _ ts.length rfl rfl rfl rfl ?c1 ?c2 (Nat.le_refl _) ?_)
  case c1 => rw [HS.out]; omega
  case c2 => unfold maxLen; omega
  intro w1 ho hg
  have hb0 := (Below.refl w.heap.size w).grown hg (Nat.le_refl _) (fun k hk => by cases hk)
  clear hg
  generalize hz : (madeCells #[Value.int IntKind.i64 0, Value.int IntKind.i64 0, Value.slice none 0 0] (ts.length * 3)).toList = zs at ho
  clear hz
  have hlt0 : w.heap.size < w1.heap.size := (ho.lt w.heap.size rfl).2
  go_wp2
  go_loopw [4] (fun i wr => ∃ (k : Nat) (S : List Nat) (xs : List Value), k ≤ ts.length ∧ i = .int .i64 k ∧ wr.ownsRow w.heap.size 42 3 (.slice (some ⟨w.heap.size, 0, none⟩) ts.length ts.length) ts.length xs ∧ OwnL wr S (xs.take (k * 3)) (encIxs (ts.take k)) ∧ (∀ b ∈ S, w.heap.size < b) ∧ Below w.heap.size w wr) (fun i _ => ts.length - (intOf i).toNat)
  case atStart => exact ⟨0, [], zs, Nat.zero_le _, rfl, ho, by simp [encIxs]; exact .nil, fun b hb => by simp at hb, hb0⟩
  case round =>
    clear ho hb0
    obtain ⟨k, S, xs, hk, rfl, ho, hL, hSb, hb⟩ := hrel
    have hwr : w.heap.size < wr.heap.size := (ho.lt w.heap.size rfl).2
    by_cases hlt : k < ts.length
    · have hxr := hx.below hb
      obtain ⟨b, off, rfl, hbl, hget⟩ := hxr.get (by omega)
      obtain ⟨B1, e9, d0, d1, d2, hk1⟩ := hget k hlt
      have hct := ih k hlt wr _ ⟨B1, e9, rfl, hk1⟩
      have hnx := Lib.hid (congrArg encIxs (ix_take_next hlt))
      generalize ixAt ts k = t at hct hnx d0 d1 d2
      clear hget hk1 hx hxr ih hbl
      go_wp2_with fail
      refine hct.mono ?_
      rintro e w2 ⟨P2, q2c, R, rfl, hR, hRb, hb2⟩
      have ho2 := own_below ho hb2
      have hL2 := hL.alike (w' := w2) fun b hb' => hb2.block b (hL.lt b hb')
      have hb3 := hb.trans (hb2.mono hb.size)
      have hxl := ho2.1
      obtain ⟨v0, e0⟩ := some_of_lt xs (k * 3) (by omega)
      obtain ⟨v1, e1⟩ := some_of_lt xs (k * 3 + 1) (by omega)
      obtain ⟨v2, e2⟩ := some_of_lt xs (k * 3 + 2) (by omega)
      have g0 := (ho2.cellAt (k * 3) (by omega)).trans e0
      have g1 := (ho2.cellAt (k * 3 + 1) (by omega)).trans e1
      have g2 := (ho2.cellAt (k * 3 + 2) (by omega)).trans e2
      have f0 := ho2.frozenAt (k * 3)
      have f1 := ho2.frozenAt (k * 3 + 1)
      have f2 := ho2.frozenAt (k * 3 + 2)
      obtain ⟨o1, q1⟩ := ho2.stored (k * 3) (.int .i64 t.op)
      obtain ⟨o2, q2⟩ := o1.stored (k * 3 + 1) (.int .i64 t.num)
      obtain ⟨o3, q3⟩ := o2.stored (k * 3 + 2) (.slice P2 t.kids.length q2c)
      have hq := grownBy_trans q1 (grownBy_trans q2 q3)
      have hL3 := hL2.kept hq (fun b hb' => by have := hSb b hb'; intro e; injection e with e; omega)
      have hR3 := hR.kept hq (fun b hb' => by have := hRb b hb'; intro e; injection e with e; omega)
      have hdis : ∀ b ∈ S, b ∉ R := fun b h1 h2 => by have h3 := hL.lt b h1; have h4 := hRb b h2; omega
      have hL4 := hL3.append hR3 hdis
      have hb5 := hb3.grown hq hb3.size (fun j hj => by injection hj with hj; omega)
      have htk : Hid ((((xs.set (k * 3) (.int .i64 t.op)).set (k * 3 + 1) (.int .i64 t.num)).set (k * 3 + 2) (.slice P2 t.kids.length q2c)).take ((k + 1) * 3) = xs.take (k * 3) ++ [.int .i64 t.op, .int .i64 t.num, .slice P2 t.kids.length q2c]) := by
        show (((xs.set (k * 3) (.int .i64 t.op)).set (k * 3 + 1) (.int .i64 t.num)).set (k * 3 + 2) (.slice P2 t.kids.length q2c)).take ((k + 1) * 3) = xs.take (k * 3) ++ [.int .i64 t.op, .int .i64 t.num, .slice P2 t.kids.length q2c]
        rw [show (k + 1) * 3 = k * 3 + 3 by omega]
        exact take_set3 (by omega)
      have hL5 := hL4
      rw [← htk.out, ← (show encIxs [t] = encIx t by simp [encIxs]), ← encIxs_append, ← hnx.out] at hL5
      have hSR : ∀ b ∈ S ++ R, w.heap.size < b := fun b hb' => by
        rcases List.mem_append.1 hb' with h | h
        · exact hSb b h
        · have := hRb b h; omega
      clear ho ho2 hL hL2 hL3 hL4 hR hR3 hb hb2 hb3 q1 q2 q3 hq o1 o2 e0 e1 e2 hxl hct hnx htk hdis hSb hRb d0 d1 d2
      go_wp2
      refine ⟨⟨k + 1, S ++ R, _, by omega, by go_num, o3, hL5, hSR, hb5⟩, ?_⟩
      simp only [intOf]
      omega
    · have e : k = ts.length := by omega
      subst e
      have hl := ho.1
      rw [List.take_of_length_le (by omega), List.take_of_length_le (Nat.le_refl _)] at hL
      have hpost : IxsOut ts w (.returned (.slice (some ⟨w.heap.size, 0, none⟩) ts.length ts.length)) wr :=
        ⟨_, w.heap.size :: S, rfl, .row (encIxs_len ts) (own_le ho (Nat.zero_le _)) hL (fun h => by have := hSb _ h; omega), fun b hb' => by
          rcases List.mem_cons.1 hb' with h | h
          · omega
          · have := hSb b h; omega, hb⟩
      clear ho hL hSb hb hx ih hl
      go_wp2
      go_ret
      exact hpost

theorem toIndexS_any : ∀ (N : Nat) (ts : List Ix), szIxs ts ≤ N → FitIxs ts → ts.length ≤ 1048576 → ∀ (w : World) (x : Value), IxsIn w x ts → Calls Try.prog 51 #[x] w (IxsOut ts w) := by
  intro N
  induction N with
  | zero =>
    intro ts hN hf hlen w x hx
    exact toIndexS_step ts hlen w x hx fun i hi => absurd (szIxs_kid hi) (by omega)
  | succ N ih =>
    intro ts hN hf hlen w x hx
    refine toIndexS_step ts hlen w x hx fun i hi w' y hy => ?_
    have h2 := (fitIx_eq _).1 (fitIxs_at hf hi)
    exact toIndex_of _ y w' hy fun w'' z hz => ih _ (by have := szIxs_kid hi; omega) h2.2 h2.1 w'' z hz
theorem toIndex_any (t : Ix) (hf : FitIx t) (w : World) (x : Value) (hx : IxIn w x t) : Calls Try.prog 17 #[x] w (IxOut t w) := by
  have h2 := (fitIx_eq _).1 hf
  exact toIndex_of t x w hx fun w' y hy => toIndexS_any _ _ (Nat.le_refl _) h2.2 h2.1 w' y hy

set_option maxRecDepth 100000 in
set_option maxHeartbeats 1000000 in
theorem eqIndex_of (t : Ix) (x y : Value) (w : World) (hx : IxIn w x t) (hy : IxIn w y t)
    (ih : ∀ (w' : World) (x' y' : Value), IxsIn w' x' t.kids → IxsIn w' y' t.kids → Calls Try.prog 55 #[x', y'] w' (YesPost w')) :
    Calls Try.prog 19 #[x, y] w (YesPost w) := by
  obtain ⟨B1, d1, rfl, hk1⟩ := hx
  obtain ⟨B2, d2, rfl, hk2⟩ := hy
  have hb0 : Below w.heap.size w ((w.alloc (.cells #[.int .i64 t.op, .int .i64 t.num, .slice B1 t.kids.length d1] 42)).alloc (.cells #[.int .i64 t.op, .int .i64 t.num, .slice B2 t.kids.length d2] 42)) :=
    ((Below.refl _ _).alloc (Nat.le_refl _) _).alloc (by simp) _
  have hih := ih _ _ _ (hk1.below hb0) (hk2.below hb0)
  have k1 : (t.op != t.op) = false := by simp
  have k2 : (t.num != t.num) = false := by simp
  clear hk1 hk2 ih
  go_enter Try.func19, Try.ntmps19
  go_wp2_with fail
  refine hih.mono ?_
  rintro e w2 ⟨rfl, hb2⟩
  have hpost : YesPost w (.returned (.bool true)) w2 := ⟨rfl, hb0.trans (hb2.mono hb0.size)⟩
  clear hih hb0 hb2
  go_wp2
  go_ret
  exact hpost

set_option maxRecDepth 100000 in
set_option maxHeartbeats 2000000 in
theorem eqIndexS_step (ts : List Ix) (hlen : ts.length ≤ 1048576) (w : World) (x y : Value) (hx : IxsIn w x ts) (hy : IxsIn w y ts)
    (ih : ∀ i, i < ts.length → ∀ (w' : World) (x' y' : Value), IxIn w' x' (ixAt ts i) → IxIn w' y' (ixAt ts i) → Calls Try.prog 19 #[x', y'] w' (YesPost w')) :
    Calls Try.prog 55 #[x, y] w (YesPost w) := by
  obtain ⟨A, c, rfl⟩ := hx.form
  obtain ⟨B, d, rfl⟩ := hy.form
  have k0 : ((ts.length : Int) != (ts.length : Int)) = false := by simp
  go_enter Try.func55, Try.ntmps55
  go_wp2
  go_loopw [5] (fun i wr => ∃ k : Nat, k ≤ ts.length ∧ i = .int .i64 k ∧ Below w.heap.size w wr) (fun i _ => ts.length - (intOf i).toNat)
  case atStart => exact ⟨0, Nat.zero_le _, rfl, Below.refl _ _⟩
  case round =>
    obtain ⟨k, hk, rfl, hb⟩ := hrel
    by_cases hlt : k < ts.length
    · obtain ⟨b1, o1, rfl, hb1, hg1⟩ := (hx.below hb).get (by omega)
      obtain ⟨b2, o2, rfl, hb2, hg2⟩ := (hy.below hb).get (by omega)
      obtain ⟨B1, f1, d0, d1, d2, hk1⟩ := hg1 k hlt
      obtain ⟨B2, f2, e0, e1, e2, hk2⟩ := hg2 k hlt
      have hct := fun dq os => Calls.regrown_yes (ih k hlt (grow (redrawn wr dq) os) _ _ ⟨B1, f1, rfl, hk1.below (below_regrown wr dq os)⟩ ⟨B2, f2, rfl, hk2.below (below_regrown wr dq os)⟩)
      have p0 := fun d os => cell_regrown d0 d os
      have p1 := fun d os => cell_regrown d1 d os
      have p2 := fun d os => cell_regrown d2 d os
      have q0 := fun d os => cell_regrown e0 d os
      have q1 := fun d os => cell_regrown e1 d os
      have q2 := fun d os => cell_regrown e2 d os
      generalize ixAt ts k = t at hct p0 p1 p2 q0 q1 q2
      clear hg1 hg2 hk1 hk2 hx hy ih hb1 hb2 d0 d1 d2 e0 e1 e2
      go_wp2
      refine wp_region_quiet_below (by kernel_rfl) (by kernel_rfl) ?_
      repeat (any_goals (first | go_big_quiet_step ((go_at_call 19; exact hct _ _)) | quiet_step ((go_at_call 19; exact hct _ _))))
      refine wpQuiet_nil ?_
      intro _ hw'
      obtain ⟨⟨dq, osq⟩, hw''⟩ := hw'
      subst hw''
      have hb3 := hb.trans ((below_regrown wr dq osq).mono hb.size)
      clear p0 p1 p2 q0 q1 q2 hct
      generalize grow (redrawn wr dq) osq = w2 at *
      go_wp2
      refine ⟨⟨k + 1, by omega, by go_num, hb3⟩, ?_⟩
      simp only [intOf]
      omega
    · have hpost : YesPost w (.returned (.bool true)) wr := ⟨rfl, hb⟩
      clear hx hy ih hb
      go_wp2
      go_ret
      exact hpost

theorem eqIndexS_any : ∀ (N : Nat) (ts : List Ix), szIxs ts ≤ N → FitIxs ts → ts.length ≤ 1048576 → ∀ (w : World) (x y : Value), IxsIn w x ts → IxsIn w y ts → Calls Try.prog 55 #[x, y] w (YesPost w) := by
  intro N
  induction N with
  | zero =>
    intro ts hN hf hlen w x y hx hy
    exact eqIndexS_step ts hlen w x y hx hy fun i hi => absurd (szIxs_kid hi) (by omega)
  | succ N ih =>
    intro ts hN hf hlen w x y hx hy
    refine eqIndexS_step ts hlen w x y hx hy fun i hi w' x' y' hx' hy' => ?_
    have h2 := (fitIx_eq _).1 (fitIxs_at hf hi)
    exact eqIndex_of _ x' y' w' hx' hy' fun w'' x'' y'' h3 h4 => ih _ (by have := szIxs_kid hi; omega) h2.2 h2.1 w'' x'' y'' h3 h4
theorem eqIndex_any (t : Ix) (hf : FitIx t) (w : World) (x y : Value) (hx : IxIn w x t) (hy : IxIn w y t) : Calls Try.prog 19 #[x, y] w (YesPost w) := by
  have h2 := (fitIx_eq _).1 hf
  exact eqIndex_of t x y w hx hy fun w' x' y' h3 h4 => eqIndexS_any _ _ (Nat.le_refl _) h2.2 h2.1 w' x' y' h3 h4
end Go.Proofs.Ytihijigbdpjcoaa
end

section
namespace Go.Proofs.Ytihijigbdpjcoaa
open Go.RowKit Go.Sort
set_option linter.unusedVariables false

/-- A struct of three cells in a box, in a later world. -/
theorem box3 {a b c : Value} {T : TypeId} {w w1 : World} (hb : Below (w.alloc (.cells #[a, b, c] T)).heap.size (w.alloc (.cells #[a, b, c] T)) w1) :
    w1.cell? ⟨w.heap.size, 0, none⟩ = some a ∧ w1.cell? ⟨w.heap.size, 1, none⟩ = some b ∧ w1.cell? ⟨w.heap.size, 2, none⟩ = some c := by
  have h := (hb.block w.heap.size (by simp)).trans (heap_alloc_new w _)
  refine ⟨?_, ?_, ?_⟩ <;> rw [cell_of_row w1 w.heap.size _ _ _ _ h] <;> rfl
mutual
theorem szIx_le : ∀ t : Ix, szIx t ≤ 1 + cntIx t
  | .mk o n ks => by
    have := szIxs_le ks
    rw [szIx, cntIx]; omega
theorem szIxs_le : ∀ ts : List Ix, szIxs ts ≤ ts.length + sumIx ts
  | [] => by simp [szIxs]
  | t :: r => by
    have h1 := szIx_le t
    have h2 := szIxs_le r
    rw [szIxs, sumIx, List.length_cons]; omega
end
theorem szIxs_next {ts : List Ix} {k : Nat} (h : k < ts.length) : szIxs (ts.take (k + 1)) = szIxs (ts.take k) + szIx (ixAt ts k) := by
  rw [ix_take_next h, szIxs_app]
  simp [szIxs]
theorem szIxs_take (ts : List Ix) (k : Nat) : szIxs (ts.take k) ≤ szIxs ts := by
  have := szIxs_app (ts.take k) (ts.drop k)
  rw [List.take_append_drop] at this
  omega
/-- A kid, as its cells give it. -/
theorem kid_ix {w : World} {B : Option Addr} {n d : Nat} {ts : List Ix} (h : IxsIn w (.slice B n d) ts) {k : Nat} (hk : k < ts.length) :
    ∃ b off B1 e1, B = some ⟨b, off, none⟩ ∧ b < w.heap.size ∧
      w.cell? ⟨b, off + k * 3, none⟩ = some (.int .i64 (ixAt ts k).op) ∧ w.cell? ⟨b, off + k * 3 + 1, none⟩ = some (.int .i64 (ixAt ts k).num) ∧
      w.cell? ⟨b, off + k * 3 + 2, none⟩ = some (.slice B1 (ixAt ts k).kids.length e1) ∧
      IxIn w (.agg #[.int .i64 (ixAt ts k).op, .int .i64 (ixAt ts k).num, .slice B1 (ixAt ts k).kids.length e1]) (ixAt ts k) := by
  obtain ⟨b, off, rfl, hbl, hget⟩ := h.get (by omega)
  obtain ⟨B1, e1, d0, d1, d2, hk1⟩ := hget k hk
  exact ⟨b, off, B1, e1, rfl, hbl, d0, d1, d2, B1, e1, rfl, hk1⟩

theorem goodI_no {t : Ix} (h : shapeI t = false) : goodI t = false := by rw [goodI_eq, h]; rfl
theorem shapeI_1 {t : Ix} (h : t.op = 1) : shapeI t = (decide (0 ≤ t.num ∧ t.num ≤ 999) && decide (t.kids.length = 0)) := by unfold shapeI; rw [if_pos h]
theorem shapeI_2 {t : Ix} (h : t.op = 2) : shapeI t = (atomB t.num && decide (t.kids.length = 0)) := by unfold shapeI; rw [if_neg (by omega), if_pos h]
theorem shapeI_3 {t : Ix} (h : t.op = 3) : shapeI t = (decide (t.num = 0) && decide (t.kids.length = 1)) := by unfold shapeI; rw [if_neg (by omega), if_neg (by omega), if_pos h]
theorem shapeI_4 {t : Ix} (h : t.op = 4) : shapeI t = (decide (t.num = 0) && decide (t.kids.length = 2)) := by unfold shapeI; rw [if_neg (by omega), if_neg (by omega), if_neg (by omega), if_pos h]
theorem shapeI_0 {t : Ix} (h1 : ¬ t.op = 1) (h2 : ¬ t.op = 2) (h3 : ¬ t.op = 3) (h4 : ¬ t.op = 4) : shapeI t = false := by unfold shapeI; rw [if_neg h1, if_neg h2, if_neg h3, if_neg h4]
theorem goodI_leaf {t : Ix} (h : t.kids.length = 0) : goodI t = shapeI t := by
  rw [goodI_eq, List.length_eq_zero_iff.1 h, goodIs, Bool.and_true]

set_option maxRecDepth 100000 in
set_option maxHeartbeats 2000000 in
theorem l8Right_leaf (t : Ix) (x : Value) (w : World) (hx : IxIn w x t) (hkl : t.kids.length ≤ 1048576) (ho : t.op = 1 ∨ t.op = 2) :
    Calls Try.prog 49 #[x] w (BoolPost (goodI t) w) := by
  obtain ⟨B, d, rfl, hk⟩ := hx
  have hb0 : Below w.heap.size w (w.alloc (.cells #[.int .i64 t.op, .int .i64 t.num, .slice B t.kids.length d] 42)) := (Below.refl _ _).alloc (Nat.le_refl _) _
  rcases ho with ho | ho
  · have hsh := shapeI_1 ho
    have ca := fun W => l1In_any t.num 0 999 W
    rw [ho] at hb0 ⊢
    by_cases h0 : 0 ≤ t.num ∧ t.num ≤ 999
    · rw [decide_eq_true h0] at ca hsh
      by_cases h1 : t.kids.length = 0
      · have hg : goodI t = true := by rw [goodI_leaf h1, hsh, decide_eq_true h1]; rfl
        rw [hg, h1]
        rw [h1] at hb0
        clear hsh hg h1 h0 ho hk
        go_enter Try.func49, Try.ntmps49
        go_wp2_with (go_at_call 85; refine (ca _).mono ?_; rintro e w' ⟨rfl, rfl⟩)
        go_ret
        exact ⟨rfl, hb0⟩
      · have hg : goodI t = false := goodI_no (by rw [hsh, decide_eq_false h1]; rfl)
        have tk : ((t.kids.length : Int) == 0) = false := by simp; intro h; exact h1 (by rw [h]; rfl)
        rw [hg]
        generalize t.kids.length = kl at *
        clear hsh hg h1 h0 ho hk
        go_enter Try.func49, Try.ntmps49
        go_wp2_with (go_at_call 85; refine (ca _).mono ?_; rintro e w' ⟨rfl, rfl⟩)
        go_ret
        exact ⟨rfl, hb0⟩
    · rw [decide_eq_false h0] at ca hsh
      have hg : goodI t = false := goodI_no (by rw [hsh]; rfl)
      rw [hg]
      clear hsh hg h0 ho hk
      go_enter Try.func49, Try.ntmps49
      go_wp2_with (go_at_call 85; refine (ca _).mono ?_; rintro e w' ⟨rfl, rfl⟩)
      go_ret
      exact ⟨rfl, hb0⟩
  · have hsh := shapeI_2 ho
    have ca := fun W => l1Atom_any t.num W
    rw [ho] at hb0 ⊢
    by_cases h0 : atomB t.num = true
    · rw [h0] at ca hsh
      by_cases h1 : t.kids.length = 0
      · have hg : goodI t = true := by rw [goodI_leaf h1, hsh, decide_eq_true h1]; rfl
        rw [hg, h1]
        rw [h1] at hb0
        clear hsh hg h1 h0 ho hk
        go_enter Try.func49, Try.ntmps49
        go_wp2_with (go_at_call 86; refine (ca _).mono ?_; rintro e w' ⟨rfl, rfl⟩)
        go_ret
        exact ⟨rfl, hb0⟩
      · have hg : goodI t = false := goodI_no (by rw [hsh, decide_eq_false h1]; rfl)
        have tk : ((t.kids.length : Int) == 0) = false := by simp; intro h; exact h1 (by rw [h]; rfl)
        rw [hg]
        generalize t.kids.length = kl at *
        clear hsh hg h1 h0 ho hk
        go_enter Try.func49, Try.ntmps49
        go_wp2_with (go_at_call 86; refine (ca _).mono ?_; rintro e w' ⟨rfl, rfl⟩)
        go_ret
        exact ⟨rfl, hb0⟩
    · have h0' : atomB t.num = false := by simpa using h0
      rw [h0'] at ca hsh
      have hg : goodI t = false := goodI_no (by rw [hsh]; rfl)
      rw [hg]
      clear hsh hg h0 h0' ho hk
      go_enter Try.func49, Try.ntmps49
      go_wp2_with (go_at_call 86; refine (ca _).mono ?_; rintro e w' ⟨rfl, rfl⟩)
      go_ret
      exact ⟨rfl, hb0⟩

set_option maxRecDepth 100000 in
set_option maxHeartbeats 2000000 in
theorem l8Right_other (t : Ix) (x : Value) (w : World) (hx : IxIn w x t) (h1 : ¬ t.op = 1) (h2 : ¬ t.op = 2) (h3 : ¬ t.op = 3) (h4 : ¬ t.op = 4) :
    Calls Try.prog 49 #[x] w (BoolPost (goodI t) w) := by
  obtain ⟨B, d, rfl, hk⟩ := hx
  have hb0 : Below w.heap.size w (w.alloc (.cells #[.int .i64 t.op, .int .i64 t.num, .slice B t.kids.length d] 42)) := (Below.refl _ _).alloc (Nat.le_refl _) _
  rw [goodI_no (shapeI_0 h1 h2 h3 h4)]
  have t1 : (t.op == 1) = false := by simpa using h1
  have t2 : (t.op == 2) = false := by simpa using h2
  have t3 : (t.op == 3) = false := by simpa using h3
  have t4 : (t.op == 4) = false := by simpa using h4
  clear h1 h2 h3 h4 hk
  go_enter Try.func49, Try.ntmps49
  go_wp2
  go_ret
  exact ⟨rfl, hb0⟩

set_option maxRecDepth 100000 in
set_option maxHeartbeats 2000000 in
theorem l8Right_big3 (t : Ix) (x : Value) (w : World) (hx : IxIn w x t) (hkl : t.kids.length ≤ 1048576) (ho : t.op = 3)
    (ih : ∀ i, i < t.kids.length → ∀ (w' : World) (y : Value), IxIn w' y (ixAt t.kids i) → Calls Try.prog 49 #[y] w' (BoolPost (goodI (ixAt t.kids i)) w')) :
    Calls Try.prog 49 #[x] w (BoolPost (goodI t) w) := by
  obtain ⟨B, d, rfl, hk⟩ := hx
  have hsh := shapeI_3 ho
  have hg0 := goodI_eq t
  rw [hsh] at hg0
  have hb0 : Below w.heap.size w (w.alloc (.cells #[.int .i64 t.op, .int .i64 t.num, .slice B t.kids.length d] 42)) := (Below.refl _ _).alloc (Nat.le_refl _) _
  rw [ho] at hb0 ⊢
  by_cases h0 : t.num = 0
  · rw [decide_eq_true h0] at hg0
    rw [h0] at hb0 ⊢
    by_cases h1 : t.kids.length = 1
    · rw [decide_eq_true h1, Bool.true_and, Bool.true_and] at hg0
      have HG := Lib.hid hg0
      have HN := Lib.hid h1
      have HK := Lib.hid hk
      rw [h1] at hb0 ⊢
      rw [h1] at HK
      rw [hg0]
      clear hsh hg0 h0 ho h1 hk
      go_enter Try.func49, Try.ntmps49
      go_wp2
      go_loopw [51] (fun i wr => ∃ k : Nat, k ≤ 1 ∧ i = .int .i64 k ∧ goodIs (t.kids.take k) = true ∧ Below w.heap.size w wr) (fun i _ => 1 - (intOf i).toNat)
      case atStart => exact ⟨0, Nat.zero_le _, rfl, by simp [goodIs], hb0⟩
      case round =>
        clear hb0
        obtain ⟨k, hk', rfl, hgt, hb⟩ := hrel
        have HGT := Lib.hid hgt
        clear hgt
        by_cases hlt : k < 1
        · obtain ⟨b, off, B1, e1, rfl, hbl, d0, d1, d2, hy⟩ := kid_ix (HK.out.below hb) (by rw [HN.out]; exact hlt)
          have hbx : Below wr.heap.size wr (wr.alloc (.cells #[.int .i64 (ixAt t.kids k).op, .int .i64 (ixAt t.kids k).num, .slice B1 (ixAt t.kids k).kids.length e1] 42)) := (Below.refl _ _).alloc (Nat.le_refl _) _
          have hct := ih k (by rw [HN.out]; exact hlt) _ _ (hy.below hbx)
          have hb2 := hb.trans (hbx.mono hb.size)
          have hno := fun h => Lib.hid (goodIs_no (ts := t.kids) (i := k) (by rw [HN.out]; exact hlt) h)
          have hnx := Lib.hid (goodIs_next (ts := t.kids) (k := k) (by rw [HN.out]; exact hlt))
          generalize ixAt t.kids k = u at d0 d1 d2 hct hbx hb2 hno hnx
          clear hy hbl hbx hb ih HK
          by_cases hgu : goodI u = true
          · rw [hgu] at hct
            have hnx' : Hid (goodIs (t.kids.take (k + 1)) = true) := by show goodIs (t.kids.take (k + 1)) = true; rw [hnx.out, HGT.out, hgu]; rfl
            clear hno hgu hnx
            go_wp2_with fail
            refine hct.mono ?_
            rintro e w2 ⟨rfl, hb3⟩
            have hb4 := hb2.trans (hb3.mono hb2.size)
            clear hct hb2 hb3 d0 d1 d2
            go_wp2
            refine ⟨⟨k + 1, by omega, by go_num, hnx'.out, hb4⟩, ?_⟩
            simp only [intOf]
            omega
          · have hgu' : goodI u = false := by simpa using hgu
            rw [hgu'] at hct
            have hr := hno hgu'
            clear hno hgu hgu' hnx
            go_wp2_with fail
            refine hct.mono ?_
            rintro e w2 ⟨rfl, hb3⟩
            have hpost : BoolPost (goodIs t.kids) w (.returned (.bool false)) w2 := ⟨by rw [hr.out], hb2.trans (hb3.mono hb2.size)⟩
            clear hct hb2 hb3 d0 d1 d2 hr
            go_wp2
            go_ret
            exact hpost
        · have hpost : BoolPost (goodIs t.kids) w (.returned (.bool true)) wr := ⟨by rw [← HGT.out, List.take_of_length_le (by rw [HN.out]; omega)], hb⟩
          clear ih HK hb
          go_wp2
          go_ret
          exact hpost
    · have hg : goodI t = false := goodI_no (by rw [hsh, decide_eq_false h1, Bool.and_false])
      rw [hg]
      have tk : ((t.kids.length : Int) != 1) = true := by simp; omega
      generalize t.kids.length = kl at *
      clear hsh hg0 h0 ho h1 hk ih hg
      go_enter Try.func49, Try.ntmps49
      go_wp2
      go_ret
      exact ⟨rfl, hb0⟩
  · have hg : goodI t = false := goodI_no (by rw [hsh, decide_eq_false h0, Bool.false_and])
    rw [hg]
    have tk : (t.num != 0) = true := by simp; omega
    generalize t.num = nn at *
    clear hsh hg0 h0 ho hk ih hg
    go_enter Try.func49, Try.ntmps49
    go_wp2
    go_ret
    exact ⟨rfl, hb0⟩

set_option maxRecDepth 100000 in
set_option maxHeartbeats 2000000 in
theorem l8Right_big4 (t : Ix) (x : Value) (w : World) (hx : IxIn w x t) (hkl : t.kids.length ≤ 1048576) (ho : t.op = 4)
    (ih : ∀ i, i < t.kids.length → ∀ (w' : World) (y : Value), IxIn w' y (ixAt t.kids i) → Calls Try.prog 49 #[y] w' (BoolPost (goodI (ixAt t.kids i)) w')) :
    Calls Try.prog 49 #[x] w (BoolPost (goodI t) w) := by
  obtain ⟨B, d, rfl, hk⟩ := hx
  have hsh := shapeI_4 ho
  have hg0 := goodI_eq t
  rw [hsh] at hg0
  have hb0 : Below w.heap.size w (w.alloc (.cells #[.int .i64 t.op, .int .i64 t.num, .slice B t.kids.length d] 42)) := (Below.refl _ _).alloc (Nat.le_refl _) _
  rw [ho] at hb0 ⊢
  by_cases h0 : t.num = 0
  · rw [decide_eq_true h0] at hg0
    rw [h0] at hb0 ⊢
    by_cases h1 : t.kids.length = 2
    · rw [decide_eq_true h1, Bool.true_and, Bool.true_and] at hg0
      have HG := Lib.hid hg0
      have HN := Lib.hid h1
      have HK := Lib.hid hk
      rw [h1] at hb0 ⊢
      rw [h1] at HK
      rw [hg0]
      clear hsh hg0 h0 ho h1 hk
      go_enter Try.func49, Try.ntmps49
      go_wp2
      go_loopw [51] (fun i wr => ∃ k : Nat, k ≤ 2 ∧ i = .int .i64 k ∧ goodIs (t.kids.take k) = true ∧ Below w.heap.size w wr) (fun i _ => 2 - (intOf i).toNat)
      case atStart => exact ⟨0, Nat.zero_le _, rfl, by simp [goodIs], hb0⟩
      case round =>
        clear hb0
        obtain ⟨k, hk', rfl, hgt, hb⟩ := hrel
        have HGT := Lib.hid hgt
        clear hgt
        by_cases hlt : k < 2
        · obtain ⟨b, off, B1, e1, rfl, hbl, d0, d1, d2, hy⟩ := kid_ix (HK.out.below hb) (by rw [HN.out]; exact hlt)
          have hbx : Below wr.heap.size wr (wr.alloc (.cells #[.int .i64 (ixAt t.kids k).op, .int .i64 (ixAt t.kids k).num, .slice B1 (ixAt t.kids k).kids.length e1] 42)) := (Below.refl _ _).alloc (Nat.le_refl _) _
          have hct := ih k (by rw [HN.out]; exact hlt) _ _ (hy.below hbx)
          have hb2 := hb.trans (hbx.mono hb.size)
          have hno := fun h => Lib.hid (goodIs_no (ts := t.kids) (i := k) (by rw [HN.out]; exact hlt) h)
          have hnx := Lib.hid (goodIs_next (ts := t.kids) (k := k) (by rw [HN.out]; exact hlt))
          generalize ixAt t.kids k = u at d0 d1 d2 hct hbx hb2 hno hnx
          clear hy hbl hbx hb ih HK
          by_cases hgu : goodI u = true
          · rw [hgu] at hct
            have hnx' : Hid (goodIs (t.kids.take (k + 1)) = true) := by show goodIs (t.kids.take (k + 1)) = true; rw [hnx.out, HGT.out, hgu]; rfl
            clear hno hgu hnx
            go_wp2_with fail
            refine hct.mono ?_
            rintro e w2 ⟨rfl, hb3⟩
            have hb4 := hb2.trans (hb3.mono hb2.size)
            clear hct hb2 hb3 d0 d1 d2
            go_wp2
            refine ⟨⟨k + 1, by omega, by go_num, hnx'.out, hb4⟩, ?_⟩
            simp only [intOf]
            omega
          · have hgu' : goodI u = false := by simpa using hgu
            rw [hgu'] at hct
            have hr := hno hgu'
            clear hno hgu hgu' hnx
            go_wp2_with fail
            refine hct.mono ?_
            rintro e w2 ⟨rfl, hb3⟩
            have hpost : BoolPost (goodIs t.kids) w (.returned (.bool false)) w2 := ⟨by rw [hr.out], hb2.trans (hb3.mono hb2.size)⟩
            clear hct hb2 hb3 d0 d1 d2 hr
            go_wp2
            go_ret
            exact hpost
        · have hpost : BoolPost (goodIs t.kids) w (.returned (.bool true)) wr := ⟨by rw [← HGT.out, List.take_of_length_le (by rw [HN.out]; omega)], hb⟩
          clear ih HK hb
          go_wp2
          go_ret
          exact hpost
    · have hg : goodI t = false := goodI_no (by rw [hsh, decide_eq_false h1, Bool.and_false])
      rw [hg]
      have tk : ((t.kids.length : Int) != 2) = true := by simp; omega
      generalize t.kids.length = kl at *
      clear hsh hg0 h0 ho h1 hk ih hg
      go_enter Try.func49, Try.ntmps49
      go_wp2
      go_ret
      exact ⟨rfl, hb0⟩
  · have hg : goodI t = false := goodI_no (by rw [hsh, decide_eq_false h0, Bool.false_and])
    rw [hg]
    have tk : (t.num != 0) = true := by simp; omega
    generalize t.num = nn at *
    clear hsh hg0 h0 ho hk ih hg
    go_enter Try.func49, Try.ntmps49
    go_wp2
    go_ret
    exact ⟨rfl, hb0⟩

theorem l8Right_of (t : Ix) (x : Value) (w : World) (hx : IxIn w x t) (hkl : t.kids.length ≤ 1048576)
    (ih : ∀ i, i < t.kids.length → ∀ (w' : World) (y : Value), IxIn w' y (ixAt t.kids i) → Calls Try.prog 49 #[y] w' (BoolPost (goodI (ixAt t.kids i)) w')) :
    Calls Try.prog 49 #[x] w (BoolPost (goodI t) w) := by
  by_cases h1 : t.op = 1
  · exact l8Right_leaf t x w hx hkl (.inl h1)
  by_cases h2 : t.op = 2
  · exact l8Right_leaf t x w hx hkl (.inr h2)
  by_cases h3 : t.op = 3
  · exact l8Right_big3 t x w hx hkl h3 ih
  by_cases h4 : t.op = 4
  · exact l8Right_big4 t x w hx hkl h4 ih
  exact l8Right_other t x w hx h1 h2 h3 h4

theorem l8Right_any : ∀ (N : Nat) (t : Ix), szIx t ≤ N → FitIx t → ∀ (w : World) (x : Value), IxIn w x t → Calls Try.prog 49 #[x] w (BoolPost (goodI t) w) := by
  intro N
  induction N with
  | zero => intro t hN; rw [szIx_eq] at hN; omega
  | succ N ih =>
    intro t hN hf w x hx
    have h2 := (fitIx_eq _).1 hf
    refine l8Right_of t x w hx h2.1 fun i hi w' y hy => ?_
    have h3 := szIx_at hi
    rw [szIx_eq] at hN
    exact ih _ (by omega) (fitIxs_at h2.2 hi) w' y hy

set_option maxRecDepth 100000 in
set_option maxHeartbeats 2000000 in
theorem l8Size_of (t : Ix) (x : Value) (w : World) (hx : IxIn w x t) (hkl : t.kids.length ≤ 1048576) (hsz : szIx t ≤ 9007199254740992)
    (ih : ∀ i, i < t.kids.length → ∀ (w' : World) (y : Value), IxIn w' y (ixAt t.kids i) → Calls Try.prog 50 #[y] w' (IntPost (szIx (ixAt t.kids i)) w')) :
    Calls Try.prog 50 #[x] w (IntPost (szIx t) w) := by
  obtain ⟨B, d, rfl, hk⟩ := hx
  have hg := szIx_eq t
  have HG := Lib.hid hg
  have hb0 : Below w.heap.size w (w.alloc (.cells #[.int .i64 t.op, .int .i64 t.num, .slice B t.kids.length d] 42)) := (Below.refl _ _).alloc (Nat.le_refl _) _
  have hle : szIxs t.kids ≤ 9007199254740991 := by omega
  clear hg hsz
  go_enter Try.func50, Try.ntmps50
  go_wp2
  go_loopw [3, 9] (fun s i wr => ∃ k : Nat, k ≤ t.kids.length ∧ i = .int .i64 k ∧ s = .int .i64 (1 + (szIxs (t.kids.take k) : Nat)) ∧ Below w.heap.size w wr) (fun _ i _ => t.kids.length - (intOf i).toNat)
  case atStart => exact ⟨0, Nat.zero_le _, rfl, by simp [szIxs], hb0⟩
  case round =>
    clear hb0
    obtain ⟨k, hk', rfl, rfl, hb⟩ := hrel
    by_cases hlt : k < t.kids.length
    · obtain ⟨b, off, B1, e1, rfl, hbl, d0, d1, d2, hy⟩ := kid_ix (hk.below hb) hlt
      have hbx : Below wr.heap.size wr (wr.alloc (.cells #[.int .i64 (ixAt t.kids k).op, .int .i64 (ixAt t.kids k).num, .slice B1 (ixAt t.kids k).kids.length e1] 42)) := (Below.refl _ _).alloc (Nat.le_refl _) _
      have hct := ih k hlt _ _ (hy.below hbx)
      have hb2 := hb.trans (hbx.mono hb.size)
      have hnx := szIxs_next hlt
      have htk := szIxs_take t.kids (k + 1)
      generalize ixAt t.kids k = u at d0 d1 d2 hct hbx hb2 hnx
      generalize hs : szIxs (t.kids.take k) = s at hnx
      have hse : Hid ((1 : Int) + ((szIxs (t.kids.take (k + 1)) : Nat) : Int) = 1 + (s : Int) + (szIx u : Nat)) := by show (1 : Int) + ((szIxs (t.kids.take (k + 1)) : Nat) : Int) = 1 + (s : Int) + (szIx u : Nat); omega
      have hbd : (1 : Int) + (s : Int) + (szIx u : Nat) ≤ 9007199254740992 := by omega
      clear hy hbl hbx hb ih hk hs hnx htk
      generalize szIx u = z at hct hse hbd
      go_wp2_with fail
      refine hct.mono ?_
      rintro e w2 ⟨rfl, hb3⟩
      have hb4 := hb2.trans (hb3.mono hb2.size)
      clear hct hb2 hb3 d0 d1 d2
      go_wp2
      refine ⟨⟨k + 1, by omega, by go_num, by rw [hse.out], hb4⟩, ?_⟩
      simp only [intOf]
      omega
    · have hpost : IntPost (szIx t) w (.returned (.int .i64 (1 + (szIxs (t.kids.take k) : Nat)))) wr := ⟨by rw [HG.out, List.take_of_length_le (by omega)]; congr 2, hb⟩
      clear ih hk hb
      go_wp2
      go_ret
      exact hpost

theorem l8Size_any : ∀ (N : Nat) (t : Ix), szIx t ≤ N → N ≤ 9007199254740992 → FitIx t → ∀ (w : World) (x : Value), IxIn w x t → Calls Try.prog 50 #[x] w (IntPost (szIx t) w) := by
  intro N
  induction N with
  | zero => intro t hN; rw [szIx_eq] at hN; omega
  | succ N ih =>
    intro t hN hNb hf w x hx
    have h2 := (fitIx_eq _).1 hf
    refine l8Size_of t x w hx h2.1 (by omega) fun i hi w' y hy => ?_
    have h3 := szIx_at hi
    rw [szIx_eq] at hN
    exact ih _ (by omega) (by omega) (fitIxs_at h2.2 hi) w' y hy

set_option maxRecDepth 100000 in
theorem isIndexTerm_spec (t : Ix) (x : Value) (w : World) (hx : IxIn w x t) (hc : cntIx t ≤ 1048576) :
    Calls Try.prog 16 #[x] w (BoolPost (isIndexB t) w) := by
  have hle := szIx_le t
  have hgd := fun W hW => l8Right_any _ t (Nat.le_refl _) (fitIx_of t hc) W x hW
  have hsz := fun W hW => l8Size_any (szIx t) t (Nat.le_refl _) (by omega) (fitIx_of t hc) W x hW
  have hr0 : isIndexB t = (goodI t && decide (szIx t ≤ 60)) := rfl
  have hr := Lib.hid hr0
  clear hr0
  have hx' := hx
  obtain ⟨B, d, rfl, hk⟩ := hx
  have hb0 : Below w.heap.size w (w.alloc (.cells #[.int .i64 t.op, .int .i64 t.num, .slice B t.kids.length d] 42)) := (Below.refl _ _).alloc (Nat.le_refl _) _
  have hg0 := hgd _ (hx'.below hb0)
  clear hgd
  by_cases h1 : goodI t = true
  · rw [h1] at hg0 hr
    rw [Bool.true_and] at hr
    clear h1
    go_enter Try.func16, Try.ntmps16
    go_wp2_with fail
    refine hg0.mono ?_
    rintro e w1 ⟨rfl, hb1⟩
    obtain ⟨b0, b1, b2⟩ := box3 hb1
    have hs1 := hb0.trans (hb1.mono hb0.size)
    have hs0 := hsz _ (hx'.below hs1)
    clear hg0 hb0 hb1 hk hsz hx'
    generalize hz : szIx t = z at hs0 hr hle
    clear hz
    go_wp2_with fail
    refine hs0.mono ?_
    rintro e w2 ⟨rfl, hb2⟩
    have hpost : BoolPost (isIndexB t) w (.returned (.bool (decide (z ≤ 60)))) w2 := ⟨by rw [hr.out], hs1.trans (hb2.mono hs1.size)⟩
    clear hs0 hs1 hb2 hr b0 b1 b2
    by_cases h2 : z ≤ 60
    · rw [decide_eq_true h2] at hpost
      have k2 : (z : Int) ≤ 60 := by omega
      go_wp2
      go_ret
      exact hpost
    · rw [decide_eq_false h2] at hpost
      have k2 : decide ((z : Int) ≤ 60) = false := by simp; omega
      go_wp2
      go_ret
      exact hpost
  · have h1' : goodI t = false := by simpa using h1
    rw [h1'] at hg0 hr
    rw [Bool.false_and] at hr
    clear h1 h1' hsz hx'
    go_enter Try.func16, Try.ntmps16
    go_wp2_with fail
    refine hg0.mono ?_
    rintro e w1 ⟨rfl, hb1⟩
    have hpost : BoolPost (isIndexB t) w (.returned (.bool false)) w1 := ⟨by rw [hr.out], hb0.trans (hb1.mono hb0.size)⟩
    clear hg0 hb0 hb1 hk hr
    go_wp2
    go_ret
    exact hpost
end Go.Proofs.Ytihijigbdpjcoaa
end

