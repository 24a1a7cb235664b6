/-
  The laws' own comparison of two values that read as the same term, as contracts. Formulas: their sizes, copies and comparison in the laws, as contracts.
-/
import Derived.Test.YthjkogighppeaaaKSetOfFormula2
import Derived.Test.YthjkogighppeaaaKSetOfFormula3
import Derived.Deep.RegionHeld3
import Derived.Deep.DrawnRows
import Derived.Test.YthjkogighppeaaaKSetOfFormula5
section
namespace Go.Proofs.Ythjkogighppeaaa
open Go.RowKit Go.Sort

/-- Yes, and new blocks at most. -/
def YesPost (w : World) (e : Ending) (w' : World) : Prop := e = .returned (.bool true) ∧ Below w.heap.size w w'

theorem Calls.regrown_yes {f : FuncId} {args : Array Value} {w : World} {d : Nat} {os : Array Obj} (h : Calls Try.prog f args (grow (redrawn w d) os) (YesPost (grow (redrawn w d) os))) :
    Calls Try.prog f args (grow (redrawn w d) os) fun e w'' => e = .returned (.bool true) ∧ ∃ p : Regrown, w'' = grow (redrawn w p.d) p.os := Calls.regrown_of h

end Go.Proofs.Ythjkogighppeaaa
end

section
namespace Go.Proofs.Ythjkogighppeaaa
open Go.RowKit Go.Sort
set_option linter.unusedVariables false

set_option maxRecDepth 100000 in
set_option maxHeartbeats 1000000 in
theorem szFormula_of (t : Fm) (x : Value) (w : World) (left : Int) (h0 : 0 ≤ left) (h1 : left ≤ 1099511627776) (hx : FmIn w x t)
    (ih : ∀ (left' : Int) (w' : World) (y : Value), 0 ≤ left' → left' ≤ 1099511627776 → FmsIn w' y t.kids → Calls Try.prog 13 #[y, .int .i64 left'] w' (LeftPost left' (t.kids.length + sumFm t.kids) w')) :
    Calls Try.prog 4 #[x, .int .i64 left] w (LeftPost left (cntFm t) w) := by
  obtain ⟨B, d, rfl, hk⟩ := hx
  rw [cntFm_eq]
  have hb0 : Below w.heap.size w (w.alloc (.cells #[.int .i64 t.op, .int .i64 t.fa, .int .i64 t.fb, .slice B t.kids.length d] 24)) := (Below.refl _ _).alloc (Nat.le_refl _) _
  have hih := ih left _ _ h0 h1 (hk.below hb0)
  clear ih hk
  generalize t.kids.length + sumFm t.kids = kc at *
  by_cases h3 : (kc : Int) ≤ left
  · have hl3 : ¬ left - (kc : Int) < 0 := by omega
    have hr : Hid (leftR left kc = left - kc) := leftR_yes h3
    unfold LeftPost at hih
    rw [leftR_yes h3] at hih
    go_enter Try.func4, Try.ntmps4
    go_wp2_with fail
    refine hih.mono ?_
    rintro e w1 ⟨rfl, hb1⟩
    have hpost : LeftPost left kc w (.returned (.int .i64 (left - kc))) w1 := ⟨by rw [hr.out], hb0.trans (hb1.mono hb0.size)⟩
    clear hih hb0 hb1 hr
    go_wp2
    go_ret
    exact hpost
  · have hr : Hid (leftR left kc = -1) := leftR_no h3
    unfold LeftPost at hih
    rw [leftR_no h3] at hih
    go_enter Try.func4, Try.ntmps4
    go_wp2_with fail
    refine hih.mono ?_
    rintro e w1 ⟨rfl, hb1⟩
    have hpost : LeftPost left kc w (.returned (.int .i64 (-1))) w1 := ⟨by rw [hr.out], hb0.trans (hb1.mono hb0.size)⟩
    clear hih hb0 hb1 hr
    go_wp2
    go_ret
    exact hpost

set_option maxRecDepth 100000 in
set_option maxHeartbeats 2000000 in
theorem szFormulaS_step (ts : List Fm) (hlen : ts.length ≤ maxLen) (left : Int) (w : World) (x : Value) (h0 : 0 ≤ left) (h1 : left ≤ 1099511627776) (hx : FmsIn w x ts)
    (ih : ∀ i, i < ts.length → ∀ (left' : Int) (w' : World) (y : Value), 0 ≤ left' → left' ≤ 1099511627776 → FmsIn w' y (fmAt ts i).kids → Calls Try.prog 13 #[y, .int .i64 left'] w' (LeftPost left' ((fmAt ts i).kids.length + sumFm (fmAt ts i).kids) w')) :
    Calls Try.prog 13 #[x, .int .i64 left] w (LeftPost left (ts.length + sumFm ts) w) := by
  obtain ⟨A, c, rfl⟩ := hx.form
  unfold maxLen at hlen
  by_cases h2 : (ts.length : Int) ≤ left
  · have hl2 : ¬ left - (ts.length : Int) < 0 := by omega
    go_enter Try.func13, Try.ntmps13
    go_wp2
    go_loopw [1, 5] (fun l i wr => ∃ k : Nat, k ≤ ts.length ∧ i = .int .i64 k ∧ l = .int .i64 (left - ts.length - sumFm (ts.take k)) ∧ (sumFm (ts.take k) : Int) ≤ left - ts.length ∧ Below w.heap.size w wr) (fun _ i _ => ts.length - (intOf i).toNat)
    case atStart => exact ⟨0, Nat.zero_le _, rfl, by simp [sumFm], by simp [sumFm]; omega, Below.refl _ _⟩
    case round =>
      obtain ⟨k, hk, rfl, rfl, hle, hb⟩ := hrel
      by_cases hlt : k < ts.length
      · have hxr := hx.below hb
        obtain ⟨b, off, rfl, hbl, hget⟩ := hxr.get (by omega)
        obtain ⟨B1, e1, d0, d1, d2, d3, hk1⟩ := hget k hlt
        have hct := szFormula_of (fmAt ts k) _ wr (left - ts.length - sumFm (ts.take k)) (by omega) (by omega) ⟨B1, e1, rfl, hk1⟩ (ih k hlt)
        have hnx := Lib.hid (sumFm_next hlt)
        have hst := sumFm_take ts (k + 1)
        generalize hc : cntFm (fmAt ts k) = cc at hct hnx
        generalize hs : sumFm (ts.take k) = s at hct hnx hle
        generalize fmAt ts k = tk at *
        clear hget hk1 hx hxr ih hc hs
        by_cases h3 : (cc : Int) ≤ left - ts.length - s
        · have hl3 : ¬ left - (ts.length : Int) - (s : Int) - (cc : Int) < 0 := by omega
          unfold LeftPost at hct
          rw [leftR_yes h3] at hct
          have hse : Hid (((sumFm (ts.take (k + 1)) : Nat) : Int) = s + cc) := by show ((sumFm (ts.take (k + 1)) : Nat) : Int) = s + cc; rw [hnx.out]; omega
          clear hst
          go_wp2_with fail
          refine hct.mono ?_
          rintro e w2 ⟨rfl, hb2⟩
          have hb3 := hb.trans (hb2.mono hb.size)
          clear hct hb2 d0 d1 d2 d3
          go_wp2
          refine ⟨⟨k + 1, by omega, by go_num, by rw [hse.out]; go_num, by rw [hse.out]; omega, hb3⟩, ?_⟩
          simp only [intOf]
          omega
        · unfold LeftPost at hct
          rw [leftR_no h3] at hct
          have hr : Hid (leftR left (ts.length + sumFm ts) = -1) := by
            show leftR left (ts.length + sumFm ts) = -1
            refine leftR_no ?_
            have := hnx.out
            omega
          clear hst
          go_wp2_with fail
          refine hct.mono ?_
          rintro e w2 ⟨rfl, hb2⟩
          have hpost : LeftPost left (ts.length + sumFm ts) w (.returned (.int .i64 (-1))) w2 := ⟨by rw [hr.out], hb.trans (hb2.mono hb.size)⟩
          clear hct hb2 d0 d1 d2 d3 hr hb
          go_wp2
          go_ret
          exact hpost
      · have e : k = ts.length := by omega
        have hr : Hid (left - ts.length - sumFm (ts.take k) = leftR left (ts.length + sumFm ts)) := by
          show left - ts.length - sumFm (ts.take k) = leftR left (ts.length + sumFm ts)
          rw [List.take_of_length_le (by omega)] at hle ⊢
          rw [leftR_yes (by omega)]
          omega
        have hpost : LeftPost left (ts.length + sumFm ts) w (.returned (.int .i64 (left - ts.length - sumFm (ts.take k)))) wr := ⟨by rw [hr.out], hb⟩
        clear hx ih e hr hb
        go_wp2
        go_ret
        exact hpost
  · have hl2 : left - (ts.length : Int) < 0 := by omega
    have hpost : LeftPost left (ts.length + sumFm ts) w (.returned (.int .i64 (-1))) w := ⟨by rw [leftR_no (by omega)], Below.refl _ _⟩
    clear ih hx
    go_enter Try.func13, Try.ntmps13
    go_wp2
    go_ret
    exact hpost

theorem szFormulaS_any : ∀ (N : Nat) (ts : List Fm), szFms ts ≤ N → ShortFms ts → ts.length ≤ maxLen → ∀ (left : Int) (w : World) (x : Value), 0 ≤ left → left ≤ 1099511627776 → FmsIn w x ts →
    Calls Try.prog 13 #[x, .int .i64 left] w (LeftPost left (ts.length + sumFm ts) w) := by
  intro N
  induction N with
  | zero =>
    intro ts hN hsh hlen left w x h0 h1 hx
    exact szFormulaS_step ts hlen left w x h0 h1 hx fun i hi => absurd (szFms_kid hi) (by omega)
  | succ N ih =>
    intro ts hN hsh hlen left w x h0 h1 hx
    refine szFormulaS_step ts hlen left w x h0 h1 hx fun i hi left' w' y g0 g1 hy => ?_
    have h2 := (shortFm_eq _).1 (shortFms_at hsh hi)
    exact ih _ (by have := szFms_kid hi; omega) h2.2 h2.1 left' w' y g0 g1 hy
theorem szFormula_any (t : Fm) (hs : ShortFm t) (left : Int) (w : World) (x : Value) (h0 : 0 ≤ left) (h1 : left ≤ 1099511627776) (hx : FmIn w x t) :
    Calls Try.prog 4 #[x, .int .i64 left] w (LeftPost left (cntFm t) w) := by
  have h2 := (shortFm_eq _).1 hs
  exact szFormula_of t x w left h0 h1 hx fun l' w' y g0 g1 hy => szFormulaS_any _ t.kids (Nat.le_refl _) h2.2 h2.1 l' w' y g0 g1 hy

/-- A slice of formulas of the call's own. -/
def FmsOut (ts : List Fm) (w : World) (e : Ending) (w' : World) : Prop :=
  ∃ v S, e = .returned v ∧ Own w' S v (fmsMem ts) ∧ (∀ b ∈ S, w.heap.size ≤ b) ∧ Below w.heap.size w w'
/-- A formula whose slice is of the call's own. -/
def FmOut (t : Fm) (w : World) (e : Ending) (w' : World) : Prop :=
  ∃ A2 c2 S, e = .returned (.agg #[.int .i64 t.op, .int .i64 t.fa, .int .i64 t.fb, .slice A2 t.kids.length c2]) ∧
    OwnL w' S [.int .i64 t.op, .int .i64 t.fa, .int .i64 t.fb, .slice A2 t.kids.length c2] (encFm t) ∧ (∀ b ∈ S, w.heap.size ≤ b) ∧ Below w.heap.size w w'
theorem ownL_fm {w : World} {t : Fm} {kv : Value} {T : List Nat} (k : Own w T kv (fmsMem t.kids)) : OwnL w (T ++ []) [.int .i64 t.op, .int .i64 t.fa, .int .i64 t.fb, kv] (encFm t) := by
  rw [encFm_eq]
  exact .cons (S := []) (.cell _) (.cons (S := []) (.cell _) (.cons (S := []) (.cell _) (.cons k .nil (fun b _ => by simp)) (fun b hb => by simp at hb)) (fun b hb => by simp at hb)) (fun b hb => by simp at hb)
theorem fmOut_in {w : World} {S : List Nat} {t : Fm} {A : Option Addr} {c : Nat} (h : OwnL w S [.int .i64 t.op, .int .i64 t.fa, .int .i64 t.fb, .slice A t.kids.length c] (encFm t)) :
    FmIn w (.agg #[.int .i64 t.op, .int .i64 t.fa, .int .i64 t.fb, .slice A t.kids.length c]) t := by
  have h1 := h.at_
  rw [encFm_eq] at h1
  cases h1 with
  | cons _ h1 => cases h1 with
    | cons _ h1 => cases h1 with
      | cons _ h1 => cases h1 with
        | cons h3 _ => exact ⟨A, c, rfl, h3⟩

set_option maxRecDepth 100000 in
set_option maxHeartbeats 2000000 in
theorem toFormula_of (t : Fm) (x : Value) (w : World) (hx : FmIn w x t)
    (ih : ∀ (w' : World) (y : Value), FmsIn w' y t.kids → Calls Try.prog 20 #[y] w' (FmsOut t.kids w')) :
    Calls Try.prog 6 #[x] w (FmOut t w) := by
  obtain ⟨B, d, rfl, hk⟩ := hx
  have hb0 : Below w.heap.size w (((w.alloc (.cells #[.int .i64 t.op, .int .i64 t.fa, .int .i64 t.fb, .slice B t.kids.length d] 24)).alloc (.cells #[.int .i64 0, .int .i64 0, .int .i64 0, .slice none 0 0] 34)).alloc (.cells #[.int .i64 t.op, .int .i64 t.fa, .int .i64 t.fb, .slice none 0 0] 34)) :=
    (((Below.refl _ _).alloc (Nat.le_refl _) _).alloc (by simp) _).alloc (by simp; omega) _
  have hsz0 : (((w.alloc (.cells #[.int .i64 t.op, .int .i64 t.fa, .int .i64 t.fb, .slice B t.kids.length d] 24)).alloc (.cells #[.int .i64 0, .int .i64 0, .int .i64 0, .slice none 0 0] 34)).alloc (.cells #[.int .i64 t.op, .int .i64 t.fa, .int .i64 t.fb, .slice none 0 0] 34)).heap.size = w.heap.size + 3 := by simp
  have hres : (((w.alloc (.cells #[.int .i64 t.op, .int .i64 t.fa, .int .i64 t.fb, .slice B t.kids.length d] 24)).alloc (.cells #[.int .i64 0, .int .i64 0, .int .i64 0, .slice none 0 0] 34)).alloc (.cells #[.int .i64 t.op, .int .i64 t.fa, .int .i64 t.fb, .slice none 0 0] 34)).heap[w.heap.size + 1]? = some (.cells #[.int .i64 0, .int .i64 0, .int .i64 0, .slice none 0 0] 34 (0, 0)) := by
    have h9 := heap_alloc_new (w.alloc (.cells #[.int .i64 t.op, .int .i64 t.fa, .int .i64 t.fb, .slice B t.kids.length d] 24)) (.cells #[.int .i64 0, .int .i64 0, .int .i64 0, .slice none 0 0] 34)
    rw [World.size_alloc] at h9
    exact (Below.heap_alloc _ _ _ (by simp)).trans h9
  have hout : (((w.alloc (.cells #[.int .i64 t.op, .int .i64 t.fa, .int .i64 t.fb, .slice B t.kids.length d] 24)).alloc (.cells #[.int .i64 0, .int .i64 0, .int .i64 0, .slice none 0 0] 34)).alloc (.cells #[.int .i64 t.op, .int .i64 t.fa, .int .i64 t.fb, .slice none 0 0] 34)).heap[w.heap.size + 1 + 1]? = some (.cells #[.int .i64 t.op, .int .i64 t.fa, .int .i64 t.fb, .slice none 0 0] 34 (0, 0)) := by
    have h9 := heap_alloc_new ((w.alloc (.cells #[.int .i64 t.op, .int .i64 t.fa, .int .i64 t.fb, .slice B t.kids.length d] 24)).alloc (.cells #[.int .i64 0, .int .i64 0, .int .i64 0, .slice none 0 0] 34)) (.cells #[.int .i64 t.op, .int .i64 t.fa, .int .i64 t.fb, .slice none 0 0] 34)
    rw [World.size_alloc, World.size_alloc] at h9
    exact h9
  have hih := ih (((w.alloc (.cells #[.int .i64 t.op, .int .i64 t.fa, .int .i64 t.fb, .slice B t.kids.length d] 24)).alloc (.cells #[.int .i64 0, .int .i64 0, .int .i64 0, .slice none 0 0] 34)).alloc (.cells #[.int .i64 t.op, .int .i64 t.fa, .int .i64 t.fb, .slice none 0 0] 34)) (.slice B t.kids.length d) (hk.below hb0)
  have HS0 := Lib.hid hsz0
  have HR := Lib.hid hres
  have HO := Lib.hid hout
  clear hk ih hsz0 hres hout
  go_enter Try.func6, Try.ntmps6
  go_wp2_with fail
  refine hih.mono ?_
  rintro e w3 ⟨kv', S3, rfl, hS3, hS3b, hb3⟩
  obtain ⟨Ak, ck, rfl⟩ := FmsIn.form (ts := t.kids) hS3.at_
  rw [HS0.out] at hS3b
  have hbx := (hb3.block (w.heap.size + 1 + 1) (by rw [HS0.out]; omega)).trans HO.out
  have hrx := (hb3.block (w.heap.size + 1) (by rw [HS0.out]; omega)).trans HR.out
  have hbw := hb0.trans (hb3.mono hb0.size)
  have hL := ownL_fm (t := t) hS3
  have hLb : ∀ b ∈ S3 ++ [], w.heap.size + 2 < b := fun b hb => by
    rw [List.append_nil] at hb
    have := hS3b b hb; omega
  have hne : ∀ b ∈ S3 ++ [], b ≠ w.heap.size + 1 := fun b hb => by have := hLb b hb; omega
  have hne2 : ∀ b ∈ S3 ++ [], b ≠ w.heap.size + 1 + 1 := fun b hb => by have := hLb b hb; omega
  have hbz : Below w.heap.size w (w3.setCell ⟨w.heap.size + 1 + 1, 3, none⟩ (.slice Ak t.kids.length ck)) := hbw.setCell (by simp; omega) _
  have hpost : FmOut t w (.returned (.agg #[.int .i64 t.op, .int .i64 t.fa, .int .i64 t.fb, .slice Ak t.kids.length ck])) ((((w3.setCell ⟨w.heap.size + 1 + 1, 3, none⟩ (.slice Ak t.kids.length ck)).setCell ⟨w.heap.size + 1, 0, none⟩ (.int .i64 t.op)).setCell ⟨w.heap.size + 1, 1, none⟩ (.int .i64 t.fa)).setCell ⟨w.heap.size + 1, 2, none⟩ (.int .i64 t.fb) |>.setCell ⟨w.heap.size + 1, 3, none⟩ (.slice Ak t.kids.length ck)) :=
    ⟨Ak, ck, _, rfl, ((((hL.setOther ⟨w.heap.size + 1 + 1, 3, none⟩ (.slice Ak t.kids.length ck) hne2).setOther ⟨w.heap.size + 1, 0, none⟩ (.int .i64 t.op) hne).setOther ⟨w.heap.size + 1, 1, none⟩ (.int .i64 t.fa) hne).setOther ⟨w.heap.size + 1, 2, none⟩ (.int .i64 t.fb) hne).setOther ⟨w.heap.size + 1, 3, none⟩ (.slice Ak t.kids.length ck) hne,
     fun b hb => by have := hLb b hb; omega, (((hbz.setCell (by simp) _).setCell (by simp) _).setCell (by simp) _).setCell (by simp) _⟩
  have hc0 : w3.cell? ⟨w.heap.size + 1 + 1, 0, none⟩ = some (.int .i64 t.op) := by rw [cell_of_row w3 (w.heap.size + 1 + 1) 0 _ _ _ hbx]; rfl
  have hc1 : w3.cell? ⟨w.heap.size + 1 + 1, 1, none⟩ = some (.int .i64 t.fa) := by rw [cell_of_row w3 (w.heap.size + 1 + 1) 1 _ _ _ hbx]; rfl
  have hc2 : w3.cell? ⟨w.heap.size + 1 + 1, 2, none⟩ = some (.int .i64 t.fb) := by rw [cell_of_row w3 (w.heap.size + 1 + 1) 2 _ _ _ hbx]; rfl
  have hc3 : w3.cell? ⟨w.heap.size + 1 + 1, 3, none⟩ = some (.slice none 0 0) := by rw [cell_of_row w3 (w.heap.size + 1 + 1) 3 _ _ _ hbx]; rfl
  have hf3 : w3.frozen? ⟨w.heap.size + 1 + 1, 3, none⟩ = false := frozen_of_row w3 (w.heap.size + 1 + 1) 3 _ _ hbx
  have hr0 : w3.cell? ⟨w.heap.size + 1, 0, none⟩ = some (.int .i64 0) := by rw [cell_of_row w3 (w.heap.size + 1) 0 _ _ _ hrx]; rfl
  have hr1 : w3.cell? ⟨w.heap.size + 1, 1, none⟩ = some (.int .i64 0) := by rw [cell_of_row w3 (w.heap.size + 1) 1 _ _ _ hrx]; rfl
  have hr2 : w3.cell? ⟨w.heap.size + 1, 2, none⟩ = some (.int .i64 0) := by rw [cell_of_row w3 (w.heap.size + 1) 2 _ _ _ hrx]; rfl
  have hr3 : w3.cell? ⟨w.heap.size + 1, 3, none⟩ = some (.slice none 0 0) := by rw [cell_of_row w3 (w.heap.size + 1) 3 _ _ _ hrx]; rfl
  have hz0 : w3.frozen? ⟨w.heap.size + 1, 0, none⟩ = false := frozen_of_row w3 (w.heap.size + 1) 0 _ _ hrx
  have hz1 : w3.frozen? ⟨w.heap.size + 1, 1, none⟩ = false := frozen_of_row w3 (w.heap.size + 1) 1 _ _ hrx
  have hz2 : w3.frozen? ⟨w.heap.size + 1, 2, none⟩ = false := frozen_of_row w3 (w.heap.size + 1) 2 _ _ hrx
  have hz3 : w3.frozen? ⟨w.heap.size + 1, 3, none⟩ = false := frozen_of_row w3 (w.heap.size + 1) 3 _ _ hrx
  clear hih hbw hS3 hbz hb3 HS0 HR HO hbx hrx hS3b hL hLb hne hne2 hb0
  go_wp2
  exact bodyPost_ret (v := .agg #[.int .i64 t.op, .int .i64 t.fa, .int .i64 t.fb, .slice Ak t.kids.length ck]) (by simp [results, Try.results6, go_sem, hr0, hr1, hr2, hr3]) rfl hpost

theorem fm_info : (Try.prog.info? 34).map (fun i => (i.zero, i.size, i.bytes)) = some (some (.agg #[.int .i64 0, .int .i64 0, .int .i64 0, .slice none 0 0]), 4, 48) := by kernel_rfl

set_option maxRecDepth 100000 in
set_option maxHeartbeats 4000000 in
theorem toFormulaS_step (ts : List Fm) (hlen : ts.length ≤ 1048576) (w : World) (x : Value) (hx : FmsIn w x ts)
    (ih : ∀ i, i < ts.length → ∀ (w' : World) (y : Value), FmIn w' y (fmAt ts i) → Calls Try.prog 6 #[y] w' (FmOut (fmAt ts i) w')) :
    Calls Try.prog 20 #[x] w (FmsOut ts w) := by
  obtain ⟨A, c, rfl⟩ := hx.form
  obtain ⟨i0, hi0, hz0, hz1, hz2⟩ := info_parts fm_info
  have HS := Lib.hid hz2
  clear hz2
  go_enter Try.func20, Try.ntmps20
  go_wp2_with (at_make; refine wpList_make_full _ rfl (.tmp 6) (.tmp 6) 32 rfl w.heap.size 34 i0 _ 4 Try.underlying32 hi0 hz0 hz1 .i64 .i64 _ _ ts.length rfl rfl rfl rfl ?c1 ?c2 (Nat.le_refl _) ?_)
  case c1 => rw [HS.out]; omega
  case c2 => unfold maxLen; omega
  intro w1 ho hg
  have hb0 := (Below.refl w.heap.size w).grown hg (Nat.le_refl _) (fun k hk => by cases hk)
  clear hg
  generalize hz : (madeCells #[Value.int IntKind.i64 0, Value.int IntKind.i64 0, Value.int IntKind.i64 0, Value.slice none 0 0] (ts.length * 4)).toList = zs at ho
  clear hz
  have hlt0 : w.heap.size < w1.heap.size := (ho.lt w.heap.size rfl).2
  go_wp2
  go_loopw [4] (fun i wr => ∃ (k : Nat) (S : List Nat) (xs : List Value), k ≤ ts.length ∧ i = .int .i64 k ∧ wr.ownsRow w.heap.size 34 4 (.slice (some ⟨w.heap.size, 0, none⟩) ts.length ts.length) ts.length xs ∧ OwnL wr S (xs.take (k * 4)) (encFms (ts.take k)) ∧ (∀ b ∈ S, w.heap.size < b) ∧ Below w.heap.size w wr) (fun i _ => ts.length - (intOf i).toNat)
  case atStart => exact ⟨0, [], zs, Nat.zero_le _, rfl, ho, by simp [encFms]; exact .nil, fun b hb => by simp at hb, hb0⟩
  case round =>
    clear ho hb0
    obtain ⟨k, S, xs, hk, rfl, ho, hL, hSb, hb⟩ := hrel
    have hwr : w.heap.size < wr.heap.size := (ho.lt w.heap.size rfl).2
    by_cases hlt : k < ts.length
    · have hxr := hx.below hb
      obtain ⟨b, off, rfl, hbl, hget⟩ := hxr.get (by omega)
      obtain ⟨B1, e9, d0, d1, d2, d3, hk1⟩ := hget k hlt
      have hct := ih k hlt wr _ ⟨B1, e9, rfl, hk1⟩
      have hnx := Lib.hid (congrArg encFms (fm_take_next hlt))
      generalize fmAt ts k = t at hct hnx d0 d1 d2 d3
      clear hget hk1 hx hxr ih hbl
      go_wp2_with fail
      refine hct.mono ?_
      rintro e w2 ⟨P2, q2c, R, rfl, hR, hRb, hb2⟩
      have ho2 := own_below ho hb2
      have hL2 := hL.alike (w' := w2) fun b hb' => hb2.block b (hL.lt b hb')
      have hb3 := hb.trans (hb2.mono hb.size)
      have hxl := ho2.1
      obtain ⟨v0, e0⟩ := some_of_lt xs (k * 4) (by omega)
      obtain ⟨v1, e1⟩ := some_of_lt xs (k * 4 + 1) (by omega)
      obtain ⟨v2, e2⟩ := some_of_lt xs (k * 4 + 2) (by omega)
      obtain ⟨v3, e3⟩ := some_of_lt xs (k * 4 + 3) (by omega)
      have g0 := (ho2.cellAt (k * 4) (by omega)).trans e0
      have g1 := (ho2.cellAt (k * 4 + 1) (by omega)).trans e1
      have g2 := (ho2.cellAt (k * 4 + 2) (by omega)).trans e2
      have g3 := (ho2.cellAt (k * 4 + 3) (by omega)).trans e3
      have f0 := ho2.frozenAt (k * 4)
      have f1 := ho2.frozenAt (k * 4 + 1)
      have f2 := ho2.frozenAt (k * 4 + 2)
      have f3 := ho2.frozenAt (k * 4 + 3)
      obtain ⟨o1, q1⟩ := ho2.stored (k * 4) (.int .i64 t.op)
      obtain ⟨o2, q2⟩ := o1.stored (k * 4 + 1) (.int .i64 t.fa)
      obtain ⟨o3, q3⟩ := o2.stored (k * 4 + 2) (.int .i64 t.fb)
      obtain ⟨o4, q4⟩ := o3.stored (k * 4 + 3) (.slice P2 t.kids.length q2c)
      have hq := grownBy_trans q1 (grownBy_trans q2 (grownBy_trans q3 q4))
      have hL3 := hL2.kept hq (fun b hb' => by have := hSb b hb'; intro e; injection e with e; omega)
      have hR3 := hR.kept hq (fun b hb' => by have := hRb b hb'; intro e; injection e with e; omega)
      have hdis : ∀ b ∈ S, b ∉ R := fun b h1 h2 => by have h3 := hL.lt b h1; have h4 := hRb b h2; omega
      have hL4 := hL3.append hR3 hdis
      have hb5 := hb3.grown hq hb3.size (fun j hj => by injection hj with hj; omega)
      have htk : Hid (((((xs.set (k * 4) (.int .i64 t.op)).set (k * 4 + 1) (.int .i64 t.fa)).set (k * 4 + 2) (.int .i64 t.fb)).set (k * 4 + 3) (.slice P2 t.kids.length q2c)).take ((k + 1) * 4) = xs.take (k * 4) ++ [.int .i64 t.op, .int .i64 t.fa, .int .i64 t.fb, .slice P2 t.kids.length q2c]) := by
        show ((((xs.set (k * 4) (.int .i64 t.op)).set (k * 4 + 1) (.int .i64 t.fa)).set (k * 4 + 2) (.int .i64 t.fb)).set (k * 4 + 3) (.slice P2 t.kids.length q2c)).take ((k + 1) * 4) = xs.take (k * 4) ++ [.int .i64 t.op, .int .i64 t.fa, .int .i64 t.fb, .slice P2 t.kids.length q2c]
        rw [show (k + 1) * 4 = k * 4 + 4 by omega]
        exact take_set4 (by omega)
      have hL5 := hL4
      rw [← htk.out, ← (show encFms [t] = encFm t by simp [encFms]), ← encFms_append, ← hnx.out] at hL5
      have hSR : ∀ b ∈ S ++ R, w.heap.size < b := fun b hb' => by
        rcases List.mem_append.1 hb' with h | h
        · exact hSb b h
        · have := hRb b h; omega
      clear ho ho2 hL hL2 hL3 hL4 hR hR3 hb hb2 hb3 q1 q2 q3 q4 hq o1 o2 o3 e0 e1 e2 e3 hxl hct hnx htk hdis hSb hRb d0 d1 d2 d3
      go_wp2
      refine ⟨⟨k + 1, S ++ R, _, by omega, by go_num, o4, hL5, hSR, hb5⟩, ?_⟩
      simp only [intOf]
      omega
    · have e : k = ts.length := by omega
      subst e
      have hl := ho.1
      rw [List.take_of_length_le (by omega), List.take_of_length_le (Nat.le_refl _)] at hL
      have hpost : FmsOut ts w (.returned (.slice (some ⟨w.heap.size, 0, none⟩) ts.length ts.length)) wr :=
        ⟨_, w.heap.size :: S, rfl, .row (encFms_len ts) (own_le ho (Nat.zero_le _)) hL (fun h => by have := hSb _ h; omega), fun b hb' => by
          rcases List.mem_cons.1 hb' with h | h
          · omega
          · have := hSb b h; omega, hb⟩
      clear ho hL hSb hb hx ih hl
      go_wp2
      go_ret
      exact hpost

theorem toFormulaS_any : ∀ (N : Nat) (ts : List Fm), szFms ts ≤ N → FitFms ts → ts.length ≤ 1048576 → ∀ (w : World) (x : Value), FmsIn w x ts → Calls Try.prog 20 #[x] w (FmsOut ts w) := by
  intro N
  induction N with
  | zero =>
    intro ts hN hf hlen w x hx
    exact toFormulaS_step ts hlen w x hx fun i hi => absurd (szFms_kid hi) (by omega)
  | succ N ih =>
    intro ts hN hf hlen w x hx
    refine toFormulaS_step ts hlen w x hx fun i hi w' y hy => ?_
    have h2 := (fitFm_eq _).1 (fitFms_at hf hi)
    exact toFormula_of _ y w' hy fun w'' z hz => ih _ (by have := szFms_kid hi; omega) h2.2 h2.1 w'' z hz
theorem toFormula_any (t : Fm) (hf : FitFm t) (w : World) (x : Value) (hx : FmIn w x t) : Calls Try.prog 6 #[x] w (FmOut t w) := by
  have h2 := (fitFm_eq _).1 hf
  exact toFormula_of t x w hx fun w' y hy => toFormulaS_any _ _ (Nat.le_refl _) h2.2 h2.1 w' y hy

set_option maxRecDepth 100000 in
set_option maxHeartbeats 1000000 in
theorem eqFormula_of (t : Fm) (x y : Value) (w : World) (hx : FmIn w x t) (hy : FmIn w y t)
    (ih : ∀ (w' : World) (x' y' : Value), FmsIn w' x' t.kids → FmsIn w' y' t.kids → Calls Try.prog 31 #[x', y'] w' (YesPost w')) :
    Calls Try.prog 9 #[x, y] w (YesPost w) := by
  obtain ⟨B1, d1, rfl, hk1⟩ := hx
  obtain ⟨B2, d2, rfl, hk2⟩ := hy
  have hb0 : Below w.heap.size w ((w.alloc (.cells #[.int .i64 t.op, .int .i64 t.fa, .int .i64 t.fb, .slice B1 t.kids.length d1] 34)).alloc (.cells #[.int .i64 t.op, .int .i64 t.fa, .int .i64 t.fb, .slice B2 t.kids.length d2] 34)) :=
    ((Below.refl _ _).alloc (Nat.le_refl _) _).alloc (by simp) _
  have hih := ih _ _ _ (hk1.below hb0) (hk2.below hb0)
  have k1 : (t.op != t.op) = false := by simp
  have k2 : (t.fa != t.fa) = false := by simp
  have k3 : (t.fb != t.fb) = false := by simp
  clear hk1 hk2 ih
  go_enter Try.func9, Try.ntmps9
  go_wp2_with fail
  refine hih.mono ?_
  rintro e w2 ⟨rfl, hb2⟩
  have hpost : YesPost w (.returned (.bool true)) w2 := ⟨rfl, hb0.trans (hb2.mono hb0.size)⟩
  clear hih hb0 hb2
  go_wp2
  go_ret
  exact hpost

set_option maxRecDepth 100000 in
set_option maxHeartbeats 2000000 in
theorem eqFormulaS_step (ts : List Fm) (hlen : ts.length ≤ 1048576) (w : World) (x y : Value) (hx : FmsIn w x ts) (hy : FmsIn w y ts)
    (ih : ∀ i, i < ts.length → ∀ (w' : World) (x' y' : Value), FmIn w' x' (fmAt ts i) → FmIn w' y' (fmAt ts i) → Calls Try.prog 9 #[x', y'] w' (YesPost w')) :
    Calls Try.prog 31 #[x, y] w (YesPost w) := by
  obtain ⟨A, c, rfl⟩ := hx.form
  obtain ⟨B, d, rfl⟩ := hy.form
  have k0 : ((ts.length : Int) != (ts.length : Int)) = false := by simp
  go_enter Try.func31, Try.ntmps31
  go_wp2
  go_loopw [5] (fun i wr => ∃ k : Nat, k ≤ ts.length ∧ i = .int .i64 k ∧ Below w.heap.size w wr) (fun i _ => ts.length - (intOf i).toNat)
  case atStart => exact ⟨0, Nat.zero_le _, rfl, Below.refl _ _⟩
  case round =>
    obtain ⟨k, hk, rfl, hb⟩ := hrel
    by_cases hlt : k < ts.length
    · obtain ⟨b1, o1, rfl, hb1, hg1⟩ := (hx.below hb).get (by omega)
      obtain ⟨b2, o2, rfl, hb2, hg2⟩ := (hy.below hb).get (by omega)
      obtain ⟨B1, f1, d0, d1, d2, d3, hk1⟩ := hg1 k hlt
      obtain ⟨B2, f2, e0, e1, e2, e3, hk2⟩ := hg2 k hlt
      have hct := fun dq os => Calls.regrown_yes (ih k hlt (grow (redrawn wr dq) os) _ _ ⟨B1, f1, rfl, hk1.below (below_regrown wr dq os)⟩ ⟨B2, f2, rfl, hk2.below (below_regrown wr dq os)⟩)
      have p0 := fun d os => cell_regrown d0 d os
      have p1 := fun d os => cell_regrown d1 d os
      have p2 := fun d os => cell_regrown d2 d os
      have p3 := fun d os => cell_regrown d3 d os
      have q0 := fun d os => cell_regrown e0 d os
      have q1 := fun d os => cell_regrown e1 d os
      have q2 := fun d os => cell_regrown e2 d os
      have q3 := fun d os => cell_regrown e3 d os
      generalize fmAt ts k = t at hct p0 p1 p2 p3 q0 q1 q2 q3
      clear hg1 hg2 hk1 hk2 hx hy ih hb1 hb2 d0 d1 d2 d3 e0 e1 e2 e3
      go_wp2
      refine wp_region_quiet_below (by kernel_rfl) (by kernel_rfl) ?_
      repeat (any_goals (first | go_big_quiet_step ((go_at_call 9; exact hct _ _)) | quiet_step ((go_at_call 9; exact hct _ _))))
      refine wpQuiet_nil ?_
      intro _ hw'
      obtain ⟨⟨dq, osq⟩, hw''⟩ := hw'
      subst hw''
      have hb3 := hb.trans ((below_regrown wr dq osq).mono hb.size)
      clear p0 p1 p2 p3 q0 q1 q2 q3 hct
      generalize grow (redrawn wr dq) osq = w2 at *
      go_wp2
      refine ⟨⟨k + 1, by omega, by go_num, hb3⟩, ?_⟩
      simp only [intOf]
      omega
    · have hpost : YesPost w (.returned (.bool true)) wr := ⟨rfl, hb⟩
      clear hx hy ih hb
      go_wp2
      go_ret
      exact hpost

theorem eqFormulaS_any : ∀ (N : Nat) (ts : List Fm), szFms ts ≤ N → FitFms ts → ts.length ≤ 1048576 → ∀ (w : World) (x y : Value), FmsIn w x ts → FmsIn w y ts → Calls Try.prog 31 #[x, y] w (YesPost w) := by
  intro N
  induction N with
  | zero =>
    intro ts hN hf hlen w x y hx hy
    exact eqFormulaS_step ts hlen w x y hx hy fun i hi => absurd (szFms_kid hi) (by omega)
  | succ N ih =>
    intro ts hN hf hlen w x y hx hy
    refine eqFormulaS_step ts hlen w x y hx hy fun i hi w' x' y' hx' hy' => ?_
    have h2 := (fitFm_eq _).1 (fitFms_at hf hi)
    exact eqFormula_of _ x' y' w' hx' hy' fun w'' x'' y'' h3 h4 => ih _ (by have := szFms_kid hi; omega) h2.2 h2.1 w'' x'' y'' h3 h4
theorem eqFormula_any (t : Fm) (hf : FitFm t) (w : World) (x y : Value) (hx : FmIn w x t) (hy : FmIn w y t) : Calls Try.prog 9 #[x, y] w (YesPost w) := by
  have h2 := (fitFm_eq _).1 hf
  exact eqFormula_of t x y w hx hy fun w' x' y' h3 h4 => eqFormulaS_any _ _ (Nat.le_refl _) h2.2 h2.1 w' x' y' h3 h4
end Go.Proofs.Ythjkogighppeaaa
end

