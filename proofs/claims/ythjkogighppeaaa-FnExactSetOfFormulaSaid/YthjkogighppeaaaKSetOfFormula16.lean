/-
  Rows of numbers put one behind the other, in the program: slices.Concat and slices.Grow at ints, as contracts.
-/
import Derived.Test.YthjkogighppeaaaKSetOfFormula11
import Derived.Test.YthjkogighppeaaaKSetOfFormula2
import Derived.Lib.AppendZerosOnto
namespace Go.Proofs.Ythjkogighppeaaa
open Go.RowKit Go.Sort
set_option linter.unusedVariables false

/-- Slices of numbers that lie one behind the other. -/
def CatAt (w : World) (A : Option Addr) (ls : List (List Int)) : Prop :=
  0 < ls.length → ∃ b off, A = some ⟨b, off, none⟩ ∧ b < w.heap.size ∧ ∀ i, i < ls.length → ∃ A1 c1, w.cell? ⟨b, off + i, none⟩ = some (.slice A1 (rwAt ls i).length c1) ∧ IntsAt w A1 (rwAt ls i) ∧ (A1 = none → c1 = 0)
theorem CatAt.below {w w' : World} {A : Option Addr} {ls : List (List Int)} (h : CatAt w A ls) (hb : Below w.heap.size w w') : CatAt w' A ls := by
  intro hp
  obtain ⟨b, off, rfl, hlt, hc⟩ := h hp
  refine ⟨b, off, rfl, Nat.lt_of_lt_of_le hlt hb.size, fun i hi => ?_⟩
  obtain ⟨A1, c1, h1, h2, h3⟩ := hc i hi
  exact ⟨A1, c1, by rw [hb.cell (p := ⟨b, off + i, none⟩) hlt]; exact h1, h2.below hb, h3⟩
theorem cat_len : ∀ ls : List (List Int), ls.flatten.length = sumR ls
  | [] => rfl
  | l :: r => by rw [List.flatten_cons, List.length_append, cat_len r, sumR]
theorem cat_next {ls : List (List Int)} {k : Nat} (h : k < ls.length) : (ls.take (k + 1)).flatten = (ls.take k).flatten ++ rwAt ls k := by
  rw [rw_take_next h, List.flatten_append]; simp

set_option maxRecDepth 100000 in
set_option maxHeartbeats 2000000 in
theorem growNil_any (n : Nat) (w : World) (hn : n ≤ 1099511627776) :
    Calls Try.prog 79 #[.slice none 0 0, .int .i64 n] w fun e w' => ∃ v, e = .returned v ∧ w'.ownsRow w.heap.size 3 1 v 0 [] ∧ Below w.heap.size w w' := by
  have h1 : ¬ ((n : Int) < 0) := by omega
  rcases Nat.eq_zero_or_pos n with h0 | hp
  · subst h0
    go_enter Try.func79, Try.ntmps79
    go_wp2
    go_ret
    exact ⟨_, rfl, ⟨rfl, .inl ⟨rfl, rfl⟩⟩, Below.refl _ _⟩
  · obtain ⟨i0, hi0, hz0, hz1, hz2⟩ := info_parts int_infoM
    have hpz : ((n : Int) > 0) := by omega
    have hold : (Builtin.firstCells i0.size 0 (.slice none 0 0)).run Try.prog w.drew = .ok (#[] : Array Value) w.drew := run_firstCells_none w.drew i0.size 0 0 0
    have hfit : Builtin.nextslicecap (0 + n) 0 * i0.bytes ≤ 281474976710656 := growslice_fits (by omega) (by rw [hz2]; omega)
    have hrz : ∀ ty, (Builtin.append_ #[26, 3] ty #[.slice none 0 0, .int .i64 n]).run Try.prog w = .ok (.slice (some ⟨w.heap.size, 0, none⟩) (0 + n) (grownCap w (0 + n) 0 3)) (w.drew.alloc (.cells ((#[] : Array Value) ++ Builtin.zeroCells (Value.int .i64 0).cells n ++ Builtin.zeroCells (Value.int .i64 0).cells (grownCap w (0 + n) 0 3 - (0 + n))) 3)) := fun ty =>
      Lib.run_append_grow_zeros w 26 3 ty 3 i0 (.int .i64 0) .i64 .i64 Try.underlying26 Try.underlying3 hi0 hz0 none 0 0 [] hold n hp (by rw [hz1]; decide) (by omega) (by omega) (by rw [hz2]; omega) hfit
    rw [Nat.zero_add] at hrz
    have hge := grownCap_ge w n 0 3
    have hle := grownCap_le_maxLen w n 0 3 (by unfold maxLen; omega)
    generalize grownCap w n 0 3 = G at *
    have hle2 : G ≤ 9223372036854775807 := by unfold maxLen at hle; omega
    have hCs : ((#[] : Array Value) ++ Builtin.zeroCells (Value.int .i64 0).cells n ++ Builtin.zeroCells (Value.int .i64 0).cells (G - n)).size = G * 1 := by
      simp only [Array.size_append, size_zeroCells, Value.cells]
      simp
      omega
    generalize ((#[] : Array Value) ++ Builtin.zeroCells (Value.int .i64 0).cells n ++ Builtin.zeroCells (Value.int .i64 0).cells (G - n)) = C at *
    have hdw : Below w.heap.size w w.drew := ⟨rfl, rfl, rfl, Nat.le_refl _, fun _ _ => rfl⟩
    have hpost : ∃ v, Ending.returned (.slice (some ⟨w.heap.size, 0, none⟩) 0 G) = .returned v ∧ (w.drew.alloc (.cells C 3)).ownsRow w.heap.size 3 1 v 0 [] ∧ Below w.heap.size w (w.drew.alloc (.cells C 3)) :=
      ⟨_, rfl, ⟨rfl, .inr ⟨w.heap.size, G, C, rfl, Nat.le_refl _, heap_alloc_new w.drew _, Nat.zero_le _, hle, hCs, rfl⟩⟩, hdw.alloc (Nat.le_refl _) _⟩
    clear hCs hdw hold hfit hi0 hz0 hz1 hz2
    go_enter Try.func79, Try.ntmps79
    go_wp2_with (at_builtin; refine Lib.wpList_append_run _ rfl _ _ _ _ rfl _ _ rfl rfl _ _ (hrz _) ?_)
    go_ret
    exact hpost

set_option maxRecDepth 100000 in
set_option maxHeartbeats 4000000 in
theorem concat_any (A : Option Addr) (c : Nat) (ls : List (List Int)) (w : World) (hA : CatAt w A ls) (hl : ls.length ≤ 1048576) (hs : sumR ls ≤ 1099511627776) :
    Calls Try.prog 69 #[.slice A ls.length c] w (NewInts ls.flatten w) := by
  have HN := Lib.hid (fun k (h : k < ls.length) => sumR_next h)
  have HT := Lib.hid (sumR_take ls)
  go_enter Try.func69, Try.ntmps69
  go_wp2
  go_loopw [3, 5, 11] (fun v3 _ i wr => ∃ k : Nat, k ≤ ls.length ∧ i = .int .i64 k ∧ v3 = .int .i64 (sumR (ls.take k) : Nat) ∧ w = wr) (fun _ _ i _ => ls.length - (intOf i).toNat)
  case atStart => exact ⟨0, Nat.zero_le _, rfl, rfl, rfl⟩
  case round =>
    obtain ⟨k, hk, rfl, rfl, rfl⟩ := hrel
    by_cases hlt : k < ls.length
    · obtain ⟨b1, o1, rfl, hbl, hc1⟩ := hA (by omega)
      obtain ⟨A1, c1, d1, _, _⟩ := hc1 k hlt
      have hn := HN.out k hlt
      have ht := HT.out (k + 1)
      have HS : Hid (((sumR (ls.take k) : Nat) : Int) + ((rwAt ls k).length : Int) = ((sumR (ls.take (k + 1)) : Nat) : Int)) := Lib.hid (by omega)
      have hX : (rwAt ls k).length ≤ 1099511627776 := by omega
      have hS1 : sumR (ls.take k) ≤ 1099511627776 := by omega
      clear hn ht
      generalize rwAt ls k = X at *
      generalize sumR (ls.take k) = S1 at *
      clear hc1 hA
      go_wp2
      refine ⟨⟨k + 1, by omega, by go_num, by rw [HS.out], by trivial⟩, ?_⟩
      simp only [intOf]
      omega
    · have e : k = ls.length := by omega
      subst e
      rw [List.take_length]
      have hgr := growNil_any (sumR ls) w hs
      go_wp2_with (go_at_call 79; refine hgr.mono ?_; rintro e w2 ⟨v2, rfl, ho2, hb2⟩)
      clear hgr
      go_loopw [6, 8, 27] (fun v6 _ i w3 => ∃ k : Nat, k ≤ ls.length ∧ i = .int .i64 k ∧ w3.ownsRow w.heap.size 3 1 v6 (sumR (ls.take k)) (icells (ls.take k).flatten) ∧ Below w.heap.size w w3) (fun _ _ i _ => ls.length - (intOf i).toNat)
      case atStart => exact ⟨0, Nat.zero_le _, rfl, ho2, hb2⟩
      case round =>
        clear ho2 hb2
        obtain ⟨k, hk, rfl, ho, hb⟩ := hrel
        by_cases hlt : k < ls.length
        · obtain ⟨b1, o1, rfl, hbl, hc1⟩ := (hA.below hb) (by omega)
          obtain ⟨A1, c1, d1, hA1, hz1⟩ := hc1 k hlt
          have hn := HN.out k hlt
          have ht := HT.out (k + 1)
          have HS : Hid (sumR (ls.take k) + (rwAt ls k).length = sumR (ls.take (k + 1))) := Lib.hid (by omega)
          have HF : Hid (icells (ls.take k).flatten ++ icells (rwAt ls k) = icells (ls.take (k + 1)).flatten) := Lib.hid (by rw [cat_next hlt]; simp [icells])
          have hX : sumR (ls.take k) + (rwAt ls k).length ≤ 1099511627776 := by omega
          have hsz := hb.size
          clear hn ht
          generalize rwAt ls k = X at *
          generalize hS1 : sumR (ls.take k) = S1 at ho hX HS
          generalize hF1 : icells (ls.take k).flatten = F1 at ho HF
          clear hc1 hS1 hF1
          go_wp2_with (at_builtin; refine wpList_append_ints rfl (.tmp 31) (.tmp 32) rfl w.heap.size _ S1 F1 rfl ho A1 c1 X rfl hA1 hz1 ?c3 ?c5 ?_)
          case c3 => exact hX
          case c5 => exact hsz
          intro v7 w7 ho7 hg7
          have hb7 : Below w.heap.size w w7 := below_own hb ho (Nat.le_refl _) hsz hg7
          rw [HS.out, HF.out] at ho7
          clear ho hb hA1 hg7 HF d1 hX
          go_wp2
          refine ⟨⟨k + 1, by omega, by go_num, ho7, hb7⟩, ?_⟩
          simp only [intOf]
          omega
        · have e : k = ls.length := by omega
          subst e
          rw [List.take_length] at ho
          have HFL := Lib.hid (cat_len ls)
          rw [← HFL.out] at ho
          clear hA
          go_wp2
          go_ret
          exact ⟨_, rfl, ho, hb⟩
end Go.Proofs.Ythjkogighppeaaa
