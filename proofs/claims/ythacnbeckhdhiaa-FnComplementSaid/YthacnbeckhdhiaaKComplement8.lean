/-
  slices.Repeat of one number, at most three times, as a contract.
-/
import Derived.Test.YthacnbeckhdhiaaKComplement4
import Derived.Laws.CopyOwn
import Derived.Deep.RegionHeld3
namespace Go.Proofs.Ythacnbeckhdhiaa
open Go.RowKit Go.Sort
set_option linter.unusedVariables false

theorem mul64_lit (n : Int) (hn : n = 0 ∨ n = 1 ∨ n = 2 ∨ n = 3) (w : World) :
    Calls Try.prog 43 #[.int .u64 1, .int .u64 n] w fun e w' => e = .returned (.tuple #[.int .u64 0, .int .u64 n]) ∧ w = w' := by
  rcases hn with rfl | rfl | rfl | rfl
  all_goals
    go_enter Try.func43, Try.ntmps43
    go_wp2
    go_ret2
    exact ⟨rfl, rfl⟩
theorem mul_lit (n : Int) (hn : n = 0 ∨ n = 1 ∨ n = 2 ∨ n = 3) (w : World) :
    Calls Try.prog 41 #[.int .u64 1, .int .u64 n] w fun e w' => e = .returned (.tuple #[.int .u64 0, .int .u64 n]) ∧ w = w' := by
  have h := mul64_lit n hn w
  go_enter Try.func41, Try.ntmps41
  go_wp2_with (go_at_call 43; refine h.mono ?_; rintro e w2 ⟨rfl, rfl⟩)
  go_ret2
  exact ⟨rfl, rfl⟩

/-- A row of n numbers of the call's own, of which the first k are -1. -/
def RepRow (w : World) (g n k : Nat) : Prop := ∃ cur : List Value, w.heap[g]? = some (.cells cur.toArray 3 (0, 0)) ∧ cur.length = n ∧ ∀ i, i < k → cur[i]? = some (.int .i64 (-1))
theorem rep_splice {cur : List Value} {k m n : Nat} (hl : cur.length = n) (hk : ∀ i, i < k → cur[i]? = some (.int .i64 (-1))) (hm : k + m ≤ n) :
    (splice cur k (List.replicate m (.int .i64 (-1)))).length = n ∧ ∀ i, i < k + m → (splice cur k (List.replicate m (.int .i64 (-1))))[i]? = some (.int .i64 (-1)) := by
  refine ⟨by rw [length_splice _ _ _ (by simp; omega)]; exact hl, fun i hi => ?_⟩
  unfold splice
  by_cases h1 : i < k
  · rw [List.getElem?_append_left (by rw [List.length_take]; omega), List.getElem?_take_of_lt h1]
    exact hk i h1
  · rw [List.getElem?_append_right (by rw [List.length_take]; omega), List.length_take, List.getElem?_append_left (by simp; omega)]
    rw [List.getElem?_replicate, if_pos (by omega)]
theorem rep_row {w : World} {base g n : Nat} {xs : List Value} (h : w.ownsRow base 3 1 (.slice (some ⟨g, 0, none⟩) n n) n xs) : RepRow w g n 0 := by
  rcases h.2 with ⟨e, h0⟩ | ⟨g', cap, cur, e, hb, hg, hn, hm, hs, ht⟩
  · cases e
  · injection e with e1 _ e3
    injection e1 with e1
    injection e1 with e1
    subst e1; subst e3
    exact ⟨cur.toList, by simpa using hg, by simp at hs ⊢; omega, fun i hi => absurd hi (by omega)⟩
theorem rep_own {w : World} {base g n : Nat} (h : RepRow w g n n) (hb : base ≤ g) (hn : n ≤ maxLen) : w.ownsRow base 3 1 (.slice (some ⟨g, 0, none⟩) n n) (List.replicate n (-1 : Int)).length (icells (List.replicate n (-1))) := by
  obtain ⟨cur, hg, hl, hc⟩ := h
  have e : cur = icells (List.replicate n (-1)) := by
    apply List.ext_getElem?
    intro i
    by_cases hi : i < n
    · rw [hc i hi]; simp [icells, hi]
    · rw [List.getElem?_eq_none (by omega), List.getElem?_eq_none (by rw [icells_len]; simp; omega)]
  rw [List.length_replicate]
  refine ⟨by simp [icells], .inr ⟨g, n, cur.toArray, rfl, hb, hg, Nat.le_refl _, hn, by simp [hl], ?_⟩⟩
  rw [e]
  simp only [Nat.mul_one]
  exact List.take_of_length_le (by rw [icells_len]; simp)
theorem rep_cell {w : World} {g n k : Nat} (h : RepRow w g n k) (i : Nat) (hi : i < k) : w.cell? ⟨g, i, none⟩ = some (.int .i64 (-1)) := by
  obtain ⟨cur, hg, hl, hc⟩ := h
  rw [cell_of_row w g _ _ _ _ hg]
  simpa using hc i hi

set_option maxRecDepth 100000 in
set_option maxHeartbeats 4000000 in
theorem repeat0 (g : Nat) (w : World) (hg : w.cell? ⟨g, 0, none⟩ = some (.int .i64 (-1))) (hgl : g < w.heap.size) :
    Calls Try.prog 36 #[.slice (some ⟨g, 0, none⟩) 1 1, .int .i64 0] w (NewInts (List.replicate 0 (-1)) w) := by
  obtain ⟨i0, hi0, hz0, hz1, hz2⟩ := info_parts int_info
  have HS := Lib.hid hz2
  clear hz2
  have hmul := fun W => mul_lit 0 (by omega) W
  go_enter Try.func36, Try.ntmps36
  go_wp2_with (first | (go_at_call 41; refine (hmul _).mono ?_; rintro e w2 ⟨rfl, rfl⟩) | (at_make; refine wpList_make_full _ rfl (.tmp 29) (.tmp 29) 30 rfl w.heap.size 3 i0 _ 1 Try.underlying30 hi0 hz0 hz1 .i64 .i64 _ _ 0 rfl rfl rfl rfl ?c1 ?c2 (Nat.le_refl _) ?_))
  case c1 => rw [HS.out]; decide
  case c2 => unfold maxLen; decide
  intro w1 ho hgr
  have hb0 := (Below.refl w.heap.size w).grown hgr (Nat.le_refl _) (fun k hk => by cases hk)
  have hown : w1.ownsRow w.heap.size 3 1 (.slice (some ⟨w.heap.size, 0, none⟩) 0 0) 0 [] := by simpa [madeCells] using ho
  clear ho hgr
  go_wp2_with (refine wpList_copy_nothing rfl (.tmp 31) (.tmp 32) 30 30 rfl 3 Try.underlying30 (by kernel_rfl) _ _ _ _ _ _ rfl rfl rfl ?_)
  go_wp2
  go_loop [8] (fun k => k = .int .i64 0) (fun _ => 0)
  case atStart => rfl
  case round =>
    subst hrel
    go_wp2
    go_ret
    exact ⟨_, rfl, hown, hb0⟩

set_option maxRecDepth 100000 in
set_option maxHeartbeats 4000000 in
theorem repeat1 (g : Nat) (w : World) (hg : w.cell? ⟨g, 0, none⟩ = some (.int .i64 (-1))) (hgl : g < w.heap.size) :
    Calls Try.prog 36 #[.slice (some ⟨g, 0, none⟩) 1 1, .int .i64 1] w (NewInts (List.replicate 1 (-1)) w) := by
  obtain ⟨i0, hi0, hz0, hz1, hz2⟩ := info_parts int_info
  have HS := Lib.hid hz2
  clear hz2
  have hmul := fun W => mul_lit 1 (by omega) W
  go_enter Try.func36, Try.ntmps36
  go_wp2_with (first | (go_at_call 41; refine (hmul _).mono ?_; rintro e w2 ⟨rfl, rfl⟩) | (at_make; refine wpList_make_full _ rfl (.tmp 29) (.tmp 29) 30 rfl w.heap.size 3 i0 _ 1 Try.underlying30 hi0 hz0 hz1 .i64 .i64 _ _ 1 rfl rfl rfl rfl ?c1 ?c2 (Nat.le_refl _) ?_))
  case c1 => rw [HS.out]; decide
  case c2 => unfold maxLen; decide
  intro w1 ho hgr
  have hb0 := (Below.refl w.heap.size w).grown hgr (Nat.le_refl _) (fun k hk => by cases hk)
  have hlt0 : w.heap.size < w1.heap.size := (ho.lt w.heap.size rfl).2
  obtain ⟨cur, hh, hl, _⟩ := rep_row ho
  have hgc : w1.cell? ⟨g, 0, none⟩ = some (.int .i64 (-1)) := (hb0.cell (p := ⟨g, 0, none⟩) hgl).trans hg
  have HL := Lib.hid hl
  have hsrc : ∀ j v, ([.int .i64 (-1)] : List Value)[j]? = some v → w1.cell? ((⟨g, 0, none⟩ : Addr).add j) = some v := fun j v hj => by
    have hj0 : j = 0 := by
      rcases j with _ | j
      · rfl
      · simp at hj
    subst hj0
    simp at hj
    subst hj
    simpa [Addr.add] using hgc
  have HS2 := Lib.hid hsrc
  clear ho hgr hl hsrc
  go_wp2_with (refine wpList_copy_splice rfl (.tmp 31) (.tmp 32) 30 30 rfl 3 Try.underlying30 (by kernel_rfl) _ _ _ _ _ _ rfl rfl w.heap.size 0 cur 3 hh [.int .i64 (-1)] rfl (fun _ => ⟨rfl, _, rfl, HS2.out⟩) (by rw [HL.out]; decide) (fun v hv => by rw [List.mem_singleton.1 hv]; rfl) w.heap.size w hb0 (Nat.le_refl _) ?_)
  intro w2 HG2 hB2
  have hr2 : RepRow w2 w.heap.size 1 1 := ⟨_, HG2.out, rep_splice (m := 1) HL.out (fun i hi => absurd hi (by omega)) (by omega)⟩
  clear HG2 hh HL hgc hb0
  go_wp2
  go_loopw [8] (fun v wr => ∃ k : Nat, (k = 1) ∧ v = .int .i64 k ∧ RepRow wr w.heap.size 1 k ∧ Below w.heap.size w wr) (fun v _ => 1 - (intOf v).toNat)
  case atStart => exact ⟨1, by omega, rfl, hr2, hB2⟩
  case round =>
    obtain ⟨k, hk, rfl, hr, hb⟩ := hrel
    rcases hk with rfl
    · have hown := rep_own (base := w.heap.size) hr (Nat.le_refl _) (by unfold maxLen; decide)
      clear hr
      go_wp2
      go_ret
      exact ⟨_, rfl, hown, hb⟩

set_option maxRecDepth 100000 in
set_option maxHeartbeats 4000000 in
theorem repeat2 (g : Nat) (w : World) (hg : w.cell? ⟨g, 0, none⟩ = some (.int .i64 (-1))) (hgl : g < w.heap.size) :
    Calls Try.prog 36 #[.slice (some ⟨g, 0, none⟩) 1 1, .int .i64 2] w (NewInts (List.replicate 2 (-1)) w) := by
  obtain ⟨i0, hi0, hz0, hz1, hz2⟩ := info_parts int_info
  have HS := Lib.hid hz2
  clear hz2
  have hmul := fun W => mul_lit 2 (by omega) W
  go_enter Try.func36, Try.ntmps36
  go_wp2_with (first | (go_at_call 41; refine (hmul _).mono ?_; rintro e w2 ⟨rfl, rfl⟩) | (at_make; refine wpList_make_full _ rfl (.tmp 29) (.tmp 29) 30 rfl w.heap.size 3 i0 _ 1 Try.underlying30 hi0 hz0 hz1 .i64 .i64 _ _ 2 rfl rfl rfl rfl ?c1 ?c2 (Nat.le_refl _) ?_))
  case c1 => rw [HS.out]; decide
  case c2 => unfold maxLen; decide
  intro w1 ho hgr
  have hb0 := (Below.refl w.heap.size w).grown hgr (Nat.le_refl _) (fun k hk => by cases hk)
  have hlt0 : w.heap.size < w1.heap.size := (ho.lt w.heap.size rfl).2
  obtain ⟨cur, hh, hl, _⟩ := rep_row ho
  have hgc : w1.cell? ⟨g, 0, none⟩ = some (.int .i64 (-1)) := (hb0.cell (p := ⟨g, 0, none⟩) hgl).trans hg
  have HL := Lib.hid hl
  have hsrc : ∀ j v, ([.int .i64 (-1)] : List Value)[j]? = some v → w1.cell? ((⟨g, 0, none⟩ : Addr).add j) = some v := fun j v hj => by
    have hj0 : j = 0 := by
      rcases j with _ | j
      · rfl
      · simp at hj
    subst hj0
    simp at hj
    subst hj
    simpa [Addr.add] using hgc
  have HS2 := Lib.hid hsrc
  clear ho hgr hl hsrc
  go_wp2_with (refine wpList_copy_splice rfl (.tmp 31) (.tmp 32) 30 30 rfl 3 Try.underlying30 (by kernel_rfl) _ _ _ _ _ _ rfl rfl w.heap.size 0 cur 3 hh [.int .i64 (-1)] rfl (fun _ => ⟨rfl, _, rfl, HS2.out⟩) (by rw [HL.out]; decide) (fun v hv => by rw [List.mem_singleton.1 hv]; rfl) w.heap.size w hb0 (Nat.le_refl _) ?_)
  intro w2 HG2 hB2
  have hr2 : RepRow w2 w.heap.size 2 1 := ⟨_, HG2.out, rep_splice (m := 1) HL.out (fun i hi => absurd hi (by omega)) (by omega)⟩
  clear HG2 hh HL hgc hb0
  go_wp2
  go_loopw [8] (fun v wr => ∃ k : Nat, (k = 1 ∨ k = 2) ∧ v = .int .i64 k ∧ RepRow wr w.heap.size 2 k ∧ Below w.heap.size w wr) (fun v _ => 2 - (intOf v).toNat)
  case atStart => exact ⟨1, by omega, rfl, hr2, hB2⟩
  case round =>
    obtain ⟨k, hk, rfl, hr, hb⟩ := hrel
    rcases hk with rfl | rfl
    · obtain ⟨cur, hh, hl, hc⟩ := id hr
      have hcell := fun i hi => rep_cell (w := wr) (g := w.heap.size) (n := 2) (k := 1) ⟨cur, hh, hl, hc⟩ i hi
      have HL := Lib.hid hl
      have HC := Lib.hid hc
      have hsrc : ∀ j v, (List.replicate 1 (.int .i64 (-1)) : List Value)[j]? = some v → wr.cell? ((⟨w.heap.size, 0, none⟩ : Addr).add j) = some v := fun j v hj => by
        have hjm : j < 1 := by
          rcases Nat.lt_or_ge j 1 with h1 | h1
          · exact h1
          · rw [List.getElem?_eq_none (by simpa using h1)] at hj; cases hj
        rw [List.getElem?_replicate, if_pos hjm] at hj
        injection hj with hj
        subst hj
        have := hcell j (by omega)
        unfold Addr.add
        split
        · rename_i h0; rw [h0] at this; exact this
        · simpa using this
      have HS3 := Lib.hid hsrc
      clear hl hc hcell hsrc
      have HDR : Hid (Below w.heap.size w wr.drew) := Lib.hid ⟨hb.os, hb.tape, hb.output, hb.size, hb.block⟩
      have HH2 : Hid (wr.drew.heap[w.heap.size]? = some (.cells cur.toArray 3 (0, 0))) := Lib.hid hh
      have HS4 : Hid (∀ j v, (List.replicate 1 (.int .i64 (-1)) : List Value)[j]? = some v → wr.drew.cell? ((⟨w.heap.size, 0, none⟩ : Addr).add j) = some v) := Lib.hid HS3.out
      clear hh hb hr HS3
      go_wp2
      go_region_held3 (fun w' => True)
        (first | (exact trivial) | go_keep)
        (first
          | (refine step_copy_splice (by rfl) (.tmp 41) (.tmp 44) 30 30 (by rfl) 3 Try.underlying30 (by kernel_rfl) _ _ _ _ _ _ (by rfl) (by rfl) w.heap.size 1 cur 3 HH2.out (List.replicate 1 (.int .i64 (-1))) (by rfl) (fun _ => ⟨rfl, _, rfl, HS4.out⟩) (by rw [HL.out]; decide) (fun v hv => by rw [List.eq_of_mem_replicate hv]; rfl) w.heap.size w HDR.out (Nat.le_refl _) ?_; intro w4 hg4 hb4)
          | fail)
      have hr4 : RepRow w4 w.heap.size 2 2 := ⟨_, hg4.out, rep_splice (k := 1) (m := 1) HL.out HC.out (by omega)⟩
      clear hg4 HH2 HL HC HS4 HDR
      go_wp2
      refine ⟨⟨2, by omega, by go_num, hr4, hb4⟩, ?_⟩
      first | decide | (simp [intOf]; decide)
    · have hown := rep_own (base := w.heap.size) hr (Nat.le_refl _) (by unfold maxLen; decide)
      clear hr
      go_wp2
      go_ret
      exact ⟨_, rfl, hown, hb⟩

set_option maxRecDepth 100000 in
set_option maxHeartbeats 4000000 in
theorem repeat3 (g : Nat) (w : World) (hg : w.cell? ⟨g, 0, none⟩ = some (.int .i64 (-1))) (hgl : g < w.heap.size) :
    Calls Try.prog 36 #[.slice (some ⟨g, 0, none⟩) 1 1, .int .i64 3] w (NewInts (List.replicate 3 (-1)) w) := by
  obtain ⟨i0, hi0, hz0, hz1, hz2⟩ := info_parts int_info
  have HS := Lib.hid hz2
  clear hz2
  have hmul := fun W => mul_lit 3 (by omega) W
  go_enter Try.func36, Try.ntmps36
  go_wp2_with (first | (go_at_call 41; refine (hmul _).mono ?_; rintro e w2 ⟨rfl, rfl⟩) | (at_make; refine wpList_make_full _ rfl (.tmp 29) (.tmp 29) 30 rfl w.heap.size 3 i0 _ 1 Try.underlying30 hi0 hz0 hz1 .i64 .i64 _ _ 3 rfl rfl rfl rfl ?c1 ?c2 (Nat.le_refl _) ?_))
  case c1 => rw [HS.out]; decide
  case c2 => unfold maxLen; decide
  intro w1 ho hgr
  have hb0 := (Below.refl w.heap.size w).grown hgr (Nat.le_refl _) (fun k hk => by cases hk)
  have hlt0 : w.heap.size < w1.heap.size := (ho.lt w.heap.size rfl).2
  obtain ⟨cur, hh, hl, _⟩ := rep_row ho
  have hgc : w1.cell? ⟨g, 0, none⟩ = some (.int .i64 (-1)) := (hb0.cell (p := ⟨g, 0, none⟩) hgl).trans hg
  have HL := Lib.hid hl
  have hsrc : ∀ j v, ([.int .i64 (-1)] : List Value)[j]? = some v → w1.cell? ((⟨g, 0, none⟩ : Addr).add j) = some v := fun j v hj => by
    have hj0 : j = 0 := by
      rcases j with _ | j
      · rfl
      · simp at hj
    subst hj0
    simp at hj
    subst hj
    simpa [Addr.add] using hgc
  have HS2 := Lib.hid hsrc
  clear ho hgr hl hsrc
  go_wp2_with (refine wpList_copy_splice rfl (.tmp 31) (.tmp 32) 30 30 rfl 3 Try.underlying30 (by kernel_rfl) _ _ _ _ _ _ rfl rfl w.heap.size 0 cur 3 hh [.int .i64 (-1)] rfl (fun _ => ⟨rfl, _, rfl, HS2.out⟩) (by rw [HL.out]; decide) (fun v hv => by rw [List.mem_singleton.1 hv]; rfl) w.heap.size w hb0 (Nat.le_refl _) ?_)
  intro w2 HG2 hB2
  have hr2 : RepRow w2 w.heap.size 3 1 := ⟨_, HG2.out, rep_splice (m := 1) HL.out (fun i hi => absurd hi (by omega)) (by omega)⟩
  clear HG2 hh HL hgc hb0
  go_wp2
  go_loopw [8] (fun v wr => ∃ k : Nat, (k = 1 ∨ k = 2 ∨ k = 3) ∧ v = .int .i64 k ∧ RepRow wr w.heap.size 3 k ∧ Below w.heap.size w wr) (fun v _ => 3 - (intOf v).toNat)
  case atStart => exact ⟨1, by omega, rfl, hr2, hB2⟩
  case round =>
    obtain ⟨k, hk, rfl, hr, hb⟩ := hrel
    rcases hk with rfl | rfl | rfl
    · obtain ⟨cur, hh, hl, hc⟩ := id hr
      have hcell := fun i hi => rep_cell (w := wr) (g := w.heap.size) (n := 3) (k := 1) ⟨cur, hh, hl, hc⟩ i hi
      have HL := Lib.hid hl
      have HC := Lib.hid hc
      have hsrc : ∀ j v, (List.replicate 1 (.int .i64 (-1)) : List Value)[j]? = some v → wr.cell? ((⟨w.heap.size, 0, none⟩ : Addr).add j) = some v := fun j v hj => by
        have hjm : j < 1 := by
          rcases Nat.lt_or_ge j 1 with h1 | h1
          · exact h1
          · rw [List.getElem?_eq_none (by simpa using h1)] at hj; cases hj
        rw [List.getElem?_replicate, if_pos hjm] at hj
        injection hj with hj
        subst hj
        have := hcell j (by omega)
        unfold Addr.add
        split
        · rename_i h0; rw [h0] at this; exact this
        · simpa using this
      have HS3 := Lib.hid hsrc
      clear hl hc hcell hsrc
      have HDR : Hid (Below w.heap.size w wr.drew) := Lib.hid ⟨hb.os, hb.tape, hb.output, hb.size, hb.block⟩
      have HH2 : Hid (wr.drew.heap[w.heap.size]? = some (.cells cur.toArray 3 (0, 0))) := Lib.hid hh
      have HS4 : Hid (∀ j v, (List.replicate 1 (.int .i64 (-1)) : List Value)[j]? = some v → wr.drew.cell? ((⟨w.heap.size, 0, none⟩ : Addr).add j) = some v) := Lib.hid HS3.out
      clear hh hb hr HS3
      go_wp2
      go_region_held3 (fun w' => True)
        (first | (exact trivial) | go_keep)
        (first
          | (refine step_copy_splice (by rfl) (.tmp 41) (.tmp 44) 30 30 (by rfl) 3 Try.underlying30 (by kernel_rfl) _ _ _ _ _ _ (by rfl) (by rfl) w.heap.size 1 cur 3 HH2.out (List.replicate 1 (.int .i64 (-1))) (by rfl) (fun _ => ⟨rfl, _, rfl, HS4.out⟩) (by rw [HL.out]; decide) (fun v hv => by rw [List.eq_of_mem_replicate hv]; rfl) w.heap.size w HDR.out (Nat.le_refl _) ?_; intro w4 hg4 hb4)
          | fail)
      have hr4 : RepRow w4 w.heap.size 3 2 := ⟨_, hg4.out, rep_splice (k := 1) (m := 1) HL.out HC.out (by omega)⟩
      clear hg4 HH2 HL HC HS4 HDR
      go_wp2
      refine ⟨⟨2, by omega, by go_num, hr4, hb4⟩, ?_⟩
      first | decide | (simp [intOf]; decide)
    · obtain ⟨cur, hh, hl, hc⟩ := id hr
      have hcell := fun i hi => rep_cell (w := wr) (g := w.heap.size) (n := 3) (k := 2) ⟨cur, hh, hl, hc⟩ i hi
      have HL := Lib.hid hl
      have HC := Lib.hid hc
      have hsrc : ∀ j v, (List.replicate 1 (.int .i64 (-1)) : List Value)[j]? = some v → wr.cell? ((⟨w.heap.size, 0, none⟩ : Addr).add j) = some v := fun j v hj => by
        have hjm : j < 1 := by
          rcases Nat.lt_or_ge j 1 with h1 | h1
          · exact h1
          · rw [List.getElem?_eq_none (by simpa using h1)] at hj; cases hj
        rw [List.getElem?_replicate, if_pos hjm] at hj
        injection hj with hj
        subst hj
        have := hcell j (by omega)
        unfold Addr.add
        split
        · rename_i h0; rw [h0] at this; exact this
        · simpa using this
      have HS3 := Lib.hid hsrc
      clear hl hc hcell hsrc
      have HDR : Hid (Below w.heap.size w wr.drew) := Lib.hid ⟨hb.os, hb.tape, hb.output, hb.size, hb.block⟩
      have HH2 : Hid (wr.drew.heap[w.heap.size]? = some (.cells cur.toArray 3 (0, 0))) := Lib.hid hh
      have HS4 : Hid (∀ j v, (List.replicate 1 (.int .i64 (-1)) : List Value)[j]? = some v → wr.drew.cell? ((⟨w.heap.size, 0, none⟩ : Addr).add j) = some v) := Lib.hid HS3.out
      clear hh hb hr HS3
      go_wp2
      go_region_held3 (fun w' => True)
        (first | (exact trivial) | go_keep)
        (first
          | (refine step_copy_splice (by rfl) (.tmp 41) (.tmp 44) 30 30 (by rfl) 3 Try.underlying30 (by kernel_rfl) _ _ _ _ _ _ (by rfl) (by rfl) w.heap.size 2 cur 3 HH2.out (List.replicate 1 (.int .i64 (-1))) (by rfl) (fun _ => ⟨rfl, _, rfl, HS4.out⟩) (by rw [HL.out]; decide) (fun v hv => by rw [List.eq_of_mem_replicate hv]; rfl) w.heap.size w HDR.out (Nat.le_refl _) ?_; intro w4 hg4 hb4)
          | fail)
      have hr4 : RepRow w4 w.heap.size 3 3 := ⟨_, hg4.out, rep_splice (k := 2) (m := 1) HL.out HC.out (by omega)⟩
      clear hg4 HH2 HL HC HS4 HDR
      go_wp2
      refine ⟨⟨3, by omega, by go_num, hr4, hb4⟩, ?_⟩
      first | decide | (simp [intOf]; decide)
    · have hown := rep_own (base := w.heap.size) hr (Nat.le_refl _) (by unfold maxLen; decide)
      clear hr
      go_wp2
      go_ret
      exact ⟨_, rfl, hown, hb⟩

theorem repeat_any (g : Nat) (n : Int) (h0 : 0 ≤ n) (hn : n ≤ 3) (w : World) (hg : w.cell? ⟨g, 0, none⟩ = some (.int .i64 (-1))) (hgl : g < w.heap.size) :
    Calls Try.prog 36 #[.slice (some ⟨g, 0, none⟩) 1 1, .int .i64 n] w (NewInts (List.replicate n.toNat (-1)) w) := by
  have h4 : n = 0 ∨ n = 1 ∨ n = 2 ∨ n = 3 := by omega
  rcases h4 with rfl | rfl | rfl | rfl
  · exact repeat0 g w hg hgl
  · exact repeat1 g w hg hgl
  · exact repeat2 g w hg hgl
  · exact repeat3 g w hg hgl
end Go.Proofs.Ythacnbeckhdhiaa
