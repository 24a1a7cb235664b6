/-
  Whether a list of pairs is a permutation, as the model decides it: a contract; and that both decide alike.
-/
import Derived.Test.YtnomidnjglbedaaKSizeOfTerm6
namespace Go.Proofs.Ytnomidnjglbedaa
open Go.RowKit Go.Sort

theorem l1Atom_any (a : Int) (w : World) :
    Calls Try.prog 128 #[.int .i64 a] w fun e w' => e = .returned (.bool (atomB a)) ∧ w = w' := by
  by_cases h1 : 0 ≤ a
  · by_cases h2 : a ≤ 999
    · go_enter Try.func128, Try.ntmps128
      go_wp2
      go_ret
      exact ⟨bool_end (by simp [atomB, h1, h2]), rfl⟩
    · have k2 : decide (a ≤ 999) = false := by simpa using h2
      have k3 : 999 < a := by omega
      clear h2
      go_enter Try.func128, Try.ntmps128
      go_wp2
      go_ret
      exact ⟨bool_end (by simp [atomB]; omega), rfl⟩
  · have k1 : a < 0 := by omega
    clear h1
    go_enter Try.func128, Try.ntmps128
    go_wp2
    go_ret
    exact ⟨bool_end (by simp [atomB]; omega), rfl⟩

theorem l1Atom_below (a : Int) (w : World) :
    Calls Try.prog 128 #[.int .i64 a] w fun e w' => e = .returned (.bool (atomB a)) ∧ Below w.heap.size w w' :=
  (l1Atom_any a w).mono fun _ _ ⟨he, hw⟩ => ⟨he, hw ▸ Below.refl _ _⟩

/-- What the model asks of the pair at a place. -/
def okSAt (l : List (Int × Int)) (i : Nat) : Bool :=
  atomB (prAt l i).1 && (decide ((prAt l i).1 ≠ (prAt l i).2) && (decide (i = 0) || decide ((prAt l (i - 1)).1 < (prAt l i).1)))

def oneAt (l : List (Int × Int)) (i : Nat) : Bool := decide ((tos l).count (prAt l i).1 = 1)

def permSB (l : List (Int × Int)) : Bool := decide (l.length ≤ 40) && ((List.range l.length).all (okSAt l) && (List.range l.length).all (oneAt l))

theorem all_no {p : Nat → Bool} {n i : Nat} (hi : i < n) (h : p i = false) : (List.range n).all p = false := by
  rw [List.all_eq_false]
  exact ⟨i, List.mem_range.2 hi, by simp [h]⟩
theorem all_yes {p : Nat → Bool} {n : Nat} (h : ∀ j, j < n → p j = true) : (List.range n).all p = true := by
  rw [List.all_eq_true]
  exact fun x hx => h x (List.mem_range.1 hx)
theorem all_at {p : Nat → Bool} {n : Nat} (h : (List.range n).all p = true) (i : Nat) (hi : i < n) : p i = true := by
  rw [List.all_eq_true] at h
  exact h i (List.mem_range.2 hi)

theorem permSB_no1 {l : List (Int × Int)} {i : Nat} (hi : i < l.length) (h : okSAt l i = false) : permSB l = false := by
  unfold permSB; rw [all_no hi h]; simp
theorem permSB_no2 {l : List (Int × Int)} {i : Nat} (hi : i < l.length) (h : oneAt l i = false) : permSB l = false := by
  unfold permSB; rw [all_no hi h]; simp

/-- The same length, each element of the one without repetition in the other: the same elements. -/
theorem perm_of_subset : ∀ (xs ys : List Int), xs.Nodup → (∀ a, a ∈ xs → a ∈ ys) → ys.length ≤ xs.length → ys.Perm xs
  | [], ys, _, _, hl => by
    have : ys = [] := List.eq_nil_of_length_eq_zero (by simpa using hl)
    rw [this]
  | x :: r, ys, hn, hs, hl => by
    have hx : x ∈ ys := hs x List.mem_cons_self
    rw [List.nodup_cons] at hn
    have h1 : ys.Perm (x :: ys.erase x) := List.perm_cons_erase hx
    have h2 : (ys.erase x).Perm r := by
      refine perm_of_subset r (ys.erase x) hn.2 (fun a ha => ?_) ?_
      · have hne : a ≠ x := fun e => hn.1 (e ▸ ha)
        exact (List.mem_erase_of_ne hne).2 (hs a (List.mem_cons_of_mem _ ha))
      · rw [List.length_erase_of_mem hx]
        simp only [List.length_cons] at hl
        omega
    exact h1.trans (h2.cons x)

theorem nodup_of_get {l : List Int} (h : ∀ (i j : Nat) (a : Int), i < j → l[i]? = some a → l[j]? = some a → False) : l.Nodup := by
  rw [List.Nodup, List.pairwise_iff_getElem]
  intro i j hi hj hij e
  exact h i j l[i] hij (List.getElem?_eq_getElem hi) (by rw [List.getElem?_eq_getElem hj, e])

theorem asc_of {l : List (Int × Int)} (h : ∀ i, i < l.length → i = 0 ∨ (prAt l (i - 1)).1 < (prAt l i).1) : Asc l := by
  intro i j hij hj
  induction j with
  | zero => omega
  | succ j ih =>
    have h1 := h (j + 1) hj
    rcases h1 with h1 | h1
    · omega
    · have e : j + 1 - 1 = j := by omega
      rw [e] at h1
      by_cases hc : i = j
      · rw [hc]; exact h1
      · have := ih (by omega) (by omega); omega

theorem froms_nodup {l : List (Int × Int)} (h : Asc l) : (froms l).Nodup := by
  refine nodup_of_get fun i j a hij h1 h2 => ?_
  have hj : j < l.length := by
    rcases Nat.lt_or_ge j l.length with h3 | h3
    · exact h3
    · rw [List.getElem?_eq_none (by simpa [froms] using h3)] at h2; cases h2
  rw [froms_at l i (by omega)] at h1
  rw [froms_at l j hj] at h2
  have := h i j hij hj
  simp only [Option.some.injEq] at h1 h2
  omega

theorem mem_take_tos {l : List (Int × Int)} {k : Nat} {a : Int} (hk : k ≤ l.length) (h : a ∈ (tos l).take k) : ∃ j, j < k ∧ (prAt l j).2 = a := by
  obtain ⟨j, hj, e⟩ := List.getElem_of_mem h
  have hjk : j < k := by rw [List.length_take] at hj; omega
  refine ⟨j, hjk, ?_⟩
  have h1 := tos_at l j (by omega)
  have h2 : ((tos l).take k)[j]? = some a := by rw [List.getElem?_eq_getElem hj, e]
  rw [List.getElem?_take, if_pos hjk, h1] at h2
  injection h2

theorem take_tos_mem {l : List (Int × Int)} {j k : Nat} (hk : k ≤ l.length) (hj : j < k) : (prAt l j).2 ∈ (tos l).take k := by
  refine List.mem_of_getElem? (i := j) ?_
  rw [List.getElem?_take, if_pos hj]
  exact tos_at l j (by omega)

theorem okSAt_parts {l : List (Int × Int)} {i : Nat} (h : okSAt l i = true) :
    (0 ≤ (prAt l i).1 ∧ (prAt l i).1 ≤ 999) ∧ (prAt l i).1 ≠ (prAt l i).2 ∧ (i = 0 ∨ (prAt l (i - 1)).1 < (prAt l i).1) := by
  simpa [okSAt, atomB] using h

theorem perm_to (l : List (Int × Int)) (h : permSB l = true) : permB l = true := by
  unfold permSB at h
  simp only [Bool.and_eq_true, decide_eq_true_eq] at h
  obtain ⟨h40, hA, hB⟩ := h
  have hok := all_at hA
  have hone := all_at hB
  have hasc : Asc l := asc_of fun i hi => (okSAt_parts (hok i hi)).2.2
  have hP : (tos l).Perm (froms l) := by
    refine perm_of_subset _ _ (froms_nodup hasc) (fun a ha => ?_) (by simp [tos, froms])
    obtain ⟨i, hi, rfl⟩ := mem_froms.1 ha
    have h1 := hone i hi
    simp only [oneAt, decide_eq_true_eq] at h1
    exact List.count_pos_iff.1 (by omega)
  have hin : ∀ k, k < l.length → (prAt l k).2 ∈ froms l := fun k hk => hP.mem_iff.1 (List.mem_of_getElem? (tos_at l k hk))
  have hnd : (tos l).Nodup := hP.nodup_iff.2 (froms_nodup hasc)
  refine permB_yes h40 (orderB_yes fun j hj => ?_) fun j hj => ?_
  · have h1 := okSAt_parts (hok j hj)
    obtain ⟨q, hq, e⟩ := mem_froms.1 (hin j hj)
    have h2 := okSAt_parts (hok q hq)
    simp only [okAt, atomB, Bool.and_eq_true, decide_eq_true_eq, Bool.or_eq_true]
    rw [← e]
    exact ⟨h1.1, h2.1, by rw [e]; exact h1.2.1, h1.2.2⟩
  · unfold goodAt
    simp only [Bool.and_eq_true, List.contains_iff_mem, Bool.not_eq_true', ← Bool.not_eq_true]
    refine ⟨hin j hj, fun hc => ?_⟩
    obtain ⟨i, hij, e⟩ := mem_take_tos (by omega) hc
    rw [List.Nodup, List.pairwise_iff_getElem] at hnd
    have hli : i < (tos l).length := by simp [tos]; omega
    have hlj : j < (tos l).length := by simp [tos]; omega
    refine hnd i j hli hlj hij ?_
    have h1 := tos_at l i (by omega)
    have h2 := tos_at l j hj
    rw [List.getElem?_eq_getElem hli] at h1
    rw [List.getElem?_eq_getElem hlj] at h2
    injection h1 with h1
    injection h2 with h2
    rw [h1, h2, e]

theorem permB_parts {l : List (Int × Int)} (h : permB l = true) : l.length ≤ 40 ∧ orderB l = true ∧ ∀ j, j < l.length → goodAt l j = true := by
  unfold permB at h
  simp only [Bool.and_eq_true, decide_eq_true_eq] at h
  exact ⟨h.1, h.2.1, all_at h.2.2⟩

/-- What makes a permutation of a list of pairs. -/
theorem perm_tos {l : List (Int × Int)} (h : permB l = true) : (froms l).Perm (tos l) := by
  obtain ⟨h40, hO, hG⟩ := permB_parts h
  refine perm_of_subset _ _ (nodup_of_get fun i j a hij h1 h2 => ?_) (fun a ha => ?_) (by simp [tos, froms])
  · have hj : j < l.length := by
      rcases Nat.lt_or_ge j l.length with h3 | h3
      · exact h3
      · rw [List.getElem?_eq_none (by simpa [tos] using h3)] at h2; cases h2
    rw [tos_at l i (by omega)] at h1
    rw [tos_at l j hj] at h2
    simp only [Option.some.injEq] at h1 h2
    have h3 := hG j hj
    unfold goodAt at h3
    simp only [Bool.and_eq_true, Bool.not_eq_true', ← Bool.not_eq_true, List.contains_iff_mem] at h3
    exact h3.2 (by rw [h2, ← h1]; exact take_tos_mem (by omega) hij)
  · obtain ⟨i, hi, e⟩ := List.getElem_of_mem ha
    have hl : i < l.length := by simpa [tos] using hi
    have h1 := tos_at l i hl
    rw [List.getElem?_eq_getElem hi, e] at h1
    injection h1 with h1
    have h3 := hG i hl
    unfold goodAt at h3
    simp only [Bool.and_eq_true, List.contains_iff_mem] at h3
    rw [h1]
    exact h3.1

theorem perm_of (l : List (Int × Int)) (h : permB l = true) : permSB l = true := by
  obtain ⟨h40, hO, hG⟩ := permB_parts h
  have hP := perm_tos h
  have hasc := asc_of_order hO
  unfold permSB
  simp only [Bool.and_eq_true, decide_eq_true_eq]
  refine ⟨h40, all_yes fun j hj => ?_, all_yes fun j hj => ?_⟩
  · have h1 := okAt_parts (order_at hO j hj)
    simp only [okSAt, atomB, Bool.and_eq_true, decide_eq_true_eq, Bool.or_eq_true]
    exact ⟨h1.1, h1.2.2.1, h1.2.2.2⟩
  · simp only [oneAt, decide_eq_true_eq]
    rw [← hP.count_eq]
    have h1 := List.nodup_iff_count.1 (froms_nodup hasc) (prAt l j).1
    have h2 : 0 < (froms l).count (prAt l j).1 := List.count_pos_iff.2 (mem_froms.2 ⟨j, hj, rfl⟩)
    omega

theorem perm_same (l : List (Int × Int)) : permSB l = permB l := by
  rw [Bool.eq_iff_iff]
  exact ⟨perm_to l, perm_of l⟩

theorem count_next {l : List (Int × Int)} {q : Nat} {a : Int} (hq : q < l.length) :
    ((tos l).take (q + 1)).count a = ((tos l).take q).count a + if (prAt l q).2 = a then 1 else 0 := by
  have hlt : q < (tos l).length := by simpa [tos] using hq
  rw [List.take_succ_eq_append_getElem hlt]
  have h1 := tos_at l q hq
  rw [List.getElem?_eq_getElem hlt] at h1
  injection h1 with h1
  rw [h1, List.count_append]
  simp [List.count_singleton]

set_option maxRecDepth 100000 in
set_option maxHeartbeats 4000000 in
theorem isPerm_spec (A : Option Addr) (c : Nat) (l : List (Int × Int)) (w : World) (hA : PairsAt w A l) (hl : l.length ≤ 1099511627776) :
    Calls Try.prog 129 #[.slice A l.length c] w fun e w' => e = .returned (.bool (permSB l)) ∧ Below w.heap.size w w' := by
  by_cases h40 : l.length ≤ 40
  · go_enter Try.func129, Try.ntmps129
    go_wp2
    go_loopw [3] (fun i wr => ∃ k : Nat, k ≤ l.length ∧ i = .int .i64 k ∧ Hid (∀ j, j < k → okSAt l j = true) ∧ Below w.heap.size w wr) (fun i _ => l.length - (intOf i).toNat)
    case atStart => exact ⟨0, Nat.zero_le _, rfl, fun j hj => absurd hj (by omega), Below.refl _ _⟩
    case round =>
      obtain ⟨k, hk, rfl, hq, hb⟩ := hrel
      by_cases hlt : k < l.length
      · obtain ⟨b1, o1, rfl, hb1, hc1⟩ := hA (by omega)
        obtain ⟨c1, c2⟩ := hc1 k hlt
        rw [← hb.cell (p := ⟨b1, _, none⟩) hb1] at c1 c2
        by_cases ha1 : atomB (prAt l k).1 = true
        · by_cases ha3 : ((prAt l k).1 == (prAt l k).2) = true
          · have hn : Hid (permSB l = false) := permSB_no1 hlt (by simp only [beq_iff_eq] at ha3; simp [okSAt, ha3])
            generalize prAt l k = p1 at c1 c2 ha1 ha3
            have q1 := fun d os => cell_regrown c1 d os
            have q2 := fun d os => cell_regrown c2 d os
            clear hc1 hA hq c1 c2
            go_wp2_with fail
            refine wp_region_quiet_below (by kernel_rfl) (by kernel_rfl) ?_
            repeat (any_goals (first | go_big_quiet_step ((go_at_call 128; exact Calls.regrown_of (l1Atom_below _ _))) | quiet_step ((go_at_call 128; exact Calls.regrown_of (l1Atom_below _ _)))))
            refine wpQuiet_nil ?_
            intro _ hw'
            obtain ⟨⟨dq, osq⟩, hw''⟩ := hw'
            subst hw''
            have hb3 := hb.trans ((below_regrown wr dq osq).mono hb.size)
            generalize grow (redrawn wr dq) osq = w2 at hb3 ⊢
            clear q1 q2 hb
            go_wp2
            go_ret
            exact ⟨bool_end hn.out.symm, hb3⟩
          · have ha4 : ((prAt l k).1 == (prAt l k).2) = false := by simpa using ha3
            clear ha3
            by_cases hz : k = 0
            · subst hz
              have hn : Hid (∀ q, q < 0 + 1 → okSAt l q = true) := all_next hq.out (by simp [okSAt, ha1]; simpa using ha4)
              rw [Nat.zero_mul, Nat.add_zero] at c1 c2
              generalize prAt l 0 = p1 at c1 c2 ha1 ha4
              have q1 := fun d os => cell_regrown c1 d os
              have q2 := fun d os => cell_regrown c2 d os
              clear hc1 hA hq c1 c2
              go_wp2_with fail
              refine wp_region_quiet_below (by kernel_rfl) (by kernel_rfl) ?_
              repeat (any_goals (first | go_big_quiet_step ((go_at_call 128; exact Calls.regrown_of (l1Atom_below _ _))) | quiet_step ((go_at_call 128; exact Calls.regrown_of (l1Atom_below _ _)))))
              refine wpQuiet_nil ?_
              intro _ hw'
              obtain ⟨⟨dq, osq⟩, hw''⟩ := hw'
              subst hw''
              have hb3 := hb.trans ((below_regrown wr dq osq).mono hb.size)
              generalize grow (redrawn wr dq) osq = w2 at hb3 ⊢
              clear q1 q2 hb
              go_wp2
              refine ⟨⟨0 + 1, by omega, by go_num, hn, hb3⟩, ?_⟩
              simp only [intOf]
              omega
            · obtain ⟨j, rfl⟩ : ∃ j, k = j + 1 := ⟨k - 1, by omega⟩
              obtain ⟨c3, _⟩ := hc1 j (by omega)
              rw [← hb.cell (p := ⟨b1, _, none⟩) hb1] at c3
              by_cases hp : (prAt l j).1 < (prAt l (j + 1)).1
              · have hn : Hid (∀ q, q < j + 1 + 1 → okSAt l q = true) := all_next hq.out (by simp [okSAt, ha1, hp]; simpa using ha4)
                generalize prAt l (j + 1) = p1 at c1 c2 ha1 ha4 hp
                generalize (prAt l j).1 = p2 at c3 hp
                have q1 := fun d os => cell_regrown c1 d os
                have q2 := fun d os => cell_regrown c2 d os
                have q3 := fun d os => cell_regrown c3 d os
                clear hc1 hA hq c1 c2 c3 hz
                go_wp2_with fail
                refine wp_region_quiet_below (by kernel_rfl) (by kernel_rfl) ?_
                repeat (any_goals (first | go_big_quiet_step ((go_at_call 128; exact Calls.regrown_of (l1Atom_below _ _))) | quiet_step ((go_at_call 128; exact Calls.regrown_of (l1Atom_below _ _)))))
                refine wpQuiet_nil ?_
                intro _ hw'
                obtain ⟨⟨dq, osq⟩, hw''⟩ := hw'
                subst hw''
                have hb3 := hb.trans ((below_regrown wr dq osq).mono hb.size)
                generalize grow (redrawn wr dq) osq = w2 at hb3 ⊢
                clear q1 q2 q3 hb
                go_wp2
                refine ⟨⟨j + 1 + 1, by omega, by go_num, hn, hb3⟩, ?_⟩
                simp only [intOf]
                omega
              · have hn : Hid (permSB l = false) := permSB_no1 hlt (by simp [okSAt, hp])
                generalize prAt l (j + 1) = p1 at c1 c2 ha1 ha4 hp
                generalize (prAt l j).1 = p2 at c3 hp
                have hp' : p1.1 ≤ p2 := by omega
                have q1 := fun d os => cell_regrown c1 d os
                have q2 := fun d os => cell_regrown c2 d os
                have q3 := fun d os => cell_regrown c3 d os
                clear hc1 hA hq c1 c2 c3 hz hp
                go_wp2_with fail
                refine wp_region_quiet_below (by kernel_rfl) (by kernel_rfl) ?_
                repeat (any_goals (first | go_big_quiet_step ((go_at_call 128; exact Calls.regrown_of (l1Atom_below _ _))) | quiet_step ((go_at_call 128; exact Calls.regrown_of (l1Atom_below _ _)))))
                refine wpQuiet_nil ?_
                intro _ hw'
                obtain ⟨⟨dq, osq⟩, hw''⟩ := hw'
                subst hw''
                have hb3 := hb.trans ((below_regrown wr dq osq).mono hb.size)
                generalize grow (redrawn wr dq) osq = w2 at hb3 ⊢
                clear q1 q2 q3 hb
                go_wp2
                go_ret
                exact ⟨bool_end hn.out.symm, hb3⟩
        · have ha2 : atomB (prAt l k).1 = false := by simpa using ha1
          have hn : Hid (permSB l = false) := permSB_no1 hlt (by simp [okSAt, ha2])
          generalize prAt l k = p1 at c1 c2 ha1 ha2
          have q1 := fun d os => cell_regrown c1 d os
          clear hc1 hA hq c1 c2 ha1
          go_wp2_with fail
          refine wp_region_quiet_below (by kernel_rfl) (by kernel_rfl) ?_
          repeat (any_goals (first | go_big_quiet_step ((go_at_call 128; exact Calls.regrown_of (l1Atom_below _ _))) | quiet_step ((go_at_call 128; exact Calls.regrown_of (l1Atom_below _ _)))))
          refine wpQuiet_nil ?_
          intro _ hw'
          obtain ⟨⟨dq, osq⟩, hw''⟩ := hw'
          subst hw''
          have hb3 := hb.trans ((below_regrown wr dq osq).mono hb.size)
          generalize grow (redrawn wr dq) osq = w2 at hb3 ⊢
          clear q1 hb
          go_wp2
          go_ret
          exact ⟨bool_end hn.out.symm, hb3⟩
      · have hok : Hid (∀ j, j < l.length → okSAt l j = true) := fun j hj => hq.out j (by omega)
        obtain ⟨wo, rfl⟩ : ∃ wo : World, wo = wr := ⟨_, rfl⟩
        clear hq
        go_wp2
        go_loopw [4, 5, 6] (fun i _ _ wr => ∃ k : Nat, k ≤ l.length ∧ i = .int .i64 k ∧ Hid (∀ j, j < k → oneAt l j = true) ∧ Below w.heap.size w wr) (fun i _ _ _ => l.length - (intOf i).toNat)
        case atStart => exact ⟨0, Nat.zero_le _, rfl, fun j hj => absurd hj (by omega), hb⟩
        case round =>
          clear hb
          obtain ⟨k2, hk2, rfl, hq2, hb⟩ := hrel
          by_cases hlt2 : k2 < l.length
          · obtain ⟨b1, o1, rfl, hb1, hc1⟩ := hA (by omega)
            obtain ⟨d1, _⟩ := hc1 k2 hlt2
            have HC := Lib.hid hc1
            have hn1 : Hid (oneAt l k2 = decide ((tos l).count (prAt l k2).1 = 1)) := rfl
            clear hc1 hA
            generalize (prAt l k2).1 = a at d1 hn1
            obtain ⟨wo2, rfl⟩ : ∃ wo : World, wo = wr := ⟨_, rfl⟩
            go_wp2
            go_loopw [5, 6] (fun cn q wr => ∃ q' : Nat, q' ≤ l.length ∧ q = .int .i64 q' ∧ cn = .int .i64 (((tos l).take q').count a : Nat) ∧ Below w.heap.size w wr) (fun _ q _ => l.length - (intOf q).toNat)
            case atStart => exact ⟨0, Nat.zero_le _, rfl, by simp, hb⟩
            case round =>
              obtain ⟨wi, rfl⟩ : ∃ wi : World, wi = wr := ⟨_, rfl⟩
              clear hb
              obtain ⟨q', hq', rfl, rfl, hbi⟩ := hrel
              by_cases hlt3 : q' < l.length
              · obtain ⟨_, e2⟩ := HC.out q' hlt3
                have e1 := d1
                rw [← hbi.cell (p := ⟨b1, _, none⟩) hb1] at e1 e2
                have q1 := fun d os => cell_regrown e1 d os
                have q2 := fun d os => cell_regrown e2 d os
                have hcn := count_next (a := a) hlt3
                have hcle : ((tos l).take q').count a ≤ q' := Nat.le_trans List.count_le_length (by rw [List.length_take]; omega)
                generalize ((tos l).take q').count a = m at hcn hcle ⊢
                by_cases ht : ((prAt l q').2 == a) = true
                · have hcn' : Hid (((tos l).take (q' + 1)).count a = m + 1) := by
                    show ((tos l).take (q' + 1)).count a = m + 1
                    rw [hcn, if_pos (by simpa using ht)]
                  generalize (prAt l q').2 = t at ht q2 e2
                  clear hcn e1 e2
                  go_wp2
                  refine wp_region_quiet_below (by kernel_rfl) (by kernel_rfl) ?_
                  repeat (any_goals (first | go_big_quiet_step (fail) | quiet_step (fail)))
                  refine wpQuiet_nil ?_
                  intro _ hw'
                  obtain ⟨⟨dq, osq⟩, hw''⟩ := hw'
                  subst hw''
                  have hb3 := hbi.trans ((below_regrown wi dq osq).mono hbi.size)
                  generalize grow (redrawn wi dq) osq = w2 at hb3 ⊢
                  clear q1 q2 hbi
                  go_wp2
                  refine ⟨⟨q' + 1, by omega, by go_num, by rw [hcn'.out]; go_num, hb3⟩, ?_⟩
                  simp only [intOf]
                  omega
                · have ht' : ((prAt l q').2 == a) = false := by simpa using ht
                  have hcn' : Hid (((tos l).take (q' + 1)).count a = m) := by
                    show ((tos l).take (q' + 1)).count a = m
                    rw [hcn, if_neg (by simpa using ht)]
                    rfl
                  generalize (prAt l q').2 = t at ht ht' q2 e2
                  clear hcn e1 e2 ht
                  go_wp2
                  refine wp_region_quiet_below (by kernel_rfl) (by kernel_rfl) ?_
                  repeat (any_goals (first | go_big_quiet_step (fail) | quiet_step (fail)))
                  refine wpQuiet_nil ?_
                  intro _ hw'
                  obtain ⟨⟨dq, osq⟩, hw''⟩ := hw'
                  subst hw''
                  have hb3 := hbi.trans ((below_regrown wi dq osq).mono hbi.size)
                  generalize grow (redrawn wi dq) osq = w2 at hb3 ⊢
                  clear q1 q2 hbi
                  go_wp2
                  refine ⟨⟨q' + 1, by omega, by go_num, by rw [hcn'.out], hb3⟩, ?_⟩
                  simp only [intOf]
                  omega
              · have hall : Hid (((tos l).take q').count a = (tos l).count a) := by
                  show ((tos l).take q').count a = (tos l).count a
                  rw [List.take_of_length_le (by simp [tos]; omega)]
                rw [hall.out]
                have hcle : (tos l).count a ≤ l.length := Nat.le_trans List.count_le_length (by simp [tos])
                by_cases h1 : (tos l).count a = 1
                · have hn2 : Hid (∀ j, j < k2 + 1 → oneAt l j = true) := all_next hq2.out (by rw [hn1.out, h1]; rfl)
                  have t1 : (((tos l).count a : Int) != 1) = false := by rw [h1]; rfl
                  generalize (tos l).count a = m at t1 ⊢
                  clear h1 hall hn1 hq2 hcle
                  go_wp2
                  refine ⟨⟨k2 + 1, by omega, by go_num, hn2, hbi⟩, ?_⟩
                  simp only [intOf]
                  omega
                · have hn2 : Hid (permSB l = false) := permSB_no2 hlt2 (by rw [hn1.out]; simpa using h1)
                  have t1 : (((tos l).count a : Int) != 1) = true := by simp; omega
                  generalize (tos l).count a = m at t1 ⊢
                  clear h1 hall hn1 hq2 hcle
                  go_wp2
                  go_ret
                  exact ⟨bool_end hn2.out.symm, hbi⟩
          · have hn2 : Hid (permSB l = true) := by
              show permSB l = true
              unfold permSB
              rw [all_yes hok.out, all_yes fun j hj => hq2.out j (by omega)]
              simp [h40]
            clear hq2
            go_wp2
            go_ret
            exact ⟨bool_end hn2.out.symm, hb⟩
  · have hf : Hid (permSB l = false) := by show permSB l = false; unfold permSB; simp [h40]
    have h41 : 40 < l.length := by omega
    clear h40 hA
    go_enter Try.func129, Try.ntmps129
    go_wp2
    go_ret
    exact ⟨bool_end hf.out.symm, Below.refl _ _⟩

end Go.Proofs.Ytnomidnjglbedaa
