/-
  The least atom that is not in a list: in the program, as a contract.
-/
import Derived.Test.YtihlfaeeegopbaaHas
namespace Go.Proofs.Ytihlfaeeegopbaa
open Go.RowKit Go.Sort

/-- The least atom that is not in a list; -1: there is none. -/
def leastF (l : List Int) : Int := match (List.range 1000).find? (fun a : Nat => !hasB l (a : Int)) with
  | some a => a
  | none => -1

theorem leastF_at {l : List Int} {a : Nat} (ha : a < 1000) (hn : hasB l (a : Int) = false) (hb : ∀ b : Nat, b < a → hasB l (b : Int) = true) : leastF l = a := by
  have h : (List.range 1000).find? (fun a : Nat => !hasB l (a : Int)) = some a := by
    rw [List.find?_range_eq_some]
    refine ⟨by simp [hn], by simpa using ha, fun j hj => ?_⟩
    simp [hb j hj]
  unfold leastF
  rw [h]

theorem leastF_none {l : List Int} (hb : ∀ b : Nat, b < 1000 → hasB l (b : Int) = true) : leastF l = -1 := by
  have h : (List.range 1000).find? (fun a : Nat => !hasB l (a : Int)) = none := by
    rw [List.find?_eq_none]
    intro x hx
    rw [hb x (List.mem_range.1 hx)]
    simp
  unfold leastF
  rw [h]

/-- Which atoms the first k numbers are. -/
def tBits (l : List Int) (k : Nat) : List Value := (List.range 1000).map fun q : Nat => .bool (hasB (l.take k) (q : Int))

theorem tBits_len (l : List Int) (k : Nat) : (tBits l k).length = 1000 := by rw [tBits, List.length_map, List.length_range]

theorem tBits_at (l : List Int) (k q : Nat) (h : q < 1000) : (tBits l k)[q]? = some (.bool (hasB (l.take k) (q : Int))) := by
  simp [tBits, List.getElem?_map, List.getElem?_range h]

theorem tBits_zero (l : List Int) : tBits l 0 = List.replicate 1000 (.bool false) := by
  apply List.ext_getElem?
  intro q
  by_cases hq : q < 1000
  · rw [tBits_at l 0 q hq, List.getElem?_replicate, if_pos hq]
    simp [hasB]
  · rw [List.getElem?_eq_none (by rw [tBits_len]; omega), List.getElem?_eq_none (by rw [List.length_replicate]; omega)]

theorem contains_next {l : List Int} {k : Nat} (hk : k < l.length) (q : Int) : hasB (l.take (k + 1)) q = (hasB (l.take k) q || decide (q = itAt l k)) := by
  rw [itake_next hk, Bool.eq_iff_iff]
  simp [hasB]

theorem tBits_set {l : List Int} {k m : Nat} (hk : k < l.length) (hm : m < 1000) (e : itAt l k = (m : Int)) : (tBits l k).set m (.bool true) = tBits l (k + 1) := by
  apply List.ext_getElem?
  intro q
  by_cases hq : q < 1000
  · rw [tBits_at l (k + 1) q hq, List.getElem?_set, contains_next hk, e]
    by_cases hc : m = q
    · subst hc
      rw [if_pos rfl, if_pos (by rw [tBits_len]; exact hm)]
      simp
    · rw [if_neg hc, tBits_at l k q hq]
      have : ¬ (q : Int) = (m : Int) := by omega
      simp [this]
  · rw [List.getElem?_eq_none (by rw [List.length_set, tBits_len]; omega), List.getElem?_eq_none (by rw [tBits_len]; omega)]

theorem tBits_skip {l : List Int} {k : Nat} (hk : k < l.length) (h : atomB (itAt l k) = false) : tBits l k = tBits l (k + 1) := by
  apply List.ext_getElem?
  intro q
  by_cases hq : q < 1000
  · rw [tBits_at l k q hq, tBits_at l (k + 1) q hq, contains_next hk]
    have hne : ¬ (q : Int) = itAt l k := by
      intro e
      rw [← e] at h
      simp [atomB] at h
      omega
    simp [hne]
  · rw [List.getElem?_eq_none (by rw [tBits_len]; omega), List.getElem?_eq_none (by rw [tBits_len]; omega)]

/-- The block of marks after k numbers. -/
def TMarks (w : World) (G : Nat) (l : List Int) (k : Nat) : Prop := w.heap[G]? = some (.cells (tBits l k).toArray 84 (0, 0))

theorem TMarks.lt {w : World} {G : Nat} {l : List Int} {k : Nat} (h : TMarks w G l k) : G < w.heap.size := (Array.getElem?_eq_some_iff.1 h).1
theorem TMarks.cell {w : World} {G : Nat} {l : List Int} {k : Nat} (h : TMarks w G l k) (q : Nat) (hq : q < 1000) : w.cell? ⟨G, q, none⟩ = some (.bool (hasB (l.take k) (q : Int))) := by
  rw [cell_of_row w G q _ _ _ h]
  simpa using tBits_at l k q hq
theorem TMarks.frozen {w : World} {G : Nat} {l : List Int} {k : Nat} (h : TMarks w G l k) (q : Nat) : w.frozen? ⟨G, q, none⟩ = false := frozen_of_row w G q _ _ h
theorem TMarks.set_ {w : World} {G : Nat} {l : List Int} {k m : Nat} (h : TMarks w G l k) (hk : k < l.length) (hm : m < 1000) (e : itAt l k = (m : Int)) :
    TMarks (w.setCell ⟨G, m, none⟩ (.bool true)) G l (k + 1) := by
  unfold TMarks at h ⊢
  rw [heap_setCell_same w G m _ _ _ h, ← tBits_set hk hm e]
  simp

theorem zero_marks : Try.zeroCells84 = (List.replicate 1000 (Value.bool false)).toArray := by kernel_rfl

set_option maxRecDepth 100000 in
set_option maxHeartbeats 1000000 in
theorem least_impl (A : Option Addr) (c : Nat) (l : List Int) (w : World) (hA : IntsAt w A l) (hl : l.length ≤ 1099511627776) :
    Calls Try.prog 35 #[.slice A l.length c] w fun e w' => e = .returned (.int .i64 (leastF l)) ∧ Below w.heap.size w w' := by
  have hm0 : TMarks (w.alloc (.cells Try.zeroCells84 84)) w.heap.size l 0 := by
    rw [zero_marks, ← tBits_zero l]
    exact heap_alloc_new w _
  have hb0 : Below w.heap.size w (w.alloc (.cells Try.zeroCells84 84)) := (Below.refl _ _).alloc (Nat.le_refl _) _
  go_enter Try.func35, Try.ntmps35
  go_wp2_with fail
  generalize w.alloc (.cells Try.zeroCells84 84) = w1 at hm0 hb0 ⊢
  go_loopw [5, 9] (fun _ i wr => ∃ k : Nat, k ≤ l.length ∧ i = .int .i64 k ∧ TMarks wr w.heap.size l k ∧ Below w.heap.size w wr) (fun _ i _ => l.length - (intOf i).toNat)
  case atStart => exact ⟨0, Nat.zero_le _, rfl, hm0, hb0⟩
  case round =>
    clear hm0 hb0
    obtain ⟨k, hk, rfl, hm, hb⟩ := hrel
    by_cases hlt : k < l.length
    · obtain ⟨b1, o1, rfl, hb1, hc1⟩ := hA (by omega)
      have c1 := hc1 k hlt
      rw [← hb.cell (p := ⟨b1, _, none⟩) hb1] at c1
      clear hc1 hA
      by_cases ha : atomB (itAt l k) = true
      · obtain ⟨m, hx⟩ : ∃ m : Nat, itAt l k = (m : Int) := ⟨(itAt l k).toNat, by simp [atomB] at ha; omega⟩
        have hm1 : m < 1000 := by rw [hx] at ha; simp [atomB] at ha; omega
        have hc := hm.cell m hm1
        have hfz := hm.frozen m
        have hst : Hid (TMarks (wr.setCell ⟨w.heap.size, m, none⟩ (.bool true)) w.heap.size l (k + 1)) := hm.set_ hlt hm1 hx
        have hb2 : Below w.heap.size w (wr.setCell ⟨w.heap.size, m, none⟩ (.bool true)) := hb.setCell (Nat.le_refl _) _
        rw [hx] at c1 ha
        generalize hasB (l.take k) (m : Int) = bb at hc
        clear hm hb hx
        go_wp2_with (go_at_call 52; refine (isAtom_any _ _).mono ?_; rintro e w' ⟨rfl, rfl⟩)
        refine ⟨⟨k + 1, by omega, by go_num, hst.out, hb2⟩, ?_⟩
        simp only [intOf]
        omega
      · have ha' : atomB (itAt l k) = false := by simpa using ha
        have hst : Hid (TMarks wr w.heap.size l (k + 1)) := by
          show TMarks wr w.heap.size l (k + 1)
          unfold TMarks at hm ⊢
          rw [← tBits_skip hlt ha']
          exact hm
        generalize itAt l k = x at c1 ha'
        clear hm ha
        go_wp2_with (go_at_call 52; refine (isAtom_any _ _).mono ?_; rintro e w' ⟨rfl, rfl⟩)
        refine ⟨⟨k + 1, by omega, by go_num, hst.out, hb⟩, ?_⟩
        simp only [intOf]
        omega
    · have hall : Hid (l.take k = l) := List.take_of_length_le (by omega)
      obtain ⟨wo, rfl⟩ : ∃ wo : World, wo = wr := ⟨_, rfl⟩
      clear hA
      go_wp2
      go_loop [6, 18] (fun _ i => ∃ a : Nat, a ≤ 1000 ∧ i = .int .i64 a ∧ Hid (∀ b : Nat, b < a → hasB l (b : Int) = true)) (fun _ i => 1000 - (intOf i).toNat)
      case atStart => exact ⟨0, Nat.zero_le _, rfl, fun b hb => absurd hb (by omega)⟩
      case round =>
        obtain ⟨a, ha, rfl, hq⟩ := hrel
        by_cases hlt2 : a < 1000
        · have hc := hm.cell a hlt2
          rw [hall.out] at hc
          by_cases hin : hasB l (a : Int) = true
          · have hn : Hid (∀ b : Nat, b < a + 1 → hasB l (b : Int) = true) := by
              intro b hb'
              by_cases e : b = a
              · rw [e]; exact hin
              · exact hq.out b (by omega)
            rw [hin] at hc
            clear hm hin hq
            go_wp2
            go_round
            case rel => exact ⟨a + 1, by omega, by go_num, hn⟩
            case measure => simp [intOf]; omega
          · have hin' : hasB l (a : Int) = false := by simpa using hin
            have hn : Hid (leastF l = a) := leastF_at hlt2 hin' hq.out
            rw [hin'] at hc
            clear hm hin hin' hq
            go_wp2
            go_ret
            exact ⟨int_end hn.out.symm, hb⟩
        · have hn : Hid (leastF l = -1) := leastF_none fun b hb' => hq.out b (by omega)
          clear hm hq
          go_wp2
          go_ret
          exact ⟨int_end hn.out.symm, hb⟩

theorem leastF_cases (l : List Int) : (leastF l = -1 ∧ ∀ b : Nat, b < 1000 → hasB l (b : Int) = true) ∨ ∃ a : Nat, a < 1000 ∧ leastF l = a ∧ hasB l (a : Int) = false ∧ ∀ b : Nat, b < a → hasB l (b : Int) = true := by
  rcases h : (List.range 1000).find? (fun a : Nat => !hasB l (a : Int)) with _ | a
  · left
    refine ⟨by unfold leastF; rw [h], fun b hb => ?_⟩
    rw [List.find?_eq_none] at h
    simpa using h b (List.mem_range.2 hb)
  · right
    have h' := h
    rw [List.find?_range_eq_some] at h'
    refine ⟨a, by simpa using h'.2.1, by unfold leastF; rw [h], by simpa using h'.1, fun b hb => by simpa using h'.2.2 b hb⟩

/-- A list that has many different numbers is long. -/
theorem long_of : ∀ (xs l : List Int), xs.Nodup → (∀ a, a ∈ xs → a ∈ l) → xs.length ≤ l.length
  | [], _, _, _ => by simp
  | x :: r, l, hn, hs => by
    have hx : x ∈ l := hs x List.mem_cons_self
    rw [List.nodup_cons] at hn
    have h2 := long_of r (l.erase x) hn.2 (fun a ha => by
      have hne : a ≠ x := fun e => hn.1 (e ▸ ha)
      exact (List.mem_erase_of_ne hne).2 (hs a (List.mem_cons_of_mem _ ha)))
    rw [List.length_erase_of_mem hx] at h2
    have h3 : 0 < l.length := List.length_pos_of_mem hx
    simp only [List.length_cons]
    omega

theorem long_least {l : List Int} (h : ∀ b : Nat, b < 1000 → hasB l (b : Int) = true) : 1000 ≤ l.length := by
  have h1 := long_of ((List.range 1000).map fun q : Nat => (q : Int)) l (by
    rw [List.Nodup, List.pairwise_map]
    refine List.Pairwise.imp ?_ List.pairwise_lt_range
    intro a b hab
    omega) (by
    intro a ha
    rw [List.mem_map] at ha
    obtain ⟨q, hq, rfl⟩ := ha
    have := h q (List.mem_range.1 hq)
    unfold hasB at this
    exact List.contains_iff_mem.1 this)
  rw [List.length_map, List.length_range] at h1
  exact h1

end Go.Proofs.Ytihlfaeeegopbaa
