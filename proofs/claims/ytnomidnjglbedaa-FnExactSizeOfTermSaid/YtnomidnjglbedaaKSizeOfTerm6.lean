/-
  Whether a list of pairs is a permutation, as the program decides it: a contract.
-/
import Derived.Test.YtnomidnjglbedaaKSizeOfTerm5
namespace Go.Proofs.Ytnomidnjglbedaa
open Go.RowKit Go.Sort

def froms (l : List (Int × Int)) : List Int := l.map (·.1)
def tos (l : List (Int × Int)) : List Int := l.map (·.2)

theorem froms_at (l : List (Int × Int)) (i : Nat) (h : i < l.length) : (froms l)[i]? = some (prAt l i).1 := by
  simp [froms, prAt, h]
theorem tos_at (l : List (Int × Int)) (i : Nat) (h : i < l.length) : (tos l)[i]? = some (prAt l i).2 := by
  simp [tos, prAt, h]

theorem mem_froms {l : List (Int × Int)} {t : Int} : t ∈ froms l ↔ ∃ i, i < l.length ∧ (prAt l i).1 = t := by
  constructor
  · intro h
    obtain ⟨i, hi, e⟩ := List.getElem_of_mem h
    have hl : i < l.length := by simpa [froms] using hi
    refine ⟨i, hl, ?_⟩
    have h1 := froms_at l i hl
    rw [List.getElem?_eq_getElem hi, e] at h1
    injection h1 with h1
    exact h1.symm
  · rintro ⟨i, hi, rfl⟩
    exact List.mem_of_getElem? (froms_at l i hi)

theorem okAt_parts {l : List (Int × Int)} {i : Nat} (h : okAt l i = true) :
    (0 ≤ (prAt l i).1 ∧ (prAt l i).1 ≤ 999) ∧ (0 ≤ (prAt l i).2 ∧ (prAt l i).2 ≤ 999) ∧ (prAt l i).1 ≠ (prAt l i).2 ∧ (i = 0 ∨ (prAt l (i - 1)).1 < (prAt l i).1) := by
  simpa [okAt, atomB] using h

theorem order_at {l : List (Int × Int)} (h : orderB l = true) (i : Nat) (hi : i < l.length) : okAt l i = true := by
  unfold orderB at h
  rw [List.all_eq_true] at h
  exact h i (List.mem_range.2 hi)

theorem asc_of_order {l : List (Int × Int)} (h : orderB l = true) : Asc l := by
  intro i j hij hj
  induction j with
  | zero => omega
  | succ j ih =>
    have h1 := (okAt_parts (order_at h (j + 1) hj)).2.2.2
    rcases h1 with h1 | h1
    · omega
    · have e : j + 1 - 1 = j := by omega
      rw [e] at h1
      by_cases hc : i = j
      · rw [hc]; exact h1
      · have := ih (by omega) (by omega); omega

theorem found_iff {l : List (Int × Int)} {t : Int} {i : Nat} (hasc : Asc l) (hd : Divides l t i) : foundB l t i = (froms l).contains t := by
  rw [Bool.eq_iff_iff]
  simp only [foundB, decide_eq_true_eq, List.contains_iff_mem]
  rw [mem_froms]
  constructor
  · rintro ⟨h1, h2⟩
    exact ⟨i, h1, h2⟩
  · rintro ⟨q, hq, e⟩
    have h1 : i ≤ q := by
      rcases Nat.lt_or_ge q i with h | h
      · have := hd.2.1 q h; omega
      · exact h
    have h2 : i < l.length := by omega
    refine ⟨h2, ?_⟩
    have h3 := hd.2.2 i (Nat.le_refl _) h2
    by_cases hc : i = q
    · rw [hc]; exact e
    · have := hasc i q (by omega) hq; omega

/-- Which atoms of the pairs have been given by the first k. -/
def gBit (l : List (Int × Int)) (k q : Nat) : Bool := decide (q < l.length) && ((tos l).take k).contains (prAt l q).1
def gBits (l : List (Int × Int)) (k : Nat) : List Value := (List.range 40).map fun q => .bool (gBit l k q)

theorem gBits_at (l : List (Int × Int)) (k q : Nat) (h : q < 40) : (gBits l k)[q]? = some (.bool (gBit l k q)) := by
  simp [gBits, List.getElem?_map, List.getElem?_range h]

theorem gBits_set {l : List (Int × Int)} {k i : Nat} (hasc : Asc l) (hk : k < l.length) (hi : i < l.length) (e : (prAt l i).1 = (prAt l k).2) :
    (gBits l k).set i (.bool true) = gBits l (k + 1) := by
  have ht : (tos l).take (k + 1) = (tos l).take k ++ [(prAt l k).2] := by
    have hlt : k < (tos l).length := by simpa [tos] using hk
    rw [List.take_succ_eq_append_getElem hlt]
    have h1 := tos_at l k hk
    rw [List.getElem?_eq_getElem hlt] at h1
    injection h1 with h1
    rw [h1]
  apply List.ext_getElem?
  intro q
  by_cases hq : q < 40
  · rw [gBits_at l (k + 1) q hq, List.getElem?_set]
    by_cases hc : i = q
    · subst hc
      rw [if_pos rfl, if_pos (by simpa [gBits] using hq)]
      simp [gBit, hi, ht, e]
    · rw [if_neg hc, gBits_at l k q hq]
      by_cases hql : q < l.length
      · have hne : (prAt l q).1 ≠ (prAt l k).2 := by
          rw [← e]
          intro h
          rcases Nat.lt_or_gt_of_ne hc with h1 | h1
          · have := hasc i q h1 hql; omega
          · have := hasc q i h1 hi; omega
        simp [gBit, ht, hne]
      · simp [gBit, hql]
  · rw [List.getElem?_eq_none (by simp [gBits]; omega), List.getElem?_eq_none (by simp [gBits]; omega)]

theorem gBits_zero (l : List (Int × Int)) : gBits l 0 = List.replicate 40 (.bool false) := by
  apply List.ext_getElem?
  intro q
  by_cases hq : q < 40
  · rw [gBits_at l 0 q hq, List.getElem?_replicate, if_pos hq]
    simp [gBit]
  · rw [List.getElem?_eq_none (by simp [gBits]; omega), List.getElem?_eq_none (by simp; omega)]

def goodAt (l : List (Int × Int)) (k : Nat) : Bool := (froms l).contains (prAt l k).2 && !((tos l).take k).contains (prAt l k).2

/-- Whether a list of pairs is a permutation. -/
def permB (l : List (Int × Int)) : Bool := decide (l.length ≤ 40) && (orderB l && (List.range l.length).all (goodAt l))

theorem permB_no {l : List (Int × Int)} {i : Nat} (hi : i < l.length) (h : goodAt l i = false) : permB l = false := by
  unfold permB
  have : (List.range l.length).all (goodAt l) = false := by
    rw [List.all_eq_false]
    exact ⟨i, List.mem_range.2 hi, by simp [h]⟩
  rw [this]; simp

theorem permB_yes {l : List (Int × Int)} (h0 : l.length ≤ 40) (h1 : orderB l = true) (h : ∀ j, j < l.length → goodAt l j = true) : permB l = true := by
  unfold permB
  have : (List.range l.length).all (goodAt l) = true := by
    rw [List.all_eq_true]
    exact fun x hx => h x (List.mem_range.1 hx)
  rw [this, h1]; simp [h0]

/-- The block of marks after k pairs. -/
def Marks (w : World) (G : Nat) (l : List (Int × Int)) (k : Nat) : Prop := w.heap[G]? = some (.cells (gBits l k).toArray 172 (0, 0))

theorem Marks.lt {w : World} {G : Nat} {l : List (Int × Int)} {k : Nat} (h : Marks w G l k) : G < w.heap.size := (Array.getElem?_eq_some_iff.1 h).1
theorem Marks.cell {w : World} {G : Nat} {l : List (Int × Int)} {k : Nat} (h : Marks w G l k) (q : Nat) (hq : q < 40) : w.cell? ⟨G, q, none⟩ = some (.bool (gBit l k q)) := by
  rw [cell_of_row w G q _ _ _ h]
  simpa using gBits_at l k q hq
theorem Marks.frozen {w : World} {G : Nat} {l : List (Int × Int)} {k : Nat} (h : Marks w G l k) (q : Nat) : w.frozen? ⟨G, q, none⟩ = false := frozen_of_row w G q _ _ h
theorem Marks.below {w w' : World} {G : Nat} {l : List (Int × Int)} {k : Nat} (h : Marks w G l k) (hb : Below w.heap.size w w') : Marks w' G l k := (hb.block G h.lt).trans h
theorem Marks.alloc {w : World} {G : Nat} {l : List (Int × Int)} {k : Nat} (h : Marks w G l k) (o : Obj) : Marks (w.alloc o) G l k := h.below ((Below.refl _ _).alloc (Nat.le_refl _) o)
theorem Marks.set_ {w : World} {G : Nat} {l : List (Int × Int)} {k i : Nat} (h : Marks w G l k) (hasc : Asc l) (hk : k < l.length) (hi : i < l.length) (e : (prAt l i).1 = (prAt l k).2) :
    Marks (w.setCell ⟨G, i, none⟩ (.bool true)) G l (k + 1) := by
  unfold Marks at h ⊢
  rw [heap_setCell_same w G i _ _ _ h, ← gBits_set hasc hk hi e]
  simp

set_option maxRecDepth 100000 in
set_option maxHeartbeats 2000000 in
theorem isPerm_impl (A : Option Addr) (c : Nat) (l : List (Int × Int)) (w : World) (hA : PairsAt w A l) (hl : l.length ≤ 1099511627776) :
    Calls Try.prog 132 #[.slice A l.length c] w fun e w' => e = .returned (.bool (permB l)) ∧ Below w.heap.size w w' := by
  by_cases h40 : l.length ≤ 40
  · have hio := inOrder_any A c l w hA hl
    by_cases ho : orderB l = true
    · rw [ho] at hio
      have hasc := asc_of_order ho
      have HO := Lib.hid ho
      have HA := Lib.hid hasc
      clear ho hasc
      go_enter Try.func132, Try.ntmps132
      go_wp2_with fail
      refine hio.mono ?_
      rintro e w1 ⟨rfl, hb1⟩
      have k40 : decide (40 < (l.length : Int)) = false := by simp; omega
      clear hio
      go_wp2_with fail
      have hm0 : Marks (w1.alloc (.cells (gBits l 0).toArray 172)) w1.heap.size l 0 := heap_alloc_new w1 _
      rw [gBits_zero] at hm0
      have hb2 : Below w.heap.size w (w1.alloc (.cells (List.replicate 40 (Value.bool false)).toArray 172)) := hb1.alloc hb1.size _
      have e2 : w1.alloc (.cells (List.replicate 40 (Value.bool false)).toArray 172) = w1.alloc (.cells #[.bool false, .bool false, .bool false, .bool false, .bool false, .bool false, .bool false, .bool false, .bool false, .bool false, .bool false, .bool false, .bool false, .bool false, .bool false, .bool false, .bool false, .bool false, .bool false, .bool false, .bool false, .bool false, .bool false, .bool false, .bool false, .bool false, .bool false, .bool false, .bool false, .bool false, .bool false, .bool false, .bool false, .bool false, .bool false, .bool false, .bool false, .bool false, .bool false, .bool false] 172) := rfl
      rw [← e2]
      have hG : w.heap.size ≤ w1.heap.size := hb1.size
      generalize w1.alloc (.cells (List.replicate 40 (Value.bool false)).toArray 172) = w2 at hm0 hb2 ⊢
      clear e2 hb1
      generalize w1.heap.size = G at hm0 hG ⊢
      go_loopw [5, 6, 7, 18] (fun _ _ _ i wr => ∃ k : Nat, k ≤ l.length ∧ i = .int .i64 k ∧ Hid (∀ j, j < k → goodAt l j = true) ∧ Marks wr G l k ∧ Below w.heap.size w wr) (fun _ _ _ i _ => l.length - (intOf i).toNat)
      case atStart => exact ⟨0, Nat.zero_le _, rfl, fun j hj => absurd hj (by omega), hm0, hb2⟩
      case round =>
        clear hm0 hb2
        obtain ⟨k, hk, rfl, hq, hm, hb⟩ := hrel
        by_cases hlt : k < l.length
        · have hA1 := hA.below (w' := wr) (hb)
          obtain ⟨b1, o1, rfl, hb1, hc1⟩ := hA (by omega)
          obtain ⟨c1, c2⟩ := hc1 k hlt
          rw [← hb.cell (p := ⟨b1, _, none⟩) hb1] at c1 c2
          clear hc1 hA
          have hpl := fun W (hW : PairsAt W (some ⟨b1, o1, none⟩) l) => placeOf_any (some ⟨b1, o1, none⟩) c l (prAt l k).2 W hW hl HA.out
          have HG : Hid (goodAt l k = ((froms l).contains (prAt l k).2 && !((tos l).take k).contains (prAt l k).2)) := rfl
          generalize hp : prAt l k = p at c1 c2 hpl HG
          have HP := Lib.hid hp
          clear hp
          have hA2 : PairsAt (wr.alloc (.cells #[.int .i64 p.1, .int .i64 p.2] 135)) (some ⟨b1, o1, none⟩) l := hA1.below ((Below.refl _ _).alloc (Nat.le_refl _) _)
          have hm2 := hm.alloc (.cells #[.int .i64 p.1, .int .i64 p.2] 135)
          have hb2 := hb.alloc hb.size (.cells #[.int .i64 p.1, .int .i64 p.2] 135)
          clear hA1 hm
          go_wp2_with fail
          refine (hpl _ hA2).mono ?_
          rintro e w3 ⟨i, he, hd, hb3⟩
          have hfi := found_iff HA.out hd
          have hfp : foundB l p.2 i = true → i < l.length ∧ (prAt l i).1 = p.2 := fun h => by simpa [foundB] using h
          have hm3 := hm2.below hb3
          have hb4 := hb2.trans (hb3.mono hb2.size)
          clear hpl hA2 hm2 hb2 hb3 hd
          by_cases hfb : (froms l).contains p.2 = true
          · rw [hfb] at hfi
            obtain ⟨hi, hie⟩ := hfp hfi
            rw [hfi] at he
            subst he
            have hc := hm3.cell i (by omega)
            have hfz := hm3.frozen i
            have hgb : gBit l k i = ((tos l).take k).contains p.2 := by simp [gBit, hi, hie]
            have hst := hm3.set_ HA.out hlt hi (by rw [HP.out]; exact hie)
            have hst2 : Below w.heap.size w (w3.setCell ⟨G, i, none⟩ (.bool true)) := hb4.setCell hG _
            by_cases hg : ((tos l).take k).contains p.2 = true
            · have hn : Hid (permB l = false) := permB_no hlt (by rw [HG.out, hg]; simp)
              rw [hgb, hg] at hc
              clear hfp hfi hfb hgb hg hst hst2 hie hm3 hq HG
              go_wp2
              go_ret
              exact ⟨bool_end hn.out.symm, hb4⟩
            · have hg' : ((tos l).take k).contains p.2 = false := by simpa using hg
              have hn : Hid (∀ j, j < k + 1 → goodAt l j = true) := all_next hq.out (by rw [HG.out, hg', hfb]; rfl)
              rw [hgb, hg'] at hc
              clear hfp hfi hfb hgb hg hg' hie hm3 hq HG
              have HS := Lib.hid hst
              clear hst
              go_wp2
              refine ⟨⟨k + 1, by omega, by go_num, hn, HS.out, hst2⟩, ?_⟩
              simp only [intOf]
              omega
          · have hfb' : (froms l).contains p.2 = false := by simpa using hfb
            have hn : Hid (permB l = false) := permB_no hlt (by rw [HG.out, hfb']; rfl)
            rw [hfi, hfb'] at he
            subst he
            clear hfp hfi hfb hfb' hm3 hq HG
            go_wp2
            go_ret
            exact ⟨bool_end hn.out.symm, hb4⟩
        · have hn : Hid (permB l = true) := permB_yes h40 HO.out fun j hj => hq.out j (by omega)
          clear hq hm
          go_wp2
          go_ret
          exact ⟨bool_end hn.out.symm, hb⟩
    · have ho' : orderB l = false := by simpa using ho
      rw [ho'] at hio
      have hf : Hid (permB l = false) := by show permB l = false; unfold permB; rw [ho']; simp
      clear ho ho'
      go_enter Try.func132, Try.ntmps132
      go_wp2_with fail
      refine hio.mono ?_
      rintro e w1 ⟨rfl, hb1⟩
      go_wp2
      go_ret
      exact ⟨bool_end hf.out.symm, hb1⟩
  · have hf : Hid (permB l = false) := by show permB l = false; unfold permB; simp [h40]
    have h41 : 40 < l.length := by omega
    clear h40 hA
    go_enter Try.func132, Try.ntmps132
    go_wp2
    go_ret
    exact ⟨bool_end hf.out.symm, Below.refl _ _⟩

end Go.Proofs.Ytnomidnjglbedaa
