/-
  Tables of codes in the program: the patterns of a table, tables with one place more, all patterns, as contracts. All patterns in the program and in the model: allCodes, PatternsOf, as contracts. An orbit set of a table, and of tuples: setOfCodes, setOfTuples in the program, as contracts. The orbit set of tuples: setOfTuples in the program, as a contract. SetOf in the program and in the model, as contracts. The complement of an orbit set: plain words, no program is walked here. Tuples that a list of constants cannot tell apart have the same pattern, and only these: plain words, no program is walked here. What a pattern tells of its tuple: plain words.
-/
import Derived.Test.YtnamlgacjhnpnaaKPatterns14
import Derived.Test.YtnamlgacjhnpnaaKPatterns15
import Derived.Test.YtnamlgacjhnpnaaKPatterns16
import Derived.Test.YtnamlgacjhnpnaaKPatterns11
import Derived.Deep.RegionHeld3
import Derived.Deep.DrawnRows
import Derived.Deep.MidRow
import Derived.Test.YtnamlgacjhnpnaaKPatterns4
import Derived.Test.YtnamlgacjhnpnaaKPatterns12
section
namespace Go.Proofs.Ytnamlgacjhnpnaa
open Go.RowKit Go.Sort
set_option linter.unusedVariables false

end Go.Proofs.Ytnamlgacjhnpnaa
end

section
namespace Go.Proofs.Ytnamlgacjhnpnaa
open Go.RowKit Go.Sort
set_option linter.unusedVariables false

end Go.Proofs.Ytnamlgacjhnpnaa
end

section
namespace Go.Proofs.Ytnamlgacjhnpnaa
open Go.RowKit Go.Sort
set_option linter.unusedVariables false

end Go.Proofs.Ytnamlgacjhnpnaa
end

section
namespace Go.Proofs.Ytnamlgacjhnpnaa
open Go.RowKit Go.Sort
set_option linter.unusedVariables false

end Go.Proofs.Ytnamlgacjhnpnaa
end

section
namespace Go.Proofs.Ytnamlgacjhnpnaa
open Go.RowKit Go.Sort
set_option linter.unusedVariables false

end Go.Proofs.Ytnamlgacjhnpnaa
end

section
namespace Go.Proofs.Ytnamlgacjhnpnaa
open Go.RowKit
set_option linter.unusedVariables false

end Go.Proofs.Ytnamlgacjhnpnaa
end

section
namespace Go.Proofs.Ytnamlgacjhnpnaa
open Go.RowKit
set_option linter.unusedVariables false

theorem itAt_take {xs : List Int} {i k : Nat} (h : i < k) : itAt (xs.take k) i = itAt xs i := by
  unfold itAt
  rw [List.getD_eq_getElem?_getD, List.getD_eq_getElem?_getD, List.getElem?_take, if_pos h]
theorem idx_append {s r : List Int} {a : Int} (h : a ∈ s) : (s ++ r).idxOf a = s.idxOf a := by
  rw [List.idxOf_append, if_pos h]
theorem idx_snoc_new {s : List Int} {a : Int} (h : a ∉ s) : (s ++ [a]).idxOf a = s.length := by
  rw [List.idxOf_append, if_neg h]
  simp
theorem idx_eq {s : List Int} {a b : Int} (ha : a ∈ s) (hb : b ∈ s) (e : s.idxOf a = s.idxOf b) : a = b := by
  have h1 := idx_at (hasB_mem.2 ha)
  have h2 := idx_at (hasB_mem.2 hb)
  rw [← h1, ← h2, e]
/-- What stands in the pattern so far, and what has been seen so far. -/
theorem pat_seen (cs xs : List Int) : ∀ k, k ≤ xs.length → (∃ r, seenL cs (xs.take k) = cs ++ r) ∧ (∀ a, a ∈ seenL cs (xs.take k) ↔ a ∈ cs ∨ ∃ j, j < k ∧ itAt xs j = a) ∧
    ∀ i, i < k → itAt (patL cs (xs.take k)) i = ((seenL cs (xs.take k)).idxOf (itAt xs i) : Nat)
  | 0, _ => by
    refine ⟨⟨[], by simp [seenL, patF]⟩, fun a => ?_, fun i hi => by omega⟩
    simp [seenL, patF]
  | k + 1, hk => by
    obtain ⟨⟨r, h1⟩, h2, h3⟩ := pat_seen cs xs k (by omega)
    have hl : (patL cs (xs.take k)).length = k := by rw [patL_len, List.length_take]; omega
    have hin : ∀ i, i < k → itAt xs i ∈ seenL cs (xs.take k) := fun i hi => (h2 _).2 (.inr ⟨i, hi, rfl⟩)
    rw [patL_next (by omega)]
    cases hs : hasB (seenL cs (xs.take k)) (itAt xs k) with
    | true =>
      rw [seenL_in (by omega) hs]
      refine ⟨⟨r, h1⟩, fun a => ?_, fun i hi => ?_⟩
      · rw [h2]
        constructor
        · rintro (h | ⟨j, hj, e⟩)
          · exact .inl h
          · exact .inr ⟨j, by omega, e⟩
        · rintro (h | ⟨j, hj, e⟩)
          · exact .inl h
          · by_cases hjk : j = k
            · subst hjk
              have := (h2 _).1 (hasB_mem.1 hs)
              rw [e] at this
              exact this
            · exact .inr ⟨j, by omega, e⟩
      · by_cases hik : i = k
        · subst hik
          conv => lhs; arg 2; rw [← hl]
          rw [itAt_snoc_eq]
        · rw [itAt_snoc_lt (by omega), h3 i (by omega)]
    | false =>
      rw [seenL_out (by omega) hs]
      have hn := hasB_not.1 hs
      refine ⟨⟨r ++ [itAt xs k], by rw [h1, List.append_assoc]⟩, fun a => ?_, fun i hi => ?_⟩
      · rw [List.mem_append, h2, List.mem_singleton]
        constructor
        · rintro ((h | ⟨j, hj, e⟩) | h)
          · exact .inl h
          · exact .inr ⟨j, by omega, e⟩
          · exact .inr ⟨k, by omega, h.symm⟩
        · rintro (h | ⟨j, hj, e⟩)
          · exact .inl (.inl h)
          · by_cases hjk : j = k
            · subst hjk; exact .inr e.symm
            · exact .inl (.inr ⟨j, by omega, e⟩)
      · by_cases hik : i = k
        · subst hik
          conv => lhs; arg 2; rw [← hl]
          rw [itAt_snoc_eq, idx_snoc_new hn, idx_out hs]
        · rw [itAt_snoc_lt (by omega), h3 i (by omega), idx_append (hin i (by omega))]

/-- No constant, and no other place, tells two tuples apart. -/
def Sim (cs t u : List Int) : Prop := t.length = u.length ∧ (∀ i j, i < t.length → j < t.length → (itAt t i = itAt t j ↔ itAt u i = itAt u j)) ∧ ∀ i, i < t.length → ∀ c ∈ cs, (itAt t i = c ↔ itAt u i = c)
theorem Sim.refl (cs t : List Int) : Sim cs t t := ⟨rfl, fun _ _ _ _ => Iff.rfl, fun _ _ _ _ => Iff.rfl⟩
theorem Sim.symm {cs t u : List Int} (h : Sim cs t u) : Sim cs u t := ⟨h.1.symm, fun i j hi hj => (h.2.1 i j (by have := h.1; omega) (by have := h.1; omega)).symm, fun i hi c hc => (h.2.2 i (by have := h.1; omega) c hc).symm⟩
theorem Sim.trans {cs t u v : List Int} (h : Sim cs t u) (k : Sim cs u v) : Sim cs t v := ⟨h.1.trans k.1, fun i j hi hj => (h.2.1 i j hi hj).trans (k.2.1 i j (by have := h.1; omega) (by have := h.1; omega)), fun i hi c hc => (h.2.2 i hi c hc).trans (k.2.2 i (by have := h.1; omega) c hc)⟩
theorem Sim.mono {cs ds t u : List Int} (h : Sim cs t u) (hd : ∀ c ∈ ds, c ∈ cs) : Sim ds t u := ⟨h.1, h.2.1, fun i hi c hc => h.2.2 i hi c (hd c hc)⟩

theorem sim_of_pat {cs t u : List Int} (h : patL cs t = patL cs u) : Sim cs t u := by
  have hl : t.length = u.length := by rw [← patL_len cs t, h, patL_len]
  obtain ⟨⟨r1, e1⟩, m1, p1⟩ := pat_seen cs t t.length (Nat.le_refl _)
  obtain ⟨⟨r2, e2⟩, m2, p2⟩ := pat_seen cs u u.length (Nat.le_refl _)
  rw [List.take_length] at e1 m1 p1 e2 m2 p2
  have i1 : ∀ i, i < t.length → itAt t i ∈ seenL cs t := fun i hi => (m1 _).2 (.inr ⟨i, hi, rfl⟩)
  have i2 : ∀ i, i < t.length → itAt u i ∈ seenL cs u := fun i hi => (m2 _).2 (.inr ⟨i, by omega, rfl⟩)
  have hp : ∀ i, i < t.length → (seenL cs t).idxOf (itAt t i) = (seenL cs u).idxOf (itAt u i) := fun i hi => by
    have h1 := p1 i hi
    have h2 := p2 i (by omega)
    rw [h] at h1
    rw [h1] at h2
    omega
  refine ⟨hl, fun i j hi hj => ⟨fun e => ?_, fun e => ?_⟩, fun i hi c hc => ?_⟩
  · refine idx_eq (i2 i hi) (i2 j hj) ?_
    rw [← hp i hi, ← hp j hj, e]
  · refine idx_eq (i1 i hi) (i1 j hj) ?_
    rw [hp i hi, hp j hj, e]
  · have c1 : c ∈ seenL cs t := (m1 c).2 (.inl hc)
    have c2 : c ∈ seenL cs u := (m2 c).2 (.inl hc)
    have x1 : (seenL cs t).idxOf c = cs.idxOf c := by rw [e1, idx_append hc]
    have x2 : (seenL cs u).idxOf c = cs.idxOf c := by rw [e2, idx_append hc]
    constructor
    · intro e
      refine idx_eq (i2 i hi) c2 ?_
      rw [← hp i hi, x2, ← x1, e]
    · intro e
      refine idx_eq (i1 i hi) c1 ?_
      rw [hp i hi, x1, ← x2, e]

theorem nodup_inj {V : List Int} (hV : V.Nodup) {i j : Nat} (hi : i < V.length) (hj : j < V.length) (e : itAt V i = itAt V j) : i = j := by
  rw [itAt_get _ _ hi, itAt_get _ _ hj] at e
  rcases Nat.lt_trichotomy i j with h | h | h
  · exact absurd e (List.pairwise_iff_getElem.1 hV i j hi hj h)
  · exact h
  · exact absurd e.symm (List.pairwise_iff_getElem.1 hV j i hj hi h)
/-- A list of different values: the example of a pattern has it. -/
theorem pat_ex_to {cs V p : List Int} (hV : V.Nodup) (hc : V.take cs.length = cs) (hp : isPatB cs.length p = true) (hl : cs.length + p.length ≤ V.length) : ∀ k, k ≤ p.length → patL cs (exL V (p.take k)) = p.take k ∧ seenL cs (exL V (p.take k)) = V.take (newN cs.length (p.take k)).toNat
  | 0, _ => by
    refine ⟨rfl, ?_⟩
    show cs = V.take ((cs.length : Int)).toNat
    rw [Int.toNat_natCast, hc]
  | k + 1, hk => by
    obtain ⟨h1, h2⟩ := pat_ex_to hV hc hp hl k (by omega)
    obtain ⟨h3, h4⟩ := isPat_at hp (i := k) (by omega)
    have h5 := newN_le (k := (cs.length : Int)) (p := p) (i := k) (by omega) (fun q hq => (isPat_at hp (by omega)).2)
    have h6 := newN_ge (cs.length : Int) (p.take k)
    have e0 : (exL V (p.take k)).length = k := by rw [exL_len, List.length_take]; omega
    have hE := exL_next (V := V) (p := p) (i := k) (by omega)
    have hP := itake_next (xs := p) (k := k) (by omega)
    have hN := newN_snoc (cs.length : Int) (p.take k) (itAt p k)
    generalize hEE : exL V (p.take (k + 1)) = E at hE ⊢
    have hel : E.length = k + 1 := by rw [hE, List.length_append, e0]; rfl
    have ht : E.take k = exL V (p.take k) := by rw [hE, List.take_append_of_le_length (by omega), List.take_of_length_le (by omega)]
    have hat : itAt E k = itAt V (itAt p k).toNat := by
      rw [hE]
      conv => lhs; arg 2; rw [← e0]
      rw [itAt_snoc_eq]
    have hful : E.take (k + 1) = E := List.take_of_length_le (by omega)
    have hpn := patL_next (cs := cs) (xs := E) (k := k) (by omega)
    rw [hful, ht, hat, h1, h2] at hpn
    rw [hpn, hP, hN]
    have hx : (itAt p k).toNat < V.length := by omega
    by_cases hlt : itAt p k < newN cs.length (p.take k)
    · have hid : (V.take (newN cs.length (p.take k)).toNat).idxOf (itAt V (itAt p k).toNat) = (itAt p k).toNat := by
        refine (idx_first (k := (itAt p k).toNat) (by rw [List.length_take]; omega) (by rw [itAt_take (by omega)]) fun j hj e => ?_).1
        rw [itAt_take (by omega)] at e
        have := nodup_inj hV (by omega) hx e
        omega
      have hmm : hasB (seenL cs (E.take k)) (itAt E k) = true := by
        rw [ht, hat, h2, hasB_mem, List.mem_iff_getElem]
        exact ⟨(itAt p k).toNat, by rw [List.length_take]; omega, by rw [List.getElem_take, itAt_get _ _ hx]⟩
      have hsn := seenL_in (cs := cs) (xs := E) (k := k) (by omega) hmm
      rw [hful, ht, h2] at hsn
      rw [hid, hsn]
      refine ⟨by rw [Int.toNat_of_nonneg h3], ?_⟩
      congr 2
      omega
    · have he : itAt p k = newN cs.length (p.take k) := by omega
      have hnm : itAt V (itAt p k).toNat ∉ V.take (newN cs.length (p.take k)).toNat := by
        rw [List.mem_iff_getElem]
        rintro ⟨j, hj, e⟩
        rw [List.length_take] at hj
        rw [List.getElem_take, ← itAt_get _ _ (by omega)] at e
        have := nodup_inj hV (by omega) hx e
        omega
      have hmm : hasB (seenL cs (E.take k)) (itAt E k) = false := by
        rw [ht, hat, h2, hasB_not]; exact hnm
      have hsn := seenL_out (cs := cs) (xs := E) (k := k) (by omega) hmm
      rw [hful, ht, hat, h2] at hsn
      rw [hsn, idx_out (hasB_not.2 hnm), List.length_take]
      refine ⟨by congr 2; omega, ?_⟩
      rw [show (max (newN (cs.length : Int) (p.take k)) (itAt p k + 1)).toNat = (newN (cs.length : Int) (p.take k)).toNat + 1 by omega, List.take_add_one]
      congr 1
      rw [he, itAt_get _ _ (by omega), List.getElem?_eq_getElem (by omega)]
      rfl
theorem pat_ex {cs V p : List Int} (hV : V.Nodup) (hc : V.take cs.length = cs) (hp : isPatB cs.length p = true) (hl : cs.length + p.length ≤ V.length) : patL cs (exL V p) = p := by
  have h := (pat_ex_to hV hc hp hl p.length (Nat.le_refl _)).1
  rwa [List.take_length] at h
theorem leastF_new {l : List Int} (h : l.length < 1000) : leastF l ∉ l := by
  rcases leastF_cases l with ⟨_, h2⟩ | ⟨a, _, h2, h3, _⟩
  · exfalso
    have hs : (List.range 1000).map (fun n : Nat => (n : Int)) ⊆ l := by
      intro x hx
      obtain ⟨n, hn, rfl⟩ := List.mem_map.1 hx
      exact hasB_mem.1 (h2 n (List.mem_range.1 hn))
    have hn : ((List.range 1000).map (fun n : Nat => (n : Int))).Nodup := List.Pairwise.map _ (fun a b (e : a ≠ b) => by intro h9; exact e (by omega)) List.nodup_range
    have := long_of _ _ hn (fun a ha => hs ha)
    simp at this
    omega
  · rw [h2]; exact hasB_not.1 h3
theorem numL_nodup {cs : List Int} (h : cs.Nodup) : ∀ j, cs.length + j ≤ 1000 → (numL cs j).Nodup
  | 0, _ => h
  | j + 1, hl => by
    have h1 := leastF_new (l := numL cs j) (by rw [numL_len]; omega)
    rw [numL, List.nodup_append]
    exact ⟨numL_nodup h j (by omega), by simp, fun a ha b hb e => by simp at hb; exact h1 (by rw [← hb, ← e]; exact ha)⟩
theorem numL_take (cs : List Int) : ∀ j, (numL cs j).take cs.length = cs
  | 0 => List.take_length
  | j + 1 => by rw [numL, List.take_append_of_le_length (by rw [numL_len]; omega), numL_take cs j]
/-- The example of a pattern has it. -/
theorem pat_exL {cs p : List Int} {n : Nat} (hc : cs.Nodup) (h3 : cs.length ≤ 3) (hn : n ≤ 4) (hp : p ∈ allP n cs.length) : patL cs (exL (numL cs 4) p) = p := by
  obtain ⟨h1, h2⟩ := (mem_allP (by omega)).1 hp
  exact pat_ex (numL_nodup hc 4 (by omega)) (numL_take cs 4) h2 (by rw [numL_len]; omega)
theorem Sim.ex {cs t : List Int} (hc : cs.Nodup) (h3 : cs.length ≤ 3) (hn : t.length ≤ 4) : Sim cs (exL (numL cs 4) (patL cs t)) t := sim_of_pat (pat_exL hc h3 hn (patL_mem rfl))
end Go.Proofs.Ytnamlgacjhnpnaa
end

section
namespace Go.Proofs.Ytnamlgacjhnpnaa
open Go.RowKit
set_option linter.unusedVariables false

theorem idx_past {s r : List Int} {a : Int} (h : a ∉ s) : s.length ≤ (s ++ r).idxOf a := by
  rw [List.idxOf_append, if_neg h]
  omega
theorem pat_at (cs xs : List Int) {i : Nat} (hi : i < xs.length) : ∃ m : Nat, itAt (patL cs xs) i = m ∧ (m < cs.length ↔ itAt xs i ∈ cs) ∧ (m < cs.length → itAt cs m = itAt xs i) := by
  obtain ⟨⟨r, e⟩, m1, p1⟩ := pat_seen cs xs xs.length (Nat.le_refl _)
  rw [List.take_length] at e m1 p1
  refine ⟨(seenL cs xs).idxOf (itAt xs i), p1 i hi, ?_⟩
  rw [e]
  by_cases h : itAt xs i ∈ cs
  · rw [idx_append h]
    have hl := List.idxOf_lt_length_of_mem h
    refine ⟨⟨fun _ => h, fun _ => hl⟩, fun _ => ?_⟩
    rw [itAt_get _ _ hl]
    exact List.getElem_idxOf hl
  · have h2 := idx_past (r := r) h
    exact ⟨⟨fun h3 => by omega, fun h3 => absurd h3 h⟩, fun h3 => by omega⟩
theorem pat_eq (cs xs : List Int) {i j : Nat} (hi : i < xs.length) (hj : j < xs.length) : (itAt (patL cs xs) i = itAt (patL cs xs) j) ↔ itAt xs i = itAt xs j := by
  obtain ⟨_, m1, p1⟩ := pat_seen cs xs xs.length (Nat.le_refl _)
  rw [List.take_length] at m1 p1
  have h1 : itAt xs i ∈ seenL cs xs := (m1 _).2 (.inr ⟨i, hi, rfl⟩)
  have h2 : itAt xs j ∈ seenL cs xs := (m1 _).2 (.inr ⟨j, hj, rfl⟩)
  rw [p1 i hi, p1 j hj]
  constructor
  · intro h
    exact idx_eq h1 h2 (by omega)
  · intro h
    rw [h]
end Go.Proofs.Ytnamlgacjhnpnaa
end

