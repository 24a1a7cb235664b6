/-
  Patterns by themselves, all of them, and their order: plain words, no program is walked here. Patterns as codes of base eight, and tables of them: plain words, no program is walked here. The comparison of two pairs and of two lists of pairs, as contracts. Comparing, numbering and copying lists of integers, as contracts. What is a term: plain words, no program is walked here. All terms within a term: plain words. The shape of a term, in the model, as contracts. The pattern of a tuple is a pattern: plain words, no program is walked here. The least atom that is not in a list: in the program, as a contract. Examples of patterns: plain words, no program is walked here. Whether a list has a number: in the laws, as a contract.
-/
import Derived.Test.YtnamlgacjhnpnaaKPatterns3
import Derived.Test.YtnamlgacjhnpnaaKPatterns1
import Derived.WalkLawsBesides
import Derived.WalkSpells
import Derived.BigQuiet
import Derived.Lib.QuietBelow
import Derived.Lib.Hide
import Derived.Test.YtnamlgacjhnpnaaKPatterns2
section
namespace Go.Proofs.Ytnamlgacjhnpnaa
open Go.RowKit
set_option linter.unusedVariables false

/-- The number that one more atom gets. -/
def newN (k : Int) (p : List Int) : Int := p.foldl (fun m n => max m (n + 1)) k
theorem newN_next {k : Int} {p : List Int} {i : Nat} (h : i < p.length) : newN k (p.take (i + 1)) = max (newN k (p.take i)) (itAt p i + 1) := by
  rw [itake_next h]
  unfold newN
  rw [List.foldl_append]
  rfl
theorem newN_ge (k : Int) (p : List Int) : k ≤ newN k p := by
  unfold newN
  induction p generalizing k with
  | nil => exact Int.le_refl _
  | cons a r ih => rw [List.foldl_cons]; have := ih (max k (a + 1)); omega
theorem newN_snoc (k : Int) (p : List Int) (n : Int) : newN k (p ++ [n]) = max (newN k p) (n + 1) := by
  unfold newN
  rw [List.foldl_append]
  rfl
def isPatB (k : Int) (p : List Int) : Bool := (List.range p.length).all fun i => decide (0 ≤ itAt p i) && decide (itAt p i ≤ newN k (p.take i))
theorem isPat_yes {k : Int} {p : List Int} (h : ∀ i, i < p.length → 0 ≤ itAt p i ∧ itAt p i ≤ newN k (p.take i)) : isPatB k p = true := by
  unfold isPatB
  rw [List.all_eq_true]
  intro i hi
  simp only [Bool.and_eq_true, decide_eq_true_eq]
  exact h i (List.mem_range.1 hi)
theorem isPat_at {k : Int} {p : List Int} (h : isPatB k p = true) {i : Nat} (hi : i < p.length) : 0 ≤ itAt p i ∧ itAt p i ≤ newN k (p.take i) := by
  unfold isPatB at h
  rw [List.all_eq_true] at h
  have := h i (List.mem_range.2 hi)
  simpa only [Bool.and_eq_true, decide_eq_true_eq] using this
theorem newN_le {k : Int} {p : List Int} : ∀ {i : Nat}, i ≤ p.length → (∀ j, j < i → itAt p j ≤ newN k (p.take j)) → newN k (p.take i) ≤ k + i
  | 0, _, _ => by simp [newN]
  | i + 1, hi, h => by
    rw [newN_next (by omega)]
    have h1 := newN_le (i := i) (by omega) fun j hj => h j (by omega)
    have h2 := h i (by omega)
    omega
theorem itAt_snoc_lt {p : List Int} {n : Int} {i : Nat} (h : i < p.length) : itAt (p ++ [n]) i = itAt p i := by
  rw [itAt_get _ _ (by simp; omega), itAt_get _ _ h, List.getElem_append_left h]
theorem itAt_snoc_eq (p : List Int) (n : Int) : itAt (p ++ [n]) p.length = n := by
  rw [itAt_get _ _ (by simp), List.getElem_append_right (Nat.le_refl _)]
  simp
theorem isPat_snoc {k : Int} {p : List Int} {n : Int} : isPatB k (p ++ [n]) = true ↔ isPatB k p = true ∧ 0 ≤ n ∧ n ≤ newN k p := by
  constructor
  · intro h
    refine ⟨isPat_yes fun i hi => ?_, ?_⟩
    · have h1 := isPat_at h (i := i) (by simp; omega)
      rw [itAt_snoc_lt hi, List.take_append_of_le_length (by omega)] at h1
      exact h1
    · have h1 := isPat_at h (i := p.length) (by simp)
      rw [itAt_snoc_eq, List.take_append_of_le_length (Nat.le_refl _), List.take_length] at h1
      exact h1
  · rintro ⟨h, h0, h1⟩
    refine isPat_yes fun i hi => ?_
    rcases Nat.lt_or_ge i p.length with h2 | h2
    · rw [itAt_snoc_lt h2, List.take_append_of_le_length (by omega)]
      exact isPat_at h h2
    · have e : i = p.length := by simp at hi; omega
      subst e
      rw [itAt_snoc_eq, List.take_append_of_le_length (Nat.le_refl _), List.take_length]
      exact ⟨h0, h1⟩

/-- The patterns that go on from one. -/
def extP (k : Int) (p : List Int) : List (List Int) := (List.range (newN k p + 1).toNat).map fun n : Nat => p ++ [(n : Int)]
/-- All patterns of a width. -/
def allP : Nat → Int → List (List Int)
  | 0, _ => [[]]
  | w + 1, k => (allP w k).flatMap (extP k)

theorem mem_allP {k : Int} (hk : 0 ≤ k) : ∀ {w : Nat} {p : List Int}, p ∈ allP w k ↔ p.length = w ∧ isPatB k p = true
  | 0, p => by
    rw [allP, List.mem_singleton]
    constructor
    · rintro rfl; exact ⟨rfl, rfl⟩
    · rintro ⟨h, _⟩; exact List.eq_nil_of_length_eq_zero h
  | w + 1, p => by
    rw [allP, List.mem_flatMap]
    constructor
    · rintro ⟨q, hq, hp⟩
      obtain ⟨h1, h2⟩ := (mem_allP hk).1 hq
      unfold extP at hp
      rw [List.mem_map] at hp
      obtain ⟨n, hn, rfl⟩ := hp
      rw [List.mem_range] at hn
      refine ⟨by simp [h1], isPat_snoc.2 ⟨h2, by omega, by omega⟩⟩
    · rintro ⟨h1, h2⟩
      have hne : p ≠ [] := fun e => by rw [e] at h1; simp at h1
      have e := List.dropLast_concat_getLast hne
      rw [← e] at h2
      obtain ⟨h3, h4, h5⟩ := isPat_snoc.1 h2
      refine ⟨p.dropLast, (mem_allP hk).2 ⟨by simp [h1], h3⟩, ?_⟩
      unfold extP
      rw [List.mem_map]
      refine ⟨(p.getLast hne).toNat, List.mem_range.2 (by omega), ?_⟩
      rw [show (((p.getLast hne).toNat : Nat) : Int) = p.getLast hne by omega]
      exact e
end Go.Proofs.Ytnamlgacjhnpnaa
end

section
namespace Go.Proofs.Ytnamlgacjhnpnaa
open Go.RowKit
set_option linter.unusedVariables false

end Go.Proofs.Ytnamlgacjhnpnaa
end

section
namespace Go.Proofs.Ytnamlgacjhnpnaa
open Go.RowKit Go.Sort

end Go.Proofs.Ytnamlgacjhnpnaa
end

section
namespace Go.Proofs.Ytnamlgacjhnpnaa
open Go.RowKit Go.Sort

end Go.Proofs.Ytnamlgacjhnpnaa
end

section
namespace Go.Proofs.Ytnamlgacjhnpnaa
section
open Go.RowKit

def shapeB (t : Tm) : Bool :=
  if t.op = 1 then atomB t.num && (decide (t.perm.length = 0) && decide (t.kids.length = 0))
  else if t.op = 2 then decide (0 ≤ t.num ∧ t.num ≤ 11) && (decide (t.perm.length = 0) && decide ((t.kids.length : Int) = t.num % 4))
  else if t.op = 3 then atomB t.num && (decide (t.perm.length = 0) && decide (t.kids.length = 1))
  else if t.op = 4 then decide (0 ≤ t.num ∧ t.num ≤ 9) && (permB t.perm && decide (t.kids.length = 0))
  else false

mutual
/-- Right, however great. -/
def goodT : Tm → Bool
  | .mk o n p ks => shapeB (.mk o n p ks) && goodTs ks
def goodTs : List Tm → Bool
  | [] => true
  | t :: r => goodT t && goodTs r
end

end

section
open Go.RowKit

mutual
def nodesT : Tm → List Tm
  | .mk o n p ks => .mk o n p ks :: nodesTs ks
def nodesTs : List Tm → List Tm
  | [] => []
  | t :: r => nodesT t ++ nodesTs r
end

/-- What is known while the terms within t are gone through: i of F have been looked at. -/
structure Walk (t : Tm) (F : List Tm) (i : Nat) : Prop where
  le : i ≤ F.length
  most : F.length ≤ 60
  good : goodT t = goodTs (F.drop i)
  size : szT t = i + szTs (F.drop i)
  mem : ∀ y, y ∈ nodesT t ↔ y ∈ F.take i ∨ y ∈ nodesTs (F.drop i)

end
end Go.Proofs.Ytnamlgacjhnpnaa
end

section
namespace Go.Proofs.Ytnamlgacjhnpnaa
open Go.RowKit Go.Sort
set_option linter.unusedVariables false

end Go.Proofs.Ytnamlgacjhnpnaa
end

section
namespace Go.Proofs.Ytnamlgacjhnpnaa
open Go.RowKit
set_option linter.unusedVariables false

theorem pat_state (cs xs : List Int) : ∀ k, k ≤ xs.length → newN cs.length (patL cs (xs.take k)) = ((seenL cs (xs.take k)).length : Int) ∧ isPatB cs.length (patL cs (xs.take k)) = true
  | 0, _ => ⟨rfl, rfl⟩
  | k + 1, hk => by
    obtain ⟨h1, h2⟩ := pat_state cs xs k (by omega)
    rw [patL_next (by omega), newN_snoc, h1, isPat_snoc, h1]
    cases hs : hasB (seenL cs (xs.take k)) (itAt xs k) with
    | true =>
      have h3 := idx_in hs
      rw [seenL_in (by omega) hs]
      exact ⟨by omega, h2, by omega, by omega⟩
    | false =>
      have h3 := idx_out hs
      rw [seenL_out (by omega) hs, h3, List.length_append]
      exact ⟨by simp; omega, h2, by omega, by omega⟩
theorem patL_pat (cs xs : List Int) : isPatB cs.length (patL cs xs) = true := by
  have := (pat_state cs xs xs.length (Nat.le_refl _)).2
  rwa [List.take_length] at this
theorem patL_mem {cs xs : List Int} {n : Nat} (h : xs.length = n) : patL cs xs ∈ allP n cs.length := (mem_allP (by omega)).2 ⟨by rw [patL_len, h], patL_pat cs xs⟩
end Go.Proofs.Ytnamlgacjhnpnaa
end

section
namespace Go.Proofs.Ytnamlgacjhnpnaa
open Go.RowKit Go.Sort

/-- The least atom that is not in a list; -1: there is none. -/
def leastF (l : List Int) : Int := match (List.range 1000).find? (fun a : Nat => !hasB l (a : Int)) with
  | some a => a
  | none => -1

/-- Which atoms the first k numbers are. -/
def tBits (l : List Int) (k : Nat) : List Value := (List.range 1000).map fun q : Nat => .bool (hasB (l.take k) (q : Int))

theorem tBits_at (l : List Int) (k q : Nat) (h : q < 1000) : (tBits l k)[q]? = some (.bool (hasB (l.take k) (q : Int))) := by
  simp [tBits, List.getElem?_map, List.getElem?_range h]

/-- The block of marks after k numbers. -/
def TMarks (w : World) (G : Nat) (l : List Int) (k : Nat) : Prop := w.heap[G]? = some (.cells (tBits l k).toArray 96 (0, 0))

theorem TMarks.lt {w : World} {G : Nat} {l : List Int} {k : Nat} (h : TMarks w G l k) : G < w.heap.size := (Array.getElem?_eq_some_iff.1 h).1
theorem TMarks.cell {w : World} {G : Nat} {l : List Int} {k : Nat} (h : TMarks w G l k) (q : Nat) (hq : q < 1000) : w.cell? ⟨G, q, none⟩ = some (.bool (hasB (l.take k) (q : Int))) := by
  rw [cell_of_row w G q _ _ _ h]
  simpa using tBits_at l k q hq
theorem leastF_cases (l : List Int) : (leastF l = -1 ∧ ∀ b : Nat, b < 1000 → hasB l (b : Int) = true) ∨ ∃ a : Nat, a < 1000 ∧ leastF l = a ∧ hasB l (a : Int) = false ∧ ∀ b : Nat, b < a → hasB l (b : Int) = true := by
  rcases h : (List.range 1000).find? (fun a : Nat => !hasB l (a : Int)) with _ | a
  · left
    refine ⟨by unfold leastF; rw [h], fun b hb => ?_⟩
    rw [List.find?_eq_none] at h
    simpa using h b (List.mem_range.2 hb)
  · right
    have h' := h
    rw [List.find?_range_eq_some] at h'
    refine ⟨a, by simpa using h'.2.1, by unfold leastF; rw [h], by simpa using h'.1, fun b hb => by simpa using h'.2.2 b hb⟩

/-- A list that has many different numbers is long. -/
theorem long_of : ∀ (xs l : List Int), xs.Nodup → (∀ a, a ∈ xs → a ∈ l) → xs.length ≤ l.length
  | [], _, _, _ => by simp
  | x :: r, l, hn, hs => by
    have hx : x ∈ l := hs x List.mem_cons_self
    rw [List.nodup_cons] at hn
    have h2 := long_of r (l.erase x) hn.2 (fun a ha => by
      have hne : a ≠ x := fun e => hn.1 (e ▸ ha)
      exact (List.mem_erase_of_ne hne).2 (hs a (List.mem_cons_of_mem _ ha)))
    rw [List.length_erase_of_mem hx] at h2
    have h3 : 0 < l.length := List.length_pos_of_mem hx
    simp only [List.length_cons]
    omega

end Go.Proofs.Ytnamlgacjhnpnaa
end

section
namespace Go.Proofs.Ytnamlgacjhnpnaa
open Go.RowKit
set_option linter.unusedVariables false

/-- Constants, and so many least other atoms behind them. -/
def numL (cs : List Int) : Nat → List Int
  | 0 => cs
  | j + 1 => numL cs j ++ [leastF (numL cs j)]
theorem numL_len (cs : List Int) : ∀ j : Nat, (numL cs j).length = cs.length + j
  | 0 => rfl
  | j + 1 => by rw [numL, List.length_append, numL_len cs j]; simp; omega
/-- What stands at the places that a pattern tells. -/
def exL (V p : List Int) : List Int := p.map fun n => itAt V n.toNat
theorem exL_len (V p : List Int) : (exL V p).length = p.length := by simp [exL]
theorem exL_next {V p : List Int} {i : Nat} (h : i < p.length) : exL V (p.take (i + 1)) = exL V (p.take i) ++ [itAt V (itAt p i).toNat] := by
  rw [itake_next h]
  simp [exL]
end Go.Proofs.Ytnamlgacjhnpnaa
end

section
namespace Go.Proofs.Ytnamlgacjhnpnaa
open Go.RowKit Go.Sort

set_option maxHeartbeats 400000 in
theorem lawHas_any (A : Option Addr) (c : Nat) (l : List Int) (a : Int) (w : World) (hA : IntsAt w A l) (hl : l.length ≤ 1099511627776) :
    Calls Try.prog 13 #[.slice A l.length c, .int .i64 a] w fun e w' => e = .returned (.bool (hasB l a)) ∧ w = w' := by
  go_enter Try.func13, Try.ntmps13
  go_wp2
  go_loop [5] (fun i => ∃ k : Nat, k ≤ l.length ∧ i = .int .i64 k ∧ Hid (∀ j, j < k → itAt l j ≠ a)) (fun i => l.length - (intOf i).toNat)
  case atStart => exact ⟨0, Nat.zero_le _, rfl, fun j hj => absurd hj (by omega)⟩
  case round =>
    obtain ⟨k, hk, rfl, hq⟩ := hrel
    by_cases hlt : k < l.length
    · obtain ⟨b1, o1, rfl, hb1, hc1⟩ := hA (by omega)
      have c1 := hc1 k hlt
      clear hc1 hA
      by_cases he : (itAt l k == a) = true
      · have hres : Hid (hasB l a = true) := by
          show hasB l a = true
          unfold hasB
          rw [List.contains_iff_mem]
          have e : itAt l k = a := by simpa using he
          rw [← e, itAt_get l k hlt]
          exact List.getElem_mem hlt
        generalize itAt l k = x at c1 he
        clear hq
        go_wp2
        go_ret
        exact ⟨bool_end hres.out.symm, rfl⟩
      · have he' : (itAt l k == a) = false := by simpa using he
        have hn : Hid (∀ j, j < k + 1 → itAt l j ≠ a) := by
          intro j hj
          by_cases e : j = k
          · rw [e]; simpa using he'
          · exact hq.out j (by omega)
        generalize itAt l k = x at c1 he he'
        clear hq he
        go_wp2
        go_round
        case rel => exact ⟨k + 1, by omega, by go_num, hn⟩
        case measure => simp [intOf]; omega
    · have hres : Hid (hasB l a = false) := by
        show hasB l a = false
        unfold hasB
        rw [← Bool.not_eq_true, List.contains_iff_mem]
        intro hmem
        obtain ⟨j, hj, e⟩ := List.getElem_of_mem hmem
        exact hq.out j (by omega) (by rw [itAt_get l j hj]; exact e)
      clear hq hA
      go_wp2
      go_ret
      exact ⟨bool_end hres.out.symm, rfl⟩

end Go.Proofs.Ytnamlgacjhnpnaa
end

