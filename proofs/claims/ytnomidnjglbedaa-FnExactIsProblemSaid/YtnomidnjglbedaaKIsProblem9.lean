/-
  Whether a list has a number: in the model, as a contract. The moved atoms of a list of pairs: in the program, as a contract. A number is put into an ascending list, and the atoms of two lists of pairs together: in the model, as contracts. The atoms that two lists of pairs move: in the model, as a contract. What the pairs give to an atom, in the program and in the model, as contracts. Plain mathematics of permutations that are written as lists of pairs.
-/
import Derived.Test.YtnomidnjglbedaaKIsProblem4
import Derived.Test.YtnomidnjglbedaaKIsProblem1
import Derived.Test.YtnomidnjglbedaaKIsProblem5
section
namespace Go.Proofs.Ytnomidnjglbedaa
open Go.RowKit Go.Sort

end Go.Proofs.Ytnomidnjglbedaa
end

section
namespace Go.Proofs.Ytnomidnjglbedaa
open Go.RowKit Go.Sort

end Go.Proofs.Ytnomidnjglbedaa
end

section
namespace Go.Proofs.Ytnomidnjglbedaa
open Go.RowKit Go.Sort

/-- A number is put into an ascending list, if it is not there. -/
def insL : List Int → Int → List Int
  | [], n => [n]
  | x :: r, n => if n < x then n :: x :: r else if n = x then x :: r else x :: insL r n

def AscP (l : List Int) : Prop := l.Pairwise (· < ·)

theorem mem_insL : ∀ (l : List Int) (n a : Int), a ∈ insL l n ↔ a = n ∨ a ∈ l
  | [], n, a => by simp [insL]
  | x :: r, n, a => by
    unfold insL
    split
    · simp
    · split
      · rename_i h; subst h; simp
      · simp only [List.mem_cons, mem_insL r n a]
        constructor
        · rintro (h | h | h)
          · exact .inr (.inl h)
          · exact .inl h
          · exact .inr (.inr h)
        · rintro (h | h | h)
          · exact .inr (.inl h)
          · exact .inl h
          · exact .inr (.inr h)

theorem asc_insL : ∀ (l : List Int) (n : Int), AscP l → AscP (insL l n)
  | [], n, _ => by simp [insL, AscP]
  | x :: r, n, h => by
    unfold AscP at h
    rw [List.pairwise_cons] at h
    unfold insL
    split
    · rename_i h1
      unfold AscP
      rw [List.pairwise_cons, List.pairwise_cons]
      refine ⟨fun a ha => ?_, h.1, h.2⟩
      rcases List.mem_cons.1 ha with e | e
      · rw [e]; exact h1
      · have := h.1 a e; omega
    · split
      · unfold AscP; rw [List.pairwise_cons]; exact h
      · rename_i h1 h2
        unfold AscP
        rw [List.pairwise_cons]
        refine ⟨fun a ha => ?_, asc_insL r n h.2⟩
        rcases (mem_insL r n a).1 ha with e | e
        · rw [e]; omega
        · exact h.1 a e

/-- Several numbers are put into an ascending list. -/
def insAll (acc xs : List Int) : List Int := xs.foldl insL acc

theorem asc_insAll (acc xs : List Int) (h : AscP acc) : AscP (insAll acc xs) := by
  unfold insAll
  induction xs generalizing acc with
  | nil => exact h
  | cons x r ih => exact ih _ (asc_insL acc x h)

theorem ascP_froms {l : List (Int × Int)} (h : Asc l) : AscP (froms l) := by
  unfold AscP
  rw [List.pairwise_iff_getElem]
  intro i j hi hj hij
  have hj' : j < l.length := by simpa [froms] using hj
  have h1 := froms_at l i (by omega)
  have h2 := froms_at l j hj'
  rw [List.getElem?_eq_getElem hi] at h1
  rw [List.getElem?_eq_getElem hj] at h2
  simp only [Option.some.injEq] at h1 h2
  rw [h1, h2]
  exact h i j hij hj'

theorem IntsAt.take {w : World} {A : Option Addr} {l : List Int} (h : IntsAt w A l) (k : Nat) : IntsAt w A (l.take k) := by
  intro hp
  rw [List.length_take] at hp
  obtain ⟨b, off, rfl, hlt, hc⟩ := h (by omega)
  refine ⟨b, off, rfl, hlt, fun i hi => ?_⟩
  rw [List.length_take] at hi
  rw [hc i (by omega)]
  have : i < k := by omega
  simp [itAt, this]

theorem IntsAt.drop {w : World} {b off : Nat} {l : List Int} (h : IntsAt w (some ⟨b, off, none⟩) l) (k : Nat) : IntsAt w (some ⟨b, off + k, none⟩) (l.drop k) := by
  intro hp
  rw [List.length_drop] at hp
  obtain ⟨b', off', e, hlt, hc⟩ := h (by omega)
  simp only [Option.some.injEq, Addr.mk.injEq, and_true] at e
  obtain ⟨rfl, rfl⟩ := e
  refine ⟨b, off + k, rfl, hlt, fun i hi => ?_⟩
  rw [List.length_drop] at hi
  rw [Nat.add_assoc, hc (k + i) (by omega)]
  simp [itAt]

end Go.Proofs.Ytnomidnjglbedaa
end

section
namespace Go.Proofs.Ytnomidnjglbedaa
open Go.RowKit Go.Sort

theorem length_insL : ∀ (l : List Int) (n : Int), (insL l n).length ≤ l.length + 1
  | [], n => by simp [insL]
  | x :: r, n => by
    unfold insL
    split
    · simp
    · split
      · simp
      · have := length_insL r n
        simp only [List.length_cons]
        omega

theorem length_insAll (acc xs : List Int) : (insAll acc xs).length ≤ acc.length + xs.length := by
  unfold insAll
  induction xs generalizing acc with
  | nil => simp
  | cons x r ih =>
    have h1 := ih (insL acc x)
    have h2 := length_insL acc x
    simp only [List.foldl_cons, List.length_cons]
    omega

/-- The atoms of both. -/
def atomsL (p q : List (Int × Int)) : List Int := insAll (insAll [] (froms p)) (froms q)

theorem froms_len (l : List (Int × Int)) : (froms l).length = l.length := by simp [froms]
theorem itAt_froms (l : List (Int × Int)) (k : Nat) (h : k < l.length) : itAt (froms l) k = (prAt l k).1 := by simp [itAt, froms, prAt, h]

end Go.Proofs.Ytnomidnjglbedaa
end

section
namespace Go.Proofs.Ytnomidnjglbedaa
open Go.RowKit Go.Sort

/-- What the first pair with the atom gives to it; the atom, if there is none. -/
def imgL : List (Int × Int) → Int → Int
  | [], a => a
  | p :: r, a => if p.1 = a then p.2 else imgL r a

end Go.Proofs.Ytnomidnjglbedaa
end

section
namespace Go.Proofs.Ytnomidnjglbedaa
open Go.RowKit

theorem mem_prAt {l : List (Int × Int)} {x : Int × Int} (h : x ∈ l) : ∃ i, i < l.length ∧ prAt l i = x := by
  obtain ⟨i, hi, e⟩ := List.getElem_of_mem h
  exact ⟨i, hi, by simp [prAt, hi, e]⟩

theorem imgL_out : ∀ {l : List (Int × Int)} {a : Int}, a ∉ froms l → imgL l a = a
  | [], _, _ => rfl
  | p :: r, a, h => by
    unfold froms at h
    rw [List.map_cons, List.mem_cons, not_or] at h
    have hne : ¬ p.1 = a := fun e => h.1 e.symm
    simp only [imgL, hne, if_false]
    exact imgL_out (l := r) h.2

theorem imgL_in : ∀ {l : List (Int × Int)} {a : Int}, a ∈ froms l → (a, imgL l a) ∈ l
  | [], _, h => by simp [froms] at h
  | p :: r, a, h => by
    by_cases e : p.1 = a
    · subst e; simp [imgL]
    · unfold froms at h
      rw [List.map_cons, List.mem_cons] at h
      have h' : a ∈ froms r := by
        rcases h with h | h
        · exact absurd h.symm e
        · exact h
      simp only [imgL, e, if_false]
      exact List.mem_cons_of_mem _ (imgL_in h')

/-- Nothing is given to itself. -/
def Moves (l : List (Int × Int)) : Prop := ∀ x ∈ l, x.1 ≠ x.2

/-- What a permutation is, without the bound on how many it moves. -/
structure IsP (l : List (Int × Int)) : Prop where
  asc : AscP (froms l)
  mv : Moves l
  dom : ∀ a ∈ froms l, 0 ≤ a ∧ a ≤ 999
  back : (froms l).Perm (tos l)

theorem isP_of {l : List (Int × Int)} (h : permB l = true) : IsP l := by
  obtain ⟨_, h2, _⟩ := permB_parts h
  refine ⟨ascP_froms (asc_of_order h2), fun x hx => ?_, fun a ha => ?_, perm_tos h⟩
  · obtain ⟨i, hi, rfl⟩ := mem_prAt hx
    exact (okAt_parts (order_at h2 i hi)).2.2.1
  · obtain ⟨i, hi, rfl⟩ := mem_froms.1 ha
    exact (okAt_parts (order_at h2 i hi)).1

theorem asc_list {l : List (Int × Int)} (h : AscP (froms l)) : Asc l := by
  intro i j hij hj
  have h1 := List.pairwise_iff_getElem.1 h i j (by rw [froms_len]; omega) (by rw [froms_len]; omega) hij
  have e1 : (froms l)[i]'(by rw [froms_len]; omega) = (prAt l i).1 := by
    rw [← itAt_froms l i (by omega), itAt_get]
  have e2 : (froms l)[j]'(by rw [froms_len]; omega) = (prAt l j).1 := by
    rw [← itAt_froms l j (by omega), itAt_get]
  rw [e1, e2] at h1
  exact h1

theorem IsP.to_mem {l : List (Int × Int)} (h : IsP l) {a : Int} (ha : a ∈ froms l) : imgL l a ∈ froms l := by
  have h1 : imgL l a ∈ tos l := List.mem_map_of_mem (f := Prod.snd) (imgL_in ha)
  exact h.back.mem_iff.2 h1

theorem IsP.atom {l : List (Int × Int)} (h : IsP l) {a : Int} (ha : 0 ≤ a ∧ a ≤ 999) : 0 ≤ imgL l a ∧ imgL l a ≤ 999 := by
  rcases Decidable.em (a ∈ froms l) with h' | h'
  · exact h.dom _ (h.to_mem h')
  · rw [imgL_out h']; exact ha

/-- First q, then p. -/
def thenB (p q : List (Int × Int)) (a : Int) : Bool := imgL p (imgL q a) != a
def thenG (p q : List (Int × Int)) (a : Int) : Int × Int := (a, imgL p (imgL q a))
def thenL (p q : List (Int × Int)) : List (Int × Int) := ((atomsL p q).filter (thenB p q)).map (thenG p q)

theorem asc_atomsL (p q : List (Int × Int)) : AscP (atomsL p q) := asc_insAll _ _ (asc_insAll _ _ List.Pairwise.nil)

theorem len_atomsL (p q : List (Int × Int)) : (atomsL p q).length ≤ p.length + q.length := by
  have h1 := length_insAll (insAll [] (froms p)) (froms q)
  have h2 := length_insAll [] (froms p)
  rw [froms_len] at h1 h2
  simp only [List.length_nil] at h2
  unfold atomsL
  omega

theorem thenL_len (p q : List (Int × Int)) : (thenL p q).length ≤ p.length + q.length := by
  unfold thenL
  rw [List.length_map]
  exact Nat.le_trans (List.length_filter_le _ _) (len_atomsL p q)

theorem froms_thenL (p q : List (Int × Int)) : froms (thenL p q) = (atomsL p q).filter (thenB p q) := by
  unfold froms thenL
  rw [List.map_map]
  exact List.map_id'' (fun _ => rfl) _

theorem asc_thenL (p q : List (Int × Int)) : AscP (froms (thenL p q)) := by
  rw [froms_thenL]
  exact (asc_atomsL p q).filter _

end Go.Proofs.Ytnomidnjglbedaa
end

