/-
  When a machine is valid, its moves, and what it does with a word; plain words, no program is walked here.
-/
import Derived.Test.YtkhjdidcpoefdaaKComplementMachine9
namespace Go.Proofs.Ytkhjdidcpoefdaa
open Go.RowKit
set_option linter.unusedVariables false

def mvB (st rg : Int) (m : Int × Int) : Bool := decide (0 ≤ m.1 ∧ m.1 < st) && decide (-1 ≤ m.2 ∧ m.2 < rg)
def headB (t : Mach) : Bool := decide (1 ≤ t.st ∧ t.st ≤ 9) && decide (0 ≤ t.rg ∧ t.rg ≤ 3)
/-- The number of sets of so many registers. -/
def casZ (rg : Int) : Int := ((2 ^ rg.toNat : Nat) : Int)
def lenB (t : Mach) : Bool := decide ((t.ac.length : Int) = t.st) && decide ((t.mv.length : Int) = t.st * casZ t.rg)
def movB (t : Mach) : Bool := t.mv.all (mvB t.st t.rg)
/-- Whether a machine is valid. -/
def machB (t : Mach) : Bool := headB t && (lenB t && movB t)

theorem casZ_of {rg : Int} (h0 : 0 ≤ rg) (h3 : rg ≤ 3) : (rg = 0 ∧ casZ rg = 1) ∨ (rg = 1 ∧ casZ rg = 2) ∨ (rg = 2 ∧ casZ rg = 4) ∨ (rg = 3 ∧ casZ rg = 8) := by
  have h : rg = 0 ∨ rg = 1 ∨ rg = 2 ∨ rg = 3 := by omega
  rcases h with rfl | rfl | rfl | rfl
  · exact .inl ⟨rfl, rfl⟩
  · exact .inr (.inl ⟨rfl, rfl⟩)
  · exact .inr (.inr (.inl ⟨rfl, rfl⟩))
  · exact .inr (.inr (.inr ⟨rfl, rfl⟩))
theorem headB_yes {t : Mach} (h : headB t = true) : (1 ≤ t.st ∧ t.st ≤ 9) ∧ 0 ≤ t.rg ∧ t.rg ≤ 3 := by
  unfold headB at h
  rw [Bool.and_eq_true, decide_eq_true_eq, decide_eq_true_eq] at h
  exact h
theorem headB_no {t : Mach} (h : ¬ ((1 ≤ t.st ∧ t.st ≤ 9) ∧ 0 ≤ t.rg ∧ t.rg ≤ 3)) : machB t = false := by
  unfold machB headB
  rcases Classical.em (1 ≤ t.st ∧ t.st ≤ 9) with h1 | h1
  · have h2 : ¬ (0 ≤ t.rg ∧ t.rg ≤ 3) := fun h2 => h ⟨h1, h2⟩
    simp [h1, h2]
  · simp [h1]
theorem lenB_no {t : Mach} (h : ¬ ((t.ac.length : Int) = t.st ∧ (t.mv.length : Int) = t.st * casZ t.rg)) : machB t = false := by
  unfold machB lenB
  rcases Classical.em ((t.ac.length : Int) = t.st) with h1 | h1
  · have h2 : ¬ ((t.mv.length : Int) = t.st * casZ t.rg) := fun h2 => h ⟨h1, h2⟩
    simp [h2]
  · simp [h1]
theorem movB_no {t : Mach} {i : Nat} (hi : i < t.mv.length) (h : mvB t.st t.rg (prAt t.mv i) = false) : machB t = false := by
  have : movB t = false := by
    unfold movB
    rw [List.all_eq_false]
    exact ⟨prAt t.mv i, by simp [prAt, hi], by simp [h]⟩
  unfold machB
  simp [this]
theorem movB_yes {t : Mach} (h : ∀ j, j < t.mv.length → mvB t.st t.rg (prAt t.mv j) = true) : movB t = true := by
  unfold movB
  rw [List.all_eq_true]
  intro x hx
  obtain ⟨i, hi, rfl⟩ := List.getElem_of_mem hx
  have := h i hi
  rwa [show prAt t.mv i = t.mv[i] by simp [prAt, hi]] at this
theorem machB_mov {t : Mach} (h1 : (1 ≤ t.st ∧ t.st ≤ 9) ∧ 0 ≤ t.rg ∧ t.rg ≤ 3) (h2 : (t.ac.length : Int) = t.st ∧ (t.mv.length : Int) = t.st * casZ t.rg) : machB t = movB t := by
  unfold machB headB lenB
  simp [h1, h2]
/-- What a valid machine is. -/
structure Good (t : Mach) : Prop where
  s1 : 1 ≤ t.st
  s9 : t.st ≤ 9
  r0 : 0 ≤ t.rg
  r3 : t.rg ≤ 3
  al : (t.ac.length : Int) = t.st
  ml : (t.mv.length : Int) = t.st * casZ t.rg
  mv : ∀ j, j < t.mv.length → (0 ≤ (prAt t.mv j).1 ∧ (prAt t.mv j).1 < t.st) ∧ -1 ≤ (prAt t.mv j).2 ∧ (prAt t.mv j).2 < t.rg
theorem good_of {t : Mach} (h : machB t = true) : Good t := by
  unfold machB at h
  rw [Bool.and_eq_true, Bool.and_eq_true] at h
  obtain ⟨h1, h2, h3⟩ := h
  obtain ⟨⟨a, b⟩, c, d⟩ := headB_yes h1
  unfold lenB at h2
  rw [Bool.and_eq_true, decide_eq_true_eq, decide_eq_true_eq] at h2
  refine ⟨a, b, c, d, h2.1, h2.2, fun j hj => ?_⟩
  unfold movB at h3
  rw [List.all_eq_true] at h3
  have := h3 (prAt t.mv j) (by simp [prAt, hj])
  unfold mvB at this
  rw [Bool.and_eq_true, decide_eq_true_eq, decide_eq_true_eq] at this
  exact this
end Go.Proofs.Ytkhjdidcpoefdaa
