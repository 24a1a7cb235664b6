/-
  Rows of forms that a call makes: plain words, and the calls of methods of forms, as closed facts.
-/
import Derived.Test.YtgdaefmmljgjkaaForm
import Derived.Test.YtgdaefmmljgjkaaTermI2
import Derived.Test.YtgdaefmmljgjkaaAtoms
import Derived.Deep.AppendLies
import Derived.Deep.RegionHeld3
namespace Go.Proofs.Ytgdaefmmljgjkaa
open Go.RowKit Go.Sort
set_option linter.unusedVariables false

/-- A row of the call's own that holds forms; what they reach lies in blocks of a kind, and not in the row itself. -/
def FRow (w : World) (B0 B : Nat) (v : Value) (k : Nat) (ts : List Tm) : Prop :=
  ∃ g cap xs, v = .slice (some ⟨g, 0, none⟩) k cap ∧ w.ownsRow B 64 1 v k xs ∧ FsIn w (fun b => Since B0 B b ∧ b ≠ g) xs ts

theorem since_le {B C D b : Nat} (h : Since B C b) (hD : D ≤ C) : Since B D b := h.imp id fun h => Nat.le_trans hD h
/-- One more form behind a row. -/
theorem frow_next {wr w2 w3 w4 : World} {B0 B C g cap g1 cap1 k : Nat} {xs : List Value} {ts : List Tm} {v : Value} {t : Tm}
    (hB : B0 ≤ B) (hC : wr.heap.size ≤ C) (ho : wr.ownsRow B 64 1 (.slice (some ⟨g, 0, none⟩) k cap) k xs)
    (hx : FsIn wr (fun b => Since B0 B b ∧ b ≠ g) xs ts) (h13 : Below wr.heap.size wr w3) (hv : FIn w2 (Since B0 C) v t) (h23 : Below w2.heap.size w2 w3)
    (ho4 : w4.ownsRow B 64 1 (.slice (some ⟨g1, 0, none⟩) (k + 1) cap1) (k + 1) (xs ++ [v]))
    (hg : w3.grownBy w4 (some g)) (hcase : some g = some g1 ∨ g1 = w3.heap.size) :
    FRow w4 B0 B (.slice (some ⟨g1, 0, none⟩) (k + 1) cap1) (k + 1) (ts ++ [t]) := by
  obtain ⟨hg1, hg2⟩ := ho.lt g rfl
  have hsz : w3.heap.size ≤ w4.heap.size := hg.size
  have hbl : ∀ b, b < w3.heap.size → b ≠ g → w4.heap[b]? = w3.heap[b]? := fun b h1 h2 => hg.block b h1 (fun e => by injection e with e; exact h2 e)
  have hne : ∀ b, b < w3.heap.size → b ≠ g → b ≠ g1 := by
    intro b h1 h2 e
    rcases hcase with h | h
    · injection h with h
      omega
    · omega
  have hs13 := h13.size
  have hs23 := h23.size
  refine ⟨g1, cap1, xs ++ [v], rfl, ho4, FsIn.snoc ?_ ?_⟩
  · refine hx.over ⟨by omega, fun b hq hl => ?_, fun b hq hl => ?_⟩
    · exact (hbl b (by omega) hq.2).trans (h13.block b hl)
    · exact ⟨hq.1, hne b (by omega) hq.2⟩
  · have hk : ∀ b, Since B0 C b → b ≠ g := by
      intro b hs e
      subst e
      rcases hs with h | h <;> omega
    refine hv.over ⟨by omega, fun b hq hl => ?_, fun b hq hl => ?_⟩
    · exact (hbl b (by omega) (hk b hq)).trans (h23.block b hl)
    · refine ⟨?_, hne b (by omega) (hk b hq)⟩
      rcases hq with h | h
      · exact .inl h
      · exact .inr (by omega)

theorem form_info : (Try.prog.info? 64).map (fun i => (i.zero, i.size, i.bytes)) = some (some .nilIface, 1, 16) := by kernel_rfl

theorem form_one {w : World} {q : Nat → Prop} {v : Value} {t : Tm} (h : FIn w q v t) : ∀ u ∈ [v], u.oneCell' = true := by
  intro u hu
  simp only [List.mem_singleton] at hu
  subst hu
  exact h.one

theorem good1 {t : Tm} (h : goodT t = true) (ho : t.op = 1) : t = .mk 1 t.num [] [] := by
  rw [goodT_eq, Bool.and_eq_true, shapeB, if_pos ho] at h
  simp only [Bool.and_eq_true, decide_eq_true_eq] at h
  cases t with
  | mk o n p ks =>
    obtain ⟨⟨_, h1, h2⟩, _⟩ := h
    simp only [op_mk, num_mk, perm_mk, kids_mk] at *
    rw [ho, List.length_eq_zero_iff.1 h1, List.length_eq_zero_iff.1 h2]
theorem good2 {t : Tm} (h : goodT t = true) (ho : t.op = 2) : t = .mk 2 t.num [] t.kids ∧ t.kids.length ≤ 3 := by
  rw [goodT_eq, Bool.and_eq_true, shapeB, if_neg (by omega), if_pos ho] at h
  simp only [Bool.and_eq_true, decide_eq_true_eq] at h
  cases t with
  | mk o n p ks =>
    obtain ⟨⟨_, h1, h2⟩, _⟩ := h
    simp only [op_mk, num_mk, perm_mk, kids_mk] at *
    rw [ho, List.length_eq_zero_iff.1 h1]
    exact ⟨rfl, by omega⟩
theorem good3 {t : Tm} (h : goodT t = true) (ho : t.op = 3) : t = .mk 3 t.num [] [tmAt t.kids 0] ∧ t.kids.length = 1 := by
  rw [goodT_eq, Bool.and_eq_true, shapeB, if_neg (by omega), if_neg (by omega), if_pos ho] at h
  simp only [Bool.and_eq_true, decide_eq_true_eq] at h
  cases t with
  | mk o n p ks =>
    obtain ⟨⟨_, h1, h2⟩, _⟩ := h
    simp only [op_mk, num_mk, perm_mk, kids_mk] at *
    obtain ⟨k, rfl⟩ := List.length_eq_one_iff.1 h2
    rw [ho, List.length_eq_zero_iff.1 h1]
    exact ⟨rfl, rfl⟩
theorem good4 {t : Tm} (h : goodT t = true) (h1 : ¬ t.op = 1) (h2 : ¬ t.op = 2) (h3 : ¬ t.op = 3) : t = .mk 4 t.num t.perm [] ∧ t.perm.length ≤ 40 := by
  rw [goodT_eq, Bool.and_eq_true, shapeB, if_neg h1, if_neg h2, if_neg h3] at h
  by_cases ho : t.op = 4
  · rw [if_pos ho] at h
    simp only [Bool.and_eq_true, decide_eq_true_eq] at h
    cases t with
    | mk o n p ks =>
      obtain ⟨⟨_, h4, h5⟩, _⟩ := h
      simp only [op_mk, num_mk, perm_mk, kids_mk] at *
      rw [ho, List.length_eq_zero_iff.1 h5]
      exact ⟨rfl, (permB_parts h4).1⟩
  · rw [if_neg ho] at h
    simp at h
end Go.Proofs.Ytgdaefmmljgjkaa
