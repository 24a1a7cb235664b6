/-
  An argument that is a slice of pairs, opened: it reads as a list of pairs.
-/
import Derived.Test.YtdbogjhkcnajkaaKSameSet3
import Derived.Deep.SlicePairs
import Derived.ProofKit
import Derived.OpenShut
import Derived.ChangeOld
namespace Go.Proofs.Ytdbogjhkcnajkaa
open Go.RowKit Go.Deep Go.ChangeShapes Go.WideShapes

theorem laidOut : laidOutB Try.prog = true := by kernel_rfl
theorem own : ownKnob Try.prog.godebug = none := by kernel_rfl
theorem intCells : Try.prog.cellsOf 3 = 1 := by kernel_rfl

theorem spot_none {w : World} {a : Addr} {v : Value} (h : w.cell? a = some v) : a = ⟨a.block, a.off, none⟩ := by
  obtain ⟨b, o, s⟩ := a
  cases s with
  | none => rfl
  | some x => simp [World.cell?] at h; split at h <;> simp at h

theorem open_intsL {H : Type} {enc : TypeId × Value → H} {W : World} {A : Option Addr} {n c : Nat} {d : DataW H} {p : List MemPlace}
    (h : DataW.Trod enc Try.prog W 0 (fun _ => true) true 27 (.slice A n c) d p) :
    ∃ l : List Int, l.length = n ∧ IntsAt W A l ∧ n ≤ maxLen := by
  obtain ⟨fuel, hf⟩ := h
  rcases open_ints Try.underlying27 Try.underlying3 intCells hf with ⟨hcs, _⟩ | ⟨x, len, cap, zs, hcs, _, hl, hm, hz, _, hcell, _⟩
  · simp [Value.cells] at hcs
    obtain ⟨rfl, rfl, rfl⟩ := hcs
    exact ⟨[], rfl, fun hp => absurd hp (by simp), by decide⟩
  · simp [Value.cells] at hcs
    obtain ⟨rfl, rfl, rfl⟩ := hcs
    have hle : n ≤ zs.length := by
      have hz' : zs.length = c := by simpa using hz
      omega
    refine ⟨zs.take n, by rw [List.length_take]; omega, fun hp => ?_, by omega⟩
    have hn : 0 < n := by rw [List.length_take] at hp; omega
    have c0 := hcell 0 (by omega)
    have ha : x = ⟨x.block, x.off, none⟩ := spot_none (by simpa [Addr.add] using c0)
    refine ⟨x.block, x.off, by rw [← ha], block_lt_of_cell (a := x) (by simpa [Addr.add] using c0), fun i hi => ?_⟩
    have hi' : i < n := by rw [List.length_take] at hi; omega
    have c1 := hcell i (by omega)
    have hadd : ∀ j, x.add j = ⟨x.block, x.off + j, none⟩ := fun j => by
      unfold Addr.add
      split
      · rename_i h0; rw [h0]; exact ha
      · rfl
    rw [hadd] at c1
    rw [c1]
    simp [itAt, hi']

end Go.Proofs.Ytdbogjhkcnajkaa
