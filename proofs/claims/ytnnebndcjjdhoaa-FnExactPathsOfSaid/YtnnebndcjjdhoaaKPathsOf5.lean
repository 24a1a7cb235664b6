/-
  An argument that is a slice of pairs, opened: it reads as a list of pairs.
-/
import Derived.Test.YtnnebndcjjdhoaaKPathsOf1
import Derived.Deep.SlicePairs
import Derived.ProofKit
import Derived.OpenShut
import Derived.ChangeOld
namespace Go.Proofs.Ytnnebndcjjdhoaa
open Go.RowKit Go.Deep Go.ChangeShapes Go.WideShapes

theorem laidOut : laidOutB Try.prog = true := by kernel_rfl
theorem own : ownKnob Try.prog.godebug = none := by kernel_rfl
theorem lpCells : Try.prog.cellsOf 58 = 2 := by kernel_rfl
theorem intCells : Try.prog.cellsOf 3 = 1 := by kernel_rfl

theorem spot_none {w : World} {a : Addr} {v : Value} (h : w.cell? a = some v) : a = ⟨a.block, a.off, none⟩ := by
  obtain ⟨b, o, s⟩ := a
  cases s with
  | none => rfl
  | some x => simp [World.cell?] at h; split at h <;> simp at h

theorem open_pairs {H : Type} {enc : TypeId × Value → H} {W : World} {A : Option Addr} {n c : Nat} {d : DataW H} {p : List MemPlace}
    (h : DataW.Trod enc Try.prog W 0 (fun _ => true) true 22 (.slice A n c) d p) :
    ∃ l : List (Int × Int), l.length = n ∧ PairsAt W A l ∧ n ≤ maxLen := by
  obtain ⟨fuel, hf⟩ := h
  rcases open_slice_pairs Try.underlying22 Try.underlying58 lpCells rfl rfl intCells intCells hf with ⟨hcs, _⟩ | ⟨a, len, cap, m, k, V0, V1, D0, D1, P0, P1, hcs, _, hl, hm, hmm, _, hx⟩
  · simp [Value.cells] at hcs
    obtain ⟨rfl, rfl, rfl⟩ := hcs
    exact ⟨[], rfl, fun hp => absurd hp (by simp), by decide⟩
  · simp [Value.cells] at hcs
    obtain ⟨rfl, rfl, rfl⟩ := hcs
    have hle : n ≤ m := by rw [hmm]; simpa using hl
    have hint : ∀ i, i < n → ∃ q : Int × Int, V0 i = .int .i64 q.1 ∧ V1 i = .int .i64 q.2 := by
      intro i hi
      obtain ⟨_, _, h0, h1⟩ := hx i (by omega)
      obtain ⟨z0, e0, _⟩ := DataW.trod_int Try.underlying3 h0
      obtain ⟨z1, e1, _⟩ := DataW.trod_int Try.underlying3 h1
      exact ⟨(z0, z1), by simpa using e0, by simpa using e1⟩
    obtain ⟨q, hq⟩ := choose_lt hint
    refine ⟨(List.range n).map q, by simp, fun hp => ?_, by omega⟩
    have hn : 0 < n := by simpa using hp
    obtain ⟨c0, _, _, _⟩ := hx 0 (by omega)
    have ha : a = ⟨a.block, a.off, none⟩ := spot_none (by simpa [Addr.add] using c0)
    have hblt : a.block < W.heap.size := block_lt_of_cell (a := a) (by simpa [Addr.add] using c0)
    refine ⟨a.block, a.off, by rw [← ha], hblt, fun i hi => ?_⟩
    have hi' : i < n := by simpa using hi
    obtain ⟨c0, c1, _, _⟩ := hx i (by omega)
    have e : prAt ((List.range n).map q) i = q i := by simp [prAt, hi']
    have hadd : ∀ j, a.add j = ⟨a.block, a.off + j, none⟩ := fun j => by
      unfold Addr.add
      split
      · rename_i h0; rw [h0]; exact ha
      · rfl
    rw [hadd] at c0 c1
    rw [e, ← (hq i hi').1, ← (hq i hi').2]
    exact ⟨c0, by rw [Nat.add_assoc]; exact c1⟩

end Go.Proofs.Ytnnebndcjjdhoaa
