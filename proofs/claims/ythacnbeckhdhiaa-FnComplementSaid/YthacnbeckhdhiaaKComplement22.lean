/-
  An argument that is a slice of bytes, opened.
-/
import Derived.Test.YthacnbeckhdhiaaKComplement2
import Derived.ProofKit
import Derived.OpenShut
import Derived.ChangeOld
namespace Go.Proofs.Ythacnbeckhdhiaa
open Go.RowKit Go.ChangeShapes Go.WideShapes

theorem laidOut : laidOutB Try.prog = true := by kernel_rfl
theorem own : ownKnob Try.prog.godebug = none := by kernel_rfl

theorem spotB_none {w : World} {a : Addr} {v : Value} (h : w.cell? a = some v) : a = ⟨a.block, a.off, none⟩ := by
  obtain ⟨b, o, s⟩ := a
  cases s with
  | none => rfl
  | some x => simp [World.cell?] at h; split at h <;> simp at h

theorem open_bytesL {H : Type} {enc : TypeId × Value → H} {W : World} {A : Option Addr} {n c : Nat} {d : DataW H} {p : List MemPlace}
    (h : DataW.Trod enc Try.prog W 0 (fun _ => true) true 22 (.slice A n c) d p) : BytesIn W A n ∧ n ≤ maxLen := by
  obtain ⟨fuel, hf⟩ := h
  rcases open_ints Try.underlying22 Try.underlying5 (by kernel_rfl) hf with ⟨hcs, _⟩ | ⟨x, len, cap, zs, hcs, _, hl, hm, hz, _, hcell, hwz⟩
  · simp [Value.cells] at hcs
    obtain ⟨rfl, rfl, rfl⟩ := hcs
    exact ⟨fun j hj => absurd hj (by omega), by decide⟩
  · simp [Value.cells] at hcs
    obtain ⟨rfl, rfl, rfl⟩ := hcs
    have hz' : zs.length = c := by simpa using hz
    refine ⟨fun j hj => ?_, by omega⟩
    have c0 := hcell 0 (by omega)
    have ha : x = ⟨x.block, x.off, none⟩ := spotB_none (by simpa [Addr.add] using c0)
    have c1 := hcell j (by omega)
    have hadd : x.add j = ⟨x.block, x.off + j, none⟩ := by
      unfold Addr.add
      split
      · rename_i h0; rw [h0]; exact ha
      · rfl
    rw [hadd] at c1
    have hw := hwz (zs.getD j 0) (by
      rw [List.getD_eq_getElem?_getD, List.getElem?_eq_getElem (show j < zs.length by omega)]
      exact List.getElem_mem _)
    have hbd := bounds_u8 hw
    refine ⟨x.block, x.off, (zs.getD j 0).toNat, by rw [← ha], block_lt_of_cell (a := x) (by simpa [Addr.add] using c0), by omega, ?_⟩
    rw [c1]
    congr 2
    omega

end Go.Proofs.Ythacnbeckhdhiaa
