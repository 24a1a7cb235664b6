/-
  What a key of a set of elements is: the key's reading, turned round.
-/
import Derived.Test.YtddmoempagcjeaaNeed
import Derived.ChangeKeysEq
namespace Go.Proofs.Ytddmoempagcjeaa
open Go.RowKit Go.Sort Go.ChangeShapes Go.WideShapes Go.WideMaps Go.Maps
set_option linter.unusedVariables false

theorem intC1 : Try.prog.cellsOf 3 = 1 := by kernel_rfl

set_option maxRecDepth 100000 in
theorem keyF_inv (w : World) {key : Value} {kl : Lit} (h : keyOf Try.prog 118 key = some kl) : ∃ x, okF x ∧ key = frV x ∧ kl = keyF x := by
  have h0 := h
  unfold keyOf at h
  rw [Try.underlying118] at h
  simp only at h
  split at h
  case isFalse => cases h
  rename_i hc
  rw [Bool.and_eq_true] at hc
  obtain ⟨_, hf⟩ := hc
  cases key with
  | agg cs =>
    simp [Value.formed, Try.underlying118, frCells2] at hf
    obtain ⟨ls, hls, _⟩ := Option.map_eq_some_iff.1 h
    obtain ⟨l⟩ := cs
    simp at hf
    match l, hf with
    | [c0, c1], _ =>
      unfold Program.keyLits at hls
      rw [Try.underlying118] at hls
      clear h
      generalize Try.prog.types.size = d at hls
      simp [Value.cells, frCells2, intC1, List.mapM_cons, List.mapM_nil] at hls
      cases ha : Try.prog.keyLits d 3 [c0] with
      | none => simp [ha] at hls
      | some a =>
        cases hb : Try.prog.keyLits d 3 [c1] with
        | none => simp [ha, hb] at hls
        | some b =>
          obtain ⟨n0, e0, ea⟩ := keyLits_int' Try.underlying3 ha
          obtain ⟨n1, e1, eb⟩ := keyLits_int' Try.underlying3 hb
          have w0 := keyLits_wf ha (.int .i64 n0) (by rw [ea]; simp)
          have w1 := keyLits_wf hb (.int .i64 n1) (by rw [eb]; simp)
          injection e0 with e0
          injection e1 with e1
          subst e0 e1
          have hk : okF (n0, n1) := ⟨w0, w1⟩
          refine ⟨(n0, n1), hk, rfl, ?_⟩
          have h2 := keyF_of w hk
          rw [show Value.agg { toList := [.int .i64 n0, .int .i64 n1] } = frV (n0, n1) from rfl, h2] at h0
          injection h0 with h0
          exact h0.symm
  | _ => simp [Value.formed, Try.underlying118] at hf

end Go.Proofs.Ytddmoempagcjeaa
