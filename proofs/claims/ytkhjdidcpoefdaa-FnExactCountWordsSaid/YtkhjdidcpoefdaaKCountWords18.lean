/-
  An argument that is a machine, opened.
-/
import Derived.Test.YtkhjdidcpoefdaaKCountWords6
import Derived.Test.YtkhjdidcpoefdaaKCountWords17
import Derived.Lib.SmallJoins
namespace Go.Proofs.Ytkhjdidcpoefdaa
open Go.RowKit Go.Deep Go.ChangeShapes Go.WideShapes
variable {H : Type} {enc : TypeId × Value → H} {W : World}

theorem machCells : Try.prog.cellsOf 25 = 4 := by kernel_rfl
theorem boolCells : Try.prog.cellsOf 4 = 1 := by kernel_rfl

set_option maxRecDepth 100000 in
theorem open_bools {fuel : Nat} {v : Value} {x : DataW H × List MemPlace} (h : DataW.trod enc Try.prog W 0 (fun _ => true) true fuel 22 [v] = some x) :
    ∃ A l c, v = .slice A (l : List Bool).length c ∧ BoolsAt W A l ∧ l.length ≤ maxLen := by
  rcases DataW.trod_slice Try.underlying22 h with ⟨e, _⟩ | ⟨a, len, cap, elems, rest, n, hfu, e, _, hb, hl, hm, hlen, hel, _, _⟩
  · simp at e
    subst e
    exact ⟨none, [], 0, rfl, fun hp => by simp at hp, by simp [maxLen]⟩
  · simp at e
    subst e
    have each : ∀ i, i < len → ∃ q : Bool, W.cell? (a.add i) = some (.bool q) := by
      intro i hi
      have h1 := hel i hi
      rw [List.getElem?_eq_getElem (by omega), boolCells, Option.bind_eq_some_iff] at h1
      obtain ⟨cs', h2, h3⟩ := h1
      obtain ⟨_, hcl, hcell⟩ := World.cells?_some h2
      match cs', hcl with
      | [v0], _ =>
        obtain ⟨z0, e0, _⟩ := DataW.trod_bool Try.underlying4 h3
        simp at e0
        subst e0
        have c0 := hcell 0 (by omega)
        exact ⟨z0, by simpa [add_add, Addr.add] using c0⟩
    obtain ⟨q, hq⟩ := choose_lt each
    refine ⟨some a, (List.range len).map q, cap, by simp, fun hp => ?_, by simp; omega⟩
    have hn : 0 < len := by simpa using hp
    have c0 := hq 0 hn
    have ha : a = ⟨a.block, a.off, none⟩ := spot_none (by simpa [Addr.add] using c0)
    have hblt : a.block < W.heap.size := block_lt_of_cell (a := a) (by simpa [Addr.add] using c0)
    have hadd : ∀ j, a.add j = ⟨a.block, a.off + j, none⟩ := fun j => by
      unfold Addr.add
      split
      · rename_i h0; rw [h0]; exact ha
      · rfl
    refine ⟨a.block, a.off, by rw [← ha], hblt, fun i hi => ?_⟩
    have hi' : i < len := by simpa using hi
    have c1 := hq i hi'
    rw [hadd] at c1
    rw [c1]
    simp [btAt, hi']

set_option maxRecDepth 100000 in
/-- A struct argument that is a machine. -/
theorem open_machine {r : Reach} {b0 : Nat} {v : Value} {d : DataW H} {p : List MemPlace} (hv : Value.okWide Try.prog W r b0 25 v) (h : DataW.Trod enc Try.prog W 0 (fun _ => true) true 25 v d p) :
    ∃ t : Mach, MachIn W v t ∧ ShortM t := by
  obtain ⟨v0, v1, v2, v3, y0, y1, y2, y3, n, rfl, _, _, g0, g1, g2, g3⟩ := Go.Joins.open_agg4 Try.underlying25 (by kernel_rfl) machCells hv h
  obtain ⟨z0, e0, _⟩ := DataW.trod_int Try.underlying3 g0
  simp at e0
  subst e0
  obtain ⟨z1, e1, _⟩ := DataW.trod_int Try.underlying3 g1
  simp at e1
  subst e1
  obtain ⟨A, l, c, rfl, hl, hlm⟩ := open_bools g2
  have hform : ∃ B n c, v3 = .slice B n c := by
    rcases DataW.trod_slice Try.underlying23 g3 with ⟨e, _⟩ | ⟨a, len, cap, _, _, _, _, e, _⟩
    · simp at e; exact ⟨_, _, _, e⟩
    · simp at e; exact ⟨_, _, _, e⟩
  obtain ⟨B, n', c', rfl⟩ := hform
  obtain ⟨m, rfl, hm, hmm⟩ := open_moves (W := W) (A := B) (n := n') (c := c') (d := y3.1) (p := y3.2) ⟨_, by simpa [Value.cells] using g3⟩
  exact ⟨⟨z0, z1, l, m⟩, ⟨A, c, B, c', rfl, hl, hm⟩, hlm, hmm⟩
end Go.Proofs.Ytkhjdidcpoefdaa
