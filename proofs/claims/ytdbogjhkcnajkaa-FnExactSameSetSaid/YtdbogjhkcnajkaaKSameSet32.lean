/-
  An argument that is an orbit set, opened.
-/
import Derived.Test.YtdbogjhkcnajkaaKSameSet11
import Derived.Test.YtdbogjhkcnajkaaKSameSet31
import Derived.Lib.SmallJoins
namespace Go.Proofs.Ytdbogjhkcnajkaa
open Go.RowKit Go.Deep Go.ChangeShapes Go.WideShapes
variable {H : Type} {enc : TypeId × Value → H} {W : World}

theorem orbCells : Try.prog.cellsOf 39 = 3 := by kernel_rfl
theorem isCells : Try.prog.cellsOf 27 = 1 := by kernel_rfl

/-- One value of a slice of numbers. -/
theorem open_is1 {fuel : Nat} {v : Value} {x : DataW H × List MemPlace} (h : DataW.trod enc Try.prog W 0 (fun _ => true) true fuel 27 [v] = some x) :
    ∃ A l c, v = .slice A (l : List Int).length c ∧ ConstAt W A c l ∧ l.length ≤ maxLen := by
  have hform : ∃ A n c, v = .slice A n c ∧ (A = none → c = 0) := by
    rcases DataW.trod_slice Try.underlying27 h with ⟨e, _⟩ | ⟨a, len, cap, _, _, _, _, e, _⟩
    · simp at e; exact ⟨_, _, _, e, fun _ => rfl⟩
    · simp at e; exact ⟨_, _, _, e, fun h => by cases h⟩
  obtain ⟨A, n, c, rfl, hz⟩ := hform
  obtain ⟨l, rfl, hA, hm⟩ := open_intsL (W := W) (A := A) (n := n) (c := c) (d := x.1) (p := x.2) ⟨fuel, by simpa [Value.cells] using h⟩
  exact ⟨A, l, c, rfl, ⟨hA, hz⟩, hm⟩

/-- Cells that lie one behind the other read as rows. -/
theorem rows_mk {w : World} {b : Nat} : ∀ (ls : List (List Int)) (off : Nat), (∀ i, i < ls.length → ∃ A1 c1, w.cell? ⟨b, off + i, none⟩ = some (.slice A1 (rwAt ls i).length c1) ∧ IntsAt w A1 (rwAt ls i)) →
    ∃ xs, AtL w xs (encR ls) ∧ ∀ j u, xs[j]? = some u → w.cell? ⟨b, off + j, none⟩ = some u
  | [], off, _ => ⟨[], .nil, fun j u h => by simp at h⟩
  | t :: r, off, h => by
    obtain ⟨A1, c1, d0, hA⟩ := h 0 (by simp)
    rw [rwAt_cons_zero] at d0 hA
    obtain ⟨xs, hL, hc⟩ := rows_mk r (off + 1) fun i hi => by
      obtain ⟨A1, c1, e0, g1⟩ := h (i + 1) (by simpa using hi)
      rw [rwAt_cons_succ] at e0 g1
      rw [show off + (i + 1) = off + 1 + i by omega] at e0
      exact ⟨A1, c1, e0, g1⟩
    refine ⟨.slice A1 t.length c1 :: xs, .cons (int_atRow hA) hL, fun j u hj => ?_⟩
    cases j with
    | zero => simp at hj; subst hj; exact d0
    | succ q =>
      have := hc q u (by simpa using hj)
      rw [show off + (q + 1) = off + 1 + q by omega]
      exact this

set_option maxRecDepth 100000 in
theorem open_rows {fuel : Nat} {v : Value} {x : DataW H × List MemPlace} (h : DataW.trod enc Try.prog W 0 (fun _ => true) true fuel 22 [v] = some x) :
    ∃ ls : List (List Int), RowsIn W v ls ∧ ShortR ls := by
  rcases DataW.trod_slice Try.underlying22 h with ⟨e, _⟩ | ⟨a, len, cap, elems, rest, n, hfu, e, _, hb, hl, hm, hlen, hel, _, _⟩
  · simp at e
    subst e
    exact ⟨[], .nil _ _ _ _ (fun _ _ => rfl), by simp [maxLen], fun i hi => by simp at hi⟩
  · simp at e
    subst e
    have each : ∀ i, i < len → ∃ q : List Int × Option Addr × Nat, W.cell? (a.add i) = some (.slice q.2.1 q.1.length q.2.2) ∧ IntsAt W q.2.1 q.1 ∧ q.1.length ≤ maxLen := by
      intro i hi
      have h1 := hel i hi
      rw [List.getElem?_eq_getElem (by omega), isCells, Option.bind_eq_some_iff] at h1
      obtain ⟨cs', h2, h3⟩ := h1
      obtain ⟨_, hcl, hcell⟩ := World.cells?_some h2
      match cs', hcl with
      | [v0], _ =>
        obtain ⟨A, l, c, rfl, hA, hlm⟩ := open_is1 h3
        have c0 := hcell 0 (by omega)
        exact ⟨(l, A, c), by simpa [add_add, Addr.add] using c0, hA.1, hlm⟩
    obtain ⟨q, hq⟩ := choose_lt each
    have hat : ∀ i, i < len → rwAt ((List.range len).map fun i => (q i).1) i = (q i).1 := fun i hi => by simp [rwAt, hi]
    refine ⟨(List.range len).map fun i => (q i).1, ?_, by simp; omega, fun i hi => ?_⟩
    · rcases Nat.eq_zero_or_pos len with h0 | h0
      · subst h0
        exact .nil _ _ _ _ (fun _ h => by cases h)
      · have hc0 := (hq 0 h0).1
        have ha : a = ⟨a.block, a.off, none⟩ := spot_none (by simpa [Addr.add] using hc0)
        have hblt : a.block < W.heap.size := block_lt_of_cell (a := a) (by simpa [Addr.add] using hc0)
        have hadd : ∀ j, a.add j = ⟨a.block, a.off + j, none⟩ := fun j => by
          unfold Addr.add
          split
          · rename_i h0; rw [h0]; exact ha
          · rfl
        obtain ⟨xs, hL, hc⟩ := rows_mk (w := W) (b := a.block) ((List.range len).map fun i => (q i).1) a.off fun i hi => by
          have hi' : i < len := by simpa using hi
          obtain ⟨c0, hA, _⟩ := hq i hi'
          rw [hadd] at c0
          rw [hat i hi']
          exact ⟨_, _, c0, hA⟩
        rw [ha]
        exact .row h0 (by rw [encR_len]; simp) hblt hc hL
    · have hi' : i < len := by simpa using hi
      rw [hat i hi']
      exact (hq i hi').2.2

set_option maxRecDepth 100000 in
/-- A struct argument that is an orbit set. -/
theorem open_orbit {r : Reach} {b0 : Nat} {v : Value} {d : DataW H} {p : List MemPlace} (hv : Value.okWide Try.prog W r b0 39 v) (h : DataW.Trod enc Try.prog W 0 (fun _ => true) true 39 v d p) :
    ∃ (z : Int) (l : List Int) (m : List (List Int)), OrbIn W v z l m ∧ ShortO l m := by
  obtain ⟨v0, v1, v2, y0, y1, y2, n, rfl, _, _, g0, g1, g2⟩ := Go.Joins.open_agg3 Try.underlying39 (by kernel_rfl) orbCells hv h
  obtain ⟨z0, e0, _⟩ := DataW.trod_int Try.underlying3 g0
  simp at e0
  subst e0
  obtain ⟨A, l, c, rfl, hl, hlm⟩ := open_is1 g1
  obtain ⟨m, hm, hmm⟩ := open_rows g2
  obtain ⟨B, d2, rfl⟩ := hm.form
  exact ⟨z0, l, m, ⟨A, c, B, d2, rfl, hl, hm⟩, hlm, hmm⟩
end Go.Proofs.Ytdbogjhkcnajkaa
