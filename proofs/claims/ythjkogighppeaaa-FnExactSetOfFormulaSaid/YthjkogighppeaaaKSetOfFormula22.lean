/-
  An argument that is a formula, opened.
-/
import Derived.Test.YthjkogighppeaaaKSetOfFormula2
import Derived.Test.YthjkogighppeaaaKSetOfFormula21
import Derived.Lib.SmallJoins
namespace Go.Proofs.Ythjkogighppeaaa
open Go.RowKit Go.Deep Go.ChangeShapes Go.WideShapes

theorem lfCellsF : Try.prog.cellsOf 24 = 4 := by kernel_rfl
theorem lfsCells : Try.prog.cellsOf 22 = 1 := by kernel_rfl

/-- Cells that lie one behind the other read as formulas. -/
theorem fms_mk {w : World} {b : Nat} : ∀ (ts : List Fm) (off : Nat), (∀ i, i < ts.length → ∃ kv,
      w.cell? ⟨b, off + i * 4, none⟩ = some (.int .i64 (fmAt ts i).op) ∧ w.cell? ⟨b, off + i * 4 + 1, none⟩ = some (.int .i64 (fmAt ts i).fa) ∧
      w.cell? ⟨b, off + i * 4 + 2, none⟩ = some (.int .i64 (fmAt ts i).fb) ∧ w.cell? ⟨b, off + i * 4 + 3, none⟩ = some kv ∧
      FmsIn w kv (fmAt ts i).kids) → ∃ xs, AtL w xs (encFms ts) ∧ ∀ j u, xs[j]? = some u → w.cell? ⟨b, off + j, none⟩ = some u
  | [], off, _ => ⟨[], .nil, fun j u h => by simp at h⟩
  | t :: r, off, h => by
    obtain ⟨kv, d0, d1, d2, d3, hk⟩ := h 0 (by simp)
    rw [fmAt_cons_zero] at d0 d1 d2 hk
    simp only [Nat.zero_mul, Nat.add_zero] at d0 d1 d2 d3
    obtain ⟨xs, hL, hc⟩ := fms_mk r (off + 4) fun i hi => by
      obtain ⟨kv, e0, e1, e2, e3, g2⟩ := h (i + 1) (by simpa using hi)
      rw [fmAt_cons_succ] at e0 e1 e2 g2
      rw [show off + (i + 1) * 4 = off + 4 + i * 4 by omega] at e0 e1 e2 e3
      exact ⟨kv, e0, e1, e2, e3, g2⟩
    refine ⟨[.int .i64 t.op, .int .i64 t.fa, .int .i64 t.fb, kv] ++ xs, by rw [encFms]; exact (atL_fm hk).append hL, fun j u hj => ?_⟩
    have hcase : j = 0 ∨ j = 1 ∨ j = 2 ∨ j = 3 ∨ 4 ≤ j := by omega
    rcases hcase with rfl | rfl | rfl | rfl | h4
    · simp at hj; subst hj; simpa using d0
    · simp at hj; subst hj; exact d1
    · simp at hj; subst hj; exact d2
    · simp at hj; subst hj; exact d3
    · obtain ⟨q, rfl⟩ : ∃ q, j = q + 4 := ⟨j - 4, by omega⟩
      rw [List.getElem?_append_right (by simp)] at hj
      simp at hj
      have := hc q u hj
      rw [show off + (q + 4) = off + 4 + q by omega]
      exact this

variable {H : Type} {enc : TypeId × Value → H} {W : World}

/-- What is known of a formula's four values. -/
def FourF (W : World) (v0 v1 v2 v3 : Value) (t : Fm) : Prop :=
  v0 = .int .i64 t.op ∧ v1 = .int .i64 t.fa ∧ v2 = .int .i64 t.fb ∧ FmsIn W v3 t.kids ∧ ShortFm t

set_option maxRecDepth 100000 in
theorem open_fms : ∀ (N fuel : Nat), fuel ≤ N → ∀ (v : Value) (x : DataW H × List MemPlace), DataW.trod enc Try.prog W 0 (fun _ => true) true fuel 22 [v] = some x →
    ∃ ts : List Fm, FmsIn W v ts ∧ ShortFms ts ∧ ts.length ≤ maxLen := by
  intro N
  induction N with
  | zero =>
    intro fuel hf v x h
    have e : fuel = 0 := by omega
    subst e
    simp [DataW.trod] at h
  | succ N ih =>
    intro fuel hf v x h
    rcases DataW.trod_slice Try.underlying22 h with ⟨e, _⟩ | ⟨a, len, cap, elems, rest, n, hfu, e, _, hb, hl, hm, hlen, hel, _, _⟩
    · simp at e
      subst e
      exact ⟨[], .nil _ _ _ _ (fun _ _ => rfl), trivial, by simp [maxLen]⟩
    · simp at e
      subst e
      have each : ∀ i, i < len → ∃ q : Fm × Value × Value × Value × Value, FourF W q.2.1 q.2.2.1 q.2.2.2.1 q.2.2.2.2 q.1 ∧
          W.cell? (a.add (i * 4)) = some q.2.1 ∧ W.cell? (a.add (i * 4 + 1)) = some q.2.2.1 ∧ W.cell? (a.add (i * 4 + 2)) = some q.2.2.2.1 ∧ W.cell? (a.add (i * 4 + 3)) = some q.2.2.2.2 := by
        intro i hi
        have h1 := hel i hi
        rw [List.getElem?_eq_getElem (by omega), lfCellsF, Option.bind_eq_some_iff] at h1
        obtain ⟨cs', h2, h3⟩ := h1
        obtain ⟨_, hcl, hcell⟩ := World.cells?_some h2
        obtain ⟨xs, m, hmn, _, _, hxl, hfs⟩ := DataW.trod_struct Try.underlying24 h3
        match xs, hxl, cs', hcl with
        | [y0, y1, y2, y3], _, [v0, v1, v2, v3], _ =>
          have g0 := hfs 0 _ rfl
          have g1 := hfs 1 _ rfl
          have g2 := hfs 2 _ rfl
          have g3 := hfs 3 _ rfl
          simp [intCells, lfsCells] at g0 g1 g2 g3
          obtain ⟨z0, e0, _⟩ := DataW.trod_int Try.underlying3 g0
          obtain ⟨z1, e1, _⟩ := DataW.trod_int Try.underlying3 g1
          obtain ⟨z2, e2, _⟩ := DataW.trod_int Try.underlying3 g2
          simp at e0 e1 e2
          subst e0; subst e1; subst e2
          obtain ⟨ks, hks, hsh, hkm⟩ := ih m (by omega) v3 y3 g3
          have c0 := hcell 0 (by omega)
          have c1 := hcell 1 (by omega)
          have c2 := hcell 2 (by omega)
          have c3 := hcell 3 (by omega)
          rw [add_add] at c0 c1 c2 c3
          exact ⟨(.mk z0 z1 z2 ks, .int .i64 z0, .int .i64 z1, .int .i64 z2, v3), ⟨rfl, rfl, rfl, hks, hkm, hsh⟩, by simpa using c0, by simpa using c1, by simpa using c2, by simpa using c3⟩
      obtain ⟨q, hq⟩ := choose_lt each
      have hat : ∀ i, i < len → fmAt ((List.range len).map fun i => (q i).1) i = (q i).1 := fun i hi => by simp [fmAt, hi]
      refine ⟨(List.range len).map fun i => (q i).1, ?_, shortFms_of fun i hi => ?_, by simp; omega⟩
      · rcases Nat.eq_zero_or_pos len with h0 | h0
        · subst h0
          exact .nil _ _ _ _ (fun _ h => by cases h)
        · have hc0 := (hq 0 h0).2.1
          have ha : a = ⟨a.block, a.off, none⟩ := spot_none (by simpa [Addr.add] using hc0)
          have hblt : a.block < W.heap.size := block_lt_of_cell (a := a) (by simpa [Addr.add] using hc0)
          have hadd : ∀ j, a.add j = ⟨a.block, a.off + j, none⟩ := fun j => by
            unfold Addr.add
            split
            · rename_i h0; rw [h0]; exact ha
            · rfl
          obtain ⟨xs, hL, hc⟩ := fms_mk (w := W) (b := a.block) ((List.range len).map fun i => (q i).1) a.off fun i hi => by
            have hi' : i < len := by simpa using hi
            obtain ⟨⟨e0, e1, e2, hk, _⟩, c0, c1, c2, c3⟩ := hq i hi'
            rw [hadd] at c0 c1 c2 c3
            rw [hat i hi']
            rw [e0] at c0
            rw [e1] at c1
            rw [e2] at c2
            exact ⟨_, c0, by rw [Nat.add_assoc]; exact c1, by rw [Nat.add_assoc]; exact c2, by rw [Nat.add_assoc]; exact c3, hk⟩
          rw [ha]
          exact .row h0 (by rw [encFms_len]; simp) hblt hc hL
      · have hi' : i < len := by simpa using hi
        rw [hat i hi']
        exact (hq i hi').1.2.2.2.2

set_option maxRecDepth 100000 in
/-- A struct argument that is a formula. -/
theorem open_formula {r : Reach} {b0 : Nat} {v : Value} {d : DataW H} {p : List MemPlace} (hv : Value.okWide Try.prog W r b0 24 v) (h : DataW.Trod enc Try.prog W 0 (fun _ => true) true 24 v d p) :
    ∃ t : Fm, FmIn W v t ∧ ShortFm t := by
  obtain ⟨v0, v1, v2, v3, y0, y1, y2, y3, n, rfl, _, _, g0, g1, g2, g3⟩ := Go.Joins.open_agg4 Try.underlying24 (by kernel_rfl) lfCellsF hv h
  obtain ⟨z0, e0, _⟩ := DataW.trod_int Try.underlying3 g0
  obtain ⟨z1, e1, _⟩ := DataW.trod_int Try.underlying3 g1
  obtain ⟨z2, e2, _⟩ := DataW.trod_int Try.underlying3 g2
  simp at e0 e1 e2
  subst e0; subst e1; subst e2
  obtain ⟨ks, hks, hsh, hkm⟩ := open_fms n n (Nat.le_refl _) v3 y3 g3
  obtain ⟨B, e, rfl⟩ := hks.form
  exact ⟨.mk z0 z1 z2 ks, ⟨B, e, rfl, hks⟩, hkm, hsh⟩
end Go.Proofs.Ythjkogighppeaaa
