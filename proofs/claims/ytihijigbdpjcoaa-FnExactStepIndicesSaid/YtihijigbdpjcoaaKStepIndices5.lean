/-
  An argument that is an index term, opened.
-/
import Derived.Test.YtihijigbdpjcoaaKStepIndices1
import Derived.Test.YtihijigbdpjcoaaKStepIndices4
import Derived.Lib.SmallJoins
namespace Go.Proofs.Ytihijigbdpjcoaa
open Go.RowKit Go.Deep Go.ChangeShapes Go.WideShapes

theorem lxCells : Try.prog.cellsOf 37 = 3 := by kernel_rfl
theorem lxsCells : Try.prog.cellsOf 35 = 1 := by kernel_rfl

/-- Cells that lie one behind the other read as index terms. -/
theorem ixs_mk {w : World} {b : Nat} : ∀ (ts : List Ix) (off : Nat), (∀ i, i < ts.length → ∃ kv,
      w.cell? ⟨b, off + i * 3, none⟩ = some (.int .i64 (ixAt ts i).op) ∧ w.cell? ⟨b, off + i * 3 + 1, none⟩ = some (.int .i64 (ixAt ts i).num) ∧
      w.cell? ⟨b, off + i * 3 + 2, none⟩ = some kv ∧
      IxsIn w kv (ixAt ts i).kids) → ∃ xs, AtL w xs (encIxs ts) ∧ ∀ j u, xs[j]? = some u → w.cell? ⟨b, off + j, none⟩ = some u
  | [], off, _ => ⟨[], .nil, fun j u h => by simp at h⟩
  | t :: r, off, h => by
    obtain ⟨kv, d0, d1, d2, hk⟩ := h 0 (by simp)
    rw [ixAt_cons_zero] at d0 d1 hk
    simp only [Nat.zero_mul, Nat.add_zero] at d0 d1 d2
    obtain ⟨xs, hL, hc⟩ := ixs_mk r (off + 3) fun i hi => by
      obtain ⟨kv, e0, e1, e2, g2⟩ := h (i + 1) (by simpa using hi)
      rw [ixAt_cons_succ] at e0 e1 g2
      rw [show off + (i + 1) * 3 = off + 3 + i * 3 by omega] at e0 e1 e2
      exact ⟨kv, e0, e1, e2, g2⟩
    refine ⟨[.int .i64 t.op, .int .i64 t.num, kv] ++ xs, by rw [encIxs]; exact (atL_ix hk).append hL, fun j u hj => ?_⟩
    have hcase : j = 0 ∨ j = 1 ∨ j = 2 ∨ 3 ≤ j := by omega
    rcases hcase with rfl | rfl | rfl | h4
    · simp at hj; subst hj; simpa using d0
    · simp at hj; subst hj; exact d1
    · simp at hj; subst hj; exact d2
    · obtain ⟨q, rfl⟩ : ∃ q, j = q + 3 := ⟨j - 3, by omega⟩
      rw [List.getElem?_append_right (by simp)] at hj
      simp at hj
      have := hc q u hj
      rw [show off + (q + 3) = off + 3 + q by omega]
      exact this

variable {H : Type} {enc : TypeId × Value → H} {W : World}

/-- What is known of an index term's three values. -/
def ThreeI (W : World) (v0 v1 v2 : Value) (t : Ix) : Prop :=
  v0 = .int .i64 t.op ∧ v1 = .int .i64 t.num ∧ IxsIn W v2 t.kids ∧ ShortIx t

set_option maxRecDepth 100000 in
theorem open_ixs : ∀ (N fuel : Nat), fuel ≤ N → ∀ (v : Value) (x : DataW H × List MemPlace), DataW.trod enc Try.prog W 0 (fun _ => true) true fuel 35 [v] = some x →
    ∃ ts : List Ix, IxsIn W v ts ∧ ShortIxs ts ∧ ts.length ≤ maxLen := by
  intro N
  induction N with
  | zero =>
    intro fuel hf v x h
    have e : fuel = 0 := by omega
    subst e
    simp [DataW.trod] at h
  | succ N ih =>
    intro fuel hf v x h
    rcases DataW.trod_slice Try.underlying35 h with ⟨e, _⟩ | ⟨a, len, cap, elems, rest, n, hfu, e, _, hb, hl, hm, hlen, hel, _, _⟩
    · simp at e
      subst e
      exact ⟨[], .nil _ _ _ _ (fun _ _ => rfl), trivial, by simp [maxLen]⟩
    · simp at e
      subst e
      have each : ∀ i, i < len → ∃ q : Ix × Value × Value × Value, ThreeI W q.2.1 q.2.2.1 q.2.2.2 q.1 ∧
          W.cell? (a.add (i * 3)) = some q.2.1 ∧ W.cell? (a.add (i * 3 + 1)) = some q.2.2.1 ∧ W.cell? (a.add (i * 3 + 2)) = some q.2.2.2 := by
        intro i hi
        have h1 := hel i hi
        rw [List.getElem?_eq_getElem (by omega), lxCells, Option.bind_eq_some_iff] at h1
        obtain ⟨cs', h2, h3⟩ := h1
        obtain ⟨_, hcl, hcell⟩ := World.cells?_some h2
        obtain ⟨xs, m, hmn, _, _, hxl, hfs⟩ := DataW.trod_struct Try.underlying37 h3
        match xs, hxl, cs', hcl with
        | [y0, y1, y2], _, [v0, v1, v2], _ =>
          have g0 := hfs 0 _ rfl
          have g1 := hfs 1 _ rfl
          have g2 := hfs 2 _ rfl
          simp [intCells, lxsCells] at g0 g1 g2
          obtain ⟨z0, e0, _⟩ := DataW.trod_int Try.underlying3 g0
          obtain ⟨z1, e1, _⟩ := DataW.trod_int Try.underlying3 g1
          simp at e0 e1
          subst e0; subst e1
          obtain ⟨ks, hks, hsh, hkm⟩ := ih m (by omega) v2 y2 g2
          have c0 := hcell 0 (by omega)
          have c1 := hcell 1 (by omega)
          have c2 := hcell 2 (by omega)
          rw [add_add] at c0 c1 c2
          exact ⟨(.mk z0 z1 ks, .int .i64 z0, .int .i64 z1, v2), ⟨rfl, rfl, hks, hkm, hsh⟩, by simpa using c0, by simpa using c1, by simpa using c2⟩
      obtain ⟨q, hq⟩ := choose_lt each
      have hat : ∀ i, i < len → ixAt ((List.range len).map fun i => (q i).1) i = (q i).1 := fun i hi => by simp [ixAt, hi]
      refine ⟨(List.range len).map fun i => (q i).1, ?_, shortIxs_of fun i hi => ?_, by simp; omega⟩
      · rcases Nat.eq_zero_or_pos len with h0 | h0
        · subst h0
          exact .nil _ _ _ _ (fun _ h => by cases h)
        · have hc0 := (hq 0 h0).2.1
          have ha : a = ⟨a.block, a.off, none⟩ := spot_none (by simpa [Addr.add] using hc0)
          have hblt : a.block < W.heap.size := block_lt_of_cell (a := a) (by simpa [Addr.add] using hc0)
          have hadd : ∀ j, a.add j = ⟨a.block, a.off + j, none⟩ := fun j => by
            unfold Addr.add
            split
            · rename_i h0; rw [h0]; exact ha
            · rfl
          obtain ⟨xs, hL, hc⟩ := ixs_mk (w := W) (b := a.block) ((List.range len).map fun i => (q i).1) a.off fun i hi => by
            have hi' : i < len := by simpa using hi
            obtain ⟨⟨e0, e1, hk, _⟩, c0, c1, c2⟩ := hq i hi'
            rw [hadd] at c0 c1 c2
            rw [hat i hi']
            rw [e0] at c0
            rw [e1] at c1
            exact ⟨_, c0, by rw [Nat.add_assoc]; exact c1, by rw [Nat.add_assoc]; exact c2, hk⟩
          rw [ha]
          exact .row h0 (by rw [encIxs_len]; simp) hblt hc hL
      · have hi' : i < len := by simpa using hi
        rw [hat i hi']
        exact (hq i hi').1.2.2.2

set_option maxRecDepth 100000 in
/-- A struct argument that is an index term. -/
theorem open_index {r : Reach} {b0 : Nat} {v : Value} {d : DataW H} {p : List MemPlace} (hv : Value.okWide Try.prog W r b0 37 v) (h : DataW.Trod enc Try.prog W 0 (fun _ => true) true 37 v d p) :
    ∃ t : Ix, IxIn W v t ∧ ShortIx t := by
  obtain ⟨v0, v1, v2, y0, y1, y2, n, rfl, _, _, g0, g1, g2⟩ := Go.Joins.open_agg3 Try.underlying37 (by kernel_rfl) lxCells hv h
  obtain ⟨z0, e0, _⟩ := DataW.trod_int Try.underlying3 g0
  obtain ⟨z1, e1, _⟩ := DataW.trod_int Try.underlying3 g1
  simp at e0 e1
  subst e0; subst e1
  obtain ⟨ks, hks, hsh, hkm⟩ := open_ixs n n (Nat.le_refl _) v2 y2 g2
  obtain ⟨B, e, rfl⟩ := hks.form
  exact ⟨.mk z0 z1 ks, ⟨B, e, rfl, hks⟩, hkm, hsh⟩
end Go.Proofs.Ytihijigbdpjcoaa
