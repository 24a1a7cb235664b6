/-
  An argument that is a term, opened: it reads as a tree.
-/
import Derived.Test.YtnnebndcjjdhoaaKPathsOf4
import Derived.Test.YtnnebndcjjdhoaaKPathsOf5
import Derived.Lib.SmallJoins
namespace Go.Proofs.Ytnnebndcjjdhoaa
open Go.RowKit Go.Deep Go.ChangeShapes Go.WideShapes

theorem ltCells : Try.prog.cellsOf 25 = 4 := by kernel_rfl
theorem psCells : Try.prog.cellsOf 22 = 1 := by kernel_rfl
theorem tsCells : Try.prog.cellsOf 23 = 1 := by kernel_rfl

/-- Cells that lie one behind the other read as terms. -/
theorem tms_mk {w : World} {b : Nat} : ∀ (ts : List Tm) (off : Nat), (∀ i, i < ts.length → ∃ A1 c1 kv,
      w.cell? ⟨b, off + i * 4, none⟩ = some (.int .i64 (tmAt ts i).op) ∧ w.cell? ⟨b, off + i * 4 + 1, none⟩ = some (.int .i64 (tmAt ts i).num) ∧
      w.cell? ⟨b, off + i * 4 + 2, none⟩ = some (.slice A1 (tmAt ts i).perm.length c1) ∧ w.cell? ⟨b, off + i * 4 + 3, none⟩ = some kv ∧
      PairsAt w A1 (tmAt ts i).perm ∧ TmsIn w kv (tmAt ts i).kids) → ∃ xs, AtL w xs (encTs ts) ∧ ∀ j u, xs[j]? = some u → w.cell? ⟨b, off + j, none⟩ = some u
  | [], off, _ => ⟨[], .nil, fun j u h => by simp at h⟩
  | t :: r, off, h => by
    obtain ⟨A1, c1, kv, d0, d1, d2, d3, hp, hk⟩ := h 0 (by simp)
    rw [tmAt_cons_zero] at d0 d1 d2 hp hk
    simp only [Nat.zero_mul, Nat.add_zero] at d0 d1 d2 d3
    obtain ⟨xs, hL, hc⟩ := tms_mk r (off + 4) fun i hi => by
      obtain ⟨A1, c1, kv, e0, e1, e2, e3, g1, g2⟩ := h (i + 1) (by simpa using hi)
      rw [tmAt_cons_succ] at e0 e1 e2 g1 g2
      rw [show off + (i + 1) * 4 = off + 4 + i * 4 by omega] at e0 e1 e2 e3
      exact ⟨A1, c1, kv, e0, e1, e2, e3, g1, g2⟩
    refine ⟨[.int .i64 t.op, .int .i64 t.num, .slice A1 t.perm.length c1, kv] ++ xs, by rw [encTs]; exact (atL_term hp hk).append hL, fun j u hj => ?_⟩
    have hcase : j = 0 ∨ j = 1 ∨ j = 2 ∨ j = 3 ∨ 4 ≤ j := by omega
    rcases hcase with rfl | rfl | rfl | rfl | h4
    · simp at hj; subst hj; simpa using d0
    · simp at hj; subst hj; exact d1
    · simp at hj; subst hj; exact d2
    · simp at hj; subst hj; exact d3
    · obtain ⟨q, rfl⟩ : ∃ q, j = q + 4 := ⟨j - 4, by omega⟩
      rw [List.getElem?_append_right (by simp)] at hj
      simp at hj
      have := hc q u hj
      rw [show off + (q + 4) = off + 4 + q by omega]
      exact this

theorem shorts_of : ∀ {ts : List Tm}, (∀ i, i < ts.length → Short (tmAt ts i)) → Shorts ts
  | [], _ => trivial
  | t :: r, h => ⟨h 0 (by simp), shorts_of fun i hi => by have := h (i + 1) (by simpa using hi); rwa [tmAt_cons_succ] at this⟩

instance : Inhabited Tm := ⟨tm0⟩

variable {H : Type} {enc : TypeId × Value → H} {W : World}

/-- One value of a slice of pairs. -/
theorem open_ps {fuel : Nat} {v : Value} {x : DataW H × List MemPlace} (h : DataW.trod enc Try.prog W 0 (fun _ => true) true fuel 22 [v] = some x) :
    ∃ A l c, v = .slice A (l : List (Int × Int)).length c ∧ PairsAt W A l ∧ l.length ≤ maxLen := by
  have hform : ∃ A n c, v = .slice A n c := by
    rcases DataW.trod_slice Try.underlying22 h with ⟨e, _⟩ | ⟨a, len, cap, _, _, _, _, e, _⟩
    · simp at e; exact ⟨_, _, _, e⟩
    · simp at e; exact ⟨_, _, _, e⟩
  obtain ⟨A, n, c, rfl⟩ := hform
  obtain ⟨l, rfl, hA, hm⟩ := open_pairs (W := W) (A := A) (n := n) (c := c) (d := x.1) (p := x.2) ⟨fuel, by simpa [Value.cells] using h⟩
  exact ⟨A, l, c, rfl, hA, hm⟩

/-- What is known of a term's four values. -/
def Four (W : World) (v0 v1 v2 v3 : Value) (t : Tm) : Prop :=
  ∃ A c, v0 = .int .i64 t.op ∧ v1 = .int .i64 t.num ∧ v2 = .slice A t.perm.length c ∧ PairsAt W A t.perm ∧ TmsIn W v3 t.kids ∧ Short t

set_option maxRecDepth 100000 in
theorem open_tms : ∀ (N fuel : Nat), fuel ≤ N → ∀ (v : Value) (x : DataW H × List MemPlace), DataW.trod enc Try.prog W 0 (fun _ => true) true fuel 23 [v] = some x →
    ∃ ts : List Tm, TmsIn W v ts ∧ Shorts ts ∧ ts.length ≤ maxLen := by
  intro N
  induction N with
  | zero =>
    intro fuel hf v x h
    have e : fuel = 0 := by omega
    subst e
    simp [DataW.trod] at h
  | succ N ih =>
    intro fuel hf v x h
    rcases DataW.trod_slice Try.underlying23 h with ⟨e, _⟩ | ⟨a, len, cap, elems, rest, n, hfu, e, _, hb, hl, hm, hlen, hel, _, _⟩
    · simp at e
      subst e
      exact ⟨[], .nil _ _ _ _ (fun _ _ => rfl), trivial, by simp [maxLen]⟩
    · simp at e
      subst e
      have each : ∀ i, i < len → ∃ q : Tm × Value × Value × Value × Value, Four W q.2.1 q.2.2.1 q.2.2.2.1 q.2.2.2.2 q.1 ∧
          W.cell? (a.add (i * 4)) = some q.2.1 ∧ W.cell? (a.add (i * 4 + 1)) = some q.2.2.1 ∧ W.cell? (a.add (i * 4 + 2)) = some q.2.2.2.1 ∧ W.cell? (a.add (i * 4 + 3)) = some q.2.2.2.2 := by
        intro i hi
        have h1 := hel i hi
        rw [List.getElem?_eq_getElem (by omega), ltCells, Option.bind_eq_some_iff] at h1
        obtain ⟨cs', h2, h3⟩ := h1
        obtain ⟨_, hcl, hcell⟩ := World.cells?_some h2
        obtain ⟨xs, m, hmn, _, _, hxl, hfs⟩ := DataW.trod_struct Try.underlying25 h3
        match xs, hxl, cs', hcl with
        | [y0, y1, y2, y3], _, [v0, v1, v2, v3], _ =>
          have g0 := hfs 0 _ rfl
          have g1 := hfs 1 _ rfl
          have g2 := hfs 2 _ rfl
          have g3 := hfs 3 _ rfl
          simp [intCells, psCells, tsCells] at g0 g1 g2 g3
          obtain ⟨z0, e0, _⟩ := DataW.trod_int Try.underlying3 g0
          obtain ⟨z1, e1, _⟩ := DataW.trod_int Try.underlying3 g1
          simp at e0 e1
          subst e0; subst e1
          obtain ⟨A, l, c, rfl, hA, hlm⟩ := open_ps g2
          obtain ⟨ks, hks, hsh, hkm⟩ := ih m (by omega) v3 y3 g3
          have c0 := hcell 0 (by omega)
          have c1 := hcell 1 (by omega)
          have c2 := hcell 2 (by omega)
          have c3 := hcell 3 (by omega)
          rw [add_add] at c0 c1 c2 c3
          exact ⟨(.mk z0 z1 l ks, .int .i64 z0, .int .i64 z1, .slice A l.length c, v3), ⟨A, c, rfl, rfl, rfl, hA, hks, hlm, hkm, hsh⟩, by simpa using c0, by simpa using c1, by simpa using c2, by simpa using c3⟩
      obtain ⟨q, hq⟩ := choose_lt each
      have hat : ∀ i, i < len → tmAt ((List.range len).map fun i => (q i).1) i = (q i).1 := fun i hi => by simp [tmAt, hi]
      refine ⟨(List.range len).map fun i => (q i).1, ?_, shorts_of fun i hi => ?_, by simp; omega⟩
      · rcases Nat.eq_zero_or_pos len with h0 | h0
        · subst h0
          exact .nil _ _ _ _ (fun _ h => by cases h)
        · have hc0 := (hq 0 h0).2.1
          have ha : a = ⟨a.block, a.off, none⟩ := spot_none (by simpa [Addr.add] using hc0)
          have hblt : a.block < W.heap.size := block_lt_of_cell (a := a) (by simpa [Addr.add] using hc0)
          have hadd : ∀ j, a.add j = ⟨a.block, a.off + j, none⟩ := fun j => by
            unfold Addr.add
            split
            · rename_i h0; rw [h0]; exact ha
            · rfl
          obtain ⟨xs, hL, hc⟩ := tms_mk (w := W) (b := a.block) ((List.range len).map fun i => (q i).1) a.off fun i hi => by
            have hi' : i < len := by simpa using hi
            obtain ⟨⟨A, c, e0, e1, e2, hA, hk, _⟩, c0, c1, c2, c3⟩ := hq i hi'
            rw [hadd] at c0 c1 c2 c3
            rw [hat i hi']
            rw [e0] at c0
            rw [e1] at c1
            rw [e2] at c2
            exact ⟨A, c, _, c0, by rw [Nat.add_assoc]; exact c1, by rw [Nat.add_assoc]; exact c2, by rw [Nat.add_assoc]; exact c3, hA, hk⟩
          rw [ha]
          exact .row h0 (by rw [encTs_len]; simp) hblt hc hL
      · have hi' : i < len := by simpa using hi
        rw [hat i hi']
        obtain ⟨⟨A, c, _, _, _, _, _, hs⟩, _⟩ := hq i hi'
        exact hs

set_option maxRecDepth 100000 in
/-- A struct argument that is a term. -/
theorem open_term {r : Reach} {b0 : Nat} {v : Value} {d : DataW H} {p : List MemPlace} (hv : Value.okWide Try.prog W r b0 25 v) (h : DataW.Trod enc Try.prog W 0 (fun _ => true) true 25 v d p) :
    ∃ t : Tm, TmIn W v t ∧ Short t := by
  obtain ⟨v0, v1, v2, v3, y0, y1, y2, y3, n, rfl, _, _, g0, g1, g2, g3⟩ := Go.Joins.open_agg4 Try.underlying25 (by kernel_rfl) ltCells hv h
  obtain ⟨z0, e0, _⟩ := DataW.trod_int Try.underlying3 g0
  obtain ⟨z1, e1, _⟩ := DataW.trod_int Try.underlying3 g1
  simp at e0 e1
  subst e0; subst e1
  obtain ⟨A, l, c, rfl, hA, hlm⟩ := open_ps g2
  obtain ⟨ks, hks, hsh, hkm⟩ := open_tms n n (Nat.le_refl _) v3 y3 g3
  exact ⟨.mk z0 z1 l ks, ⟨A, c, v3, rfl, hA, hks⟩, hlm, hkm, hsh⟩

end Go.Proofs.Ytnnebndcjjdhoaa
