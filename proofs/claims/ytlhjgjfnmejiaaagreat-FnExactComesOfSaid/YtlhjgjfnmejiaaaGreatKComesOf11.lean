/-
  An argument that is a slice of bindings, opened.
-/
import Derived.Test.YtlhjgjfnmejiaaaGreatKComesOf9
import Derived.Test.YtlhjgjfnmejiaaaGreatKComesOf10
namespace Go.Proofs.YtlhjgjfnmejiaaaGreat
open Go.RowKit Go.Deep Go.ChangeShapes Go.WideShapes
variable {H : Type} {enc : TypeId × Value → H} {W : World}

theorem lcellsBinding : Tryz.prog.cellsOf 73 = 5 := by kernel_rfl

set_option maxRecDepth 100000 in
/-- Four values that read as a term. -/
theorem open_fourBinding {fuel : Nat} {v0 v1 v2 v3 : Value} {x : DataW H × List MemPlace} (h : DataW.trod enc Tryz.prog W 0 (fun _ => true) true fuel 41 [v0, v1, v2, v3] = some x) :
    ∃ (t : Tm) (A : Option Addr) (c : Nat) (B : Option Addr) (d : Nat), v0 = .int .i64 t.op ∧ v1 = .int .i64 t.num ∧ v2 = .slice A t.perm.length c ∧ v3 = .slice B t.kids.length d ∧ TmIn W (.agg #[.int .i64 t.op, .int .i64 t.num, .slice A t.perm.length c, .slice B t.kids.length d]) t ∧ Short t := by
  obtain ⟨xs, m, hmn, _, _, hxl, hfs⟩ := DataW.trod_struct Tryz.underlying41 h
  match xs, hxl with
  | [y0, y1, y2, y3], _ =>
    have g0 := hfs 0 _ rfl
    have g1 := hfs 1 _ rfl
    have g2 := hfs 2 _ rfl
    have g3 := hfs 3 _ rfl
    simp [intCells, psCells, tsCells] at g0 g1 g2 g3
    obtain ⟨z0, e0, _⟩ := DataW.trod_int Tryz.underlying3 g0
    obtain ⟨z1, e1, _⟩ := DataW.trod_int Tryz.underlying3 g1
    simp at e0 e1
    subst e0; subst e1
    obtain ⟨A, l, c, rfl, hA, hlm⟩ := open_ps g2
    obtain ⟨ks, hks, hsh, hkm⟩ := open_tms m m (Nat.le_refl _) v3 y3 g3
    obtain ⟨B, d, rfl⟩ := hks.form
    exact ⟨.mk z0 z1 l ks, A, c, B, d, rfl, rfl, rfl, rfl, ⟨A, c, _, rfl, hA, hks⟩, hlm, hkm, hsh⟩

set_option maxRecDepth 100000 in
theorem open_bindings {A : Option Addr} {n c : Nat} {d : DataW H} {p : List MemPlace} (h : DataW.Trod enc Tryz.prog W 0 (fun _ => true) true 22 (.slice A n c) d p) :
    ∃ rs : List RBinding, rs.length = n ∧ RBindingsIn W (.slice A rs.length c) rs ∧ ShortRBindings rs ∧ n ≤ maxLen := by
  obtain ⟨fuel, hf⟩ := h
  rcases DataW.trod_slice Tryz.underlying22 hf with ⟨e, _⟩ | ⟨a, len, cap, elems, rest, nn, hfu, e, _, hb, hl, hm, hlen, hel, _, _⟩
  · simp [Value.cells] at e
    obtain ⟨rfl, rfl, rfl⟩ := e
    exact ⟨[], rfl, ⟨none, 0, rfl, fun h => absurd h (by simp)⟩, fun k h => absurd h (by simp), by decide⟩
  · simp [Value.cells] at e
    obtain ⟨rfl, rfl, rfl⟩ := e
    have each : ∀ i, i < n → ∃ r : RBinding, (Short r.f1) ∧ ∃ A1 c1 B1 d1, W.cell? (a.add (i * 5)) = some (.int .i64 r.f0) ∧ W.cell? (a.add (i * 5 + 1)) = some (.int .i64 r.f1.op) ∧ W.cell? (a.add (i * 5 + 2)) = some (.int .i64 r.f1.num) ∧ W.cell? (a.add (i * 5 + 3)) = some (.slice A1 r.f1.perm.length c1) ∧ W.cell? (a.add (i * 5 + 4)) = some (.slice B1 r.f1.kids.length d1) ∧ TmIn W (.agg #[.int .i64 r.f1.op, .int .i64 r.f1.num, .slice A1 r.f1.perm.length c1, .slice B1 r.f1.kids.length d1]) r.f1 := by
      intro i hi
      have h1 := hel i hi
      rw [List.getElem?_eq_getElem (by omega), lcellsBinding, Option.bind_eq_some_iff] at h1
      obtain ⟨cs', h2, h3⟩ := h1
      obtain ⟨_, hcl, hcell⟩ := World.cells?_some h2
      obtain ⟨xs, m, hmn, _, _, hxl, hfs⟩ := DataW.trod_struct Tryz.underlying73 h3
      match xs, hxl, cs', hcl with
      | [y0, y1], _, [v0, v1, v2, v3, v4], _ =>
          have g0 := hfs 0 _ rfl
          have g1 := hfs 1 _ rfl
          simp [intCells, ltCells] at g0 g1
          obtain ⟨z0, e0, _⟩ := DataW.trod_int Tryz.underlying3 g0
          simp at e0
          subst e0
          obtain ⟨t1, A1, c1, B1, d1, w01, w11, w21, w31, ht1, hs1⟩ := open_fourBinding g1
          subst w01; subst w11; subst w21; subst w31
          have q0 := hcell 0 (by omega)
          have q1 := hcell 1 (by omega)
          have q2 := hcell 2 (by omega)
          have q3 := hcell 3 (by omega)
          have q4 := hcell 4 (by omega)
          rw [add_add] at q0 q1 q2 q3 q4
          exact ⟨⟨z0, t1⟩, hs1, A1, c1, B1, d1, by simpa using q0, by simpa using q1, by simpa using q2, by simpa using q3, by simpa using q4, ht1⟩
    obtain ⟨q, hq⟩ := choose_lt each
    have hat : ∀ i, i < n → atRBinding ((List.range n).map q) i = q i := fun i hi => by simp [atRBinding, hi]
    refine ⟨(List.range n).map q, by simp, ⟨a, c, rfl, fun hp => ?_⟩, fun k hk => ?_, by omega⟩
    · have h0 : 0 < n := by simpa using hp
      obtain ⟨_, A1, c1, B1, d1, hc0, _⟩ := hq 0 h0
      have ha : a = ⟨a.block, a.off, none⟩ := spot_none (by simpa [Addr.add] using hc0)
      have hblt : a.block < W.heap.size := block_lt_of_cell (a := a) (by simpa [Addr.add] using hc0)
      have hadd : ∀ j, a.add j = ⟨a.block, a.off + j, none⟩ := fun j => by
        unfold Addr.add
        split
        · rename_i h0; rw [h0]; exact ha
        · rfl
      refine ⟨a.block, a.off, by rw [← ha], hblt, fun i hi => ?_⟩
      have hi' : i < n := by simpa using hi
      obtain ⟨_, A1, c1, B1, d1, e0, e1, e2, e3, e4, ht1⟩ := hq i hi'
      rw [hadd] at e0 e1 e2 e3 e4
      rw [hat i hi']
      exact ⟨A1, c1, B1, d1, e0, by rw [Nat.add_assoc]; exact e1, by rw [Nat.add_assoc]; exact e2, by rw [Nat.add_assoc]; exact e3, by rw [Nat.add_assoc]; exact e4, ht1⟩
    · have hk' : k < n := by simpa using hk
      rw [hat k hk']
      exact (hq k hk').1
end Go.Proofs.YtlhjgjfnmejiaaaGreat
