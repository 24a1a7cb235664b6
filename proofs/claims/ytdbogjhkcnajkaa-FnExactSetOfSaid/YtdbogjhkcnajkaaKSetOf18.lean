/-
  An argument that is an orbit set, opened. An argument that is a list of rows of numbers: the names by which the walks of the laws call it.
-/
import Derived.Test.YtdbogjhkcnajkaaKSetOf9
import Derived.Test.YtdbogjhkcnajkaaKSetOf17
import Derived.Lib.SmallJoins
section
namespace Go.Proofs.Ytdbogjhkcnajkaa
open Go.RowKit Go.Deep Go.ChangeShapes Go.WideShapes
variable {H : Type} {enc : TypeId × Value → H} {W : World}

theorem isCells : Try.prog.cellsOf 27 = 1 := by kernel_rfl

/-- One value of a slice of numbers. -/
theorem open_is1 {fuel : Nat} {v : Value} {x : DataW H × List MemPlace} (h : DataW.trod enc Try.prog W 0 (fun _ => true) true fuel 27 [v] = some x) :
    ∃ A l c, v = .slice A (l : List Int).length c ∧ ConstAt W A c l ∧ l.length ≤ maxLen := by
  have hform : ∃ A n c, v = .slice A n c ∧ (A = none → c = 0) := by
    rcases DataW.trod_slice Try.underlying27 h with ⟨e, _⟩ | ⟨a, len, cap, _, _, _, _, e, _⟩
    · simp at e; exact ⟨_, _, _, e, fun _ => rfl⟩
    · simp at e; exact ⟨_, _, _, e, fun h => by cases h⟩
  obtain ⟨A, n, c, rfl, hz⟩ := hform
  obtain ⟨l, rfl, hA, hm⟩ := open_intsL (W := W) (A := A) (n := n) (c := c) (d := x.1) (p := x.2) ⟨fuel, by simpa [Value.cells] using h⟩
  exact ⟨A, l, c, rfl, ⟨hA, hz⟩, hm⟩

/-- Cells that lie one behind the other read as rows. -/
theorem rows_mk {w : World} {b : Nat} : ∀ (ls : List (List Int)) (off : Nat), (∀ i, i < ls.length → ∃ A1 c1, w.cell? ⟨b, off + i, none⟩ = some (.slice A1 (rwAt ls i).length c1) ∧ IntsAt w A1 (rwAt ls i)) →
    ∃ xs, AtL w xs (encR ls) ∧ ∀ j u, xs[j]? = some u → w.cell? ⟨b, off + j, none⟩ = some u
  | [], off, _ => ⟨[], .nil, fun j u h => by simp at h⟩
  | t :: r, off, h => by
    obtain ⟨A1, c1, d0, hA⟩ := h 0 (by simp)
    rw [rwAt_cons_zero] at d0 hA
    obtain ⟨xs, hL, hc⟩ := rows_mk r (off + 1) fun i hi => by
      obtain ⟨A1, c1, e0, g1⟩ := h (i + 1) (by simpa using hi)
      rw [rwAt_cons_succ] at e0 g1
      rw [show off + (i + 1) = off + 1 + i by omega] at e0
      exact ⟨A1, c1, e0, g1⟩
    refine ⟨.slice A1 t.length c1 :: xs, .cons (int_atRow hA) hL, fun j u hj => ?_⟩
    cases j with
    | zero => simp at hj; subst hj; exact d0
    | succ q =>
      have := hc q u (by simpa using hj)
      rw [show off + (q + 1) = off + 1 + q by omega]
      exact this

set_option maxRecDepth 100000 in
theorem open_rows {fuel : Nat} {v : Value} {x : DataW H × List MemPlace} (h : DataW.trod enc Try.prog W 0 (fun _ => true) true fuel 22 [v] = some x) :
    ∃ ls : List (List Int), RowsIn W v ls ∧ ShortR ls := by
  rcases DataW.trod_slice Try.underlying22 h with ⟨e, _⟩ | ⟨a, len, cap, elems, rest, n, hfu, e, _, hb, hl, hm, hlen, hel, _, _⟩
  · simp at e
    subst e
    exact ⟨[], .nil _ _ _ _ (fun _ _ => rfl), by simp [maxLen], fun i hi => by simp at hi⟩
  · simp at e
    subst e
    have each : ∀ i, i < len → ∃ q : List Int × Option Addr × Nat, W.cell? (a.add i) = some (.slice q.2.1 q.1.length q.2.2) ∧ IntsAt W q.2.1 q.1 ∧ q.1.length ≤ maxLen := by
      intro i hi
      have h1 := hel i hi
      rw [List.getElem?_eq_getElem (by omega), isCells, Option.bind_eq_some_iff] at h1
      obtain ⟨cs', h2, h3⟩ := h1
      obtain ⟨_, hcl, hcell⟩ := World.cells?_some h2
      match cs', hcl with
      | [v0], _ =>
        obtain ⟨A, l, c, rfl, hA, hlm⟩ := open_is1 h3
        have c0 := hcell 0 (by omega)
        exact ⟨(l, A, c), by simpa [add_add, Addr.add] using c0, hA.1, hlm⟩
    obtain ⟨q, hq⟩ := choose_lt each
    have hat : ∀ i, i < len → rwAt ((List.range len).map fun i => (q i).1) i = (q i).1 := fun i hi => by simp [rwAt, hi]
    refine ⟨(List.range len).map fun i => (q i).1, ?_, by simp; omega, fun i hi => ?_⟩
    · rcases Nat.eq_zero_or_pos len with h0 | h0
      · subst h0
        exact .nil _ _ _ _ (fun _ h => by cases h)
      · have hc0 := (hq 0 h0).1
        have ha : a = ⟨a.block, a.off, none⟩ := spot_none (by simpa [Addr.add] using hc0)
        have hblt : a.block < W.heap.size := block_lt_of_cell (a := a) (by simpa [Addr.add] using hc0)
        have hadd : ∀ j, a.add j = ⟨a.block, a.off + j, none⟩ := fun j => by
          unfold Addr.add
          split
          · rename_i h0; rw [h0]; exact ha
          · rfl
        obtain ⟨xs, hL, hc⟩ := rows_mk (w := W) (b := a.block) ((List.range len).map fun i => (q i).1) a.off fun i hi => by
          have hi' : i < len := by simpa using hi
          obtain ⟨c0, hA, _⟩ := hq i hi'
          rw [hadd] at c0
          rw [hat i hi']
          exact ⟨_, _, c0, hA⟩
        rw [ha]
        exact .row h0 (by rw [encR_len]; simp) hblt hc hL
    · have hi' : i < len := by simpa using hi
      rw [hat i hi']
      exact (hq i hi').2.2

end Go.Proofs.Ytdbogjhkcnajkaa
end

section
namespace Go.Proofs.Ytdbogjhkcnajkaa
open Go.RowKit Go.Sort Go.ChangeShapes Go.WideShapes
set_option linter.unusedVariables false

abbrev RRow := List Int
abbrev RRowsIn (w : World) (x : Value) (ls : List RRow) : Prop := RowsIn w x ls
abbrev ShortRRows (ls : List RRow) : Prop := ∀ i, i < ls.length → (rwAt ls i).length ≤ maxLen
abbrev FitRRows (ls : List RRow) : Prop := FitR ls
theorem mcRRows_le (ls : List RRow) : sumR ls ≤ sumR ls := Nat.le_refl _
theorem ownRRows_in {w : World} {S : List Nat} {v : Value} {ls : List RRow} (h : Own w S v (rowsMem ls)) : RRowsIn w v ls := h.at_

theorem szRowS_any (ls : List RRow) (hs : ShortRRows ls) (hm : ls.length ≤ maxLen) (left : Int) (w : World) (x : Value) (h0 : 0 ≤ left) (h1 : left ≤ 1099511627776) (hx : RRowsIn w x ls) :
    Calls Try.prog 20 #[x, .int .i64 left] w (LeftPost left (ls.length + sumR ls) w) := szIntSS_any ls ⟨hm, hs⟩ left w x h0 h1 hx
theorem toRowS_any (ls : List RRow) (hf : FitRRows ls) (_ : ls.length ≤ 1048576) (w : World) (x : Value) (hx : RRowsIn w x ls) : Calls Try.prog 23 #[x] w (RowsOut ls w) := toIntSS_any ls hf w x hx
theorem eqRowS_any (ls : List RRow) (hf : FitRRows ls) (_ : ls.length ≤ 1048576) (w : World) (x y : Value) (hx : RRowsIn w x ls) (hy : RRowsIn w y ls) :
    Calls Try.prog 17 #[x, y] w (YesPost w) := eqIntSS_any ls hf w x y hx hy
theorem markRowS_any (ls : List RRow) (_ : ls.length ≤ 1048576) (hf : FitRRows ls) (S : List Nat) (v : Value) (k : Int) (w : World) (hk0 : 0 ≤ k) (hk1 : k + sumR ls ≤ 9007199254740992) (hown : Own w S v (rowsMem ls)) :
    Calls Try.prog 18 #[v, .int .i64 k] w (MarkRPost S v ls k w) := markIntSS_any ls hf S v k w hk0 hk1 hown

theorem open_rowss {H : Type} {enc : TypeId × Value → H} {W : World} {A : Option Addr} {n c : Nat} {d : DataW H} {p : List MemPlace} (h : DataW.Trod enc Try.prog W 0 (fun _ => true) true 22 (.slice A n c) d p) :
    ∃ ls : List RRow, ls.length = n ∧ RRowsIn W (.slice A ls.length c) ls ∧ ShortRRows ls ∧ n ≤ maxLen := by
  obtain ⟨fuel, hf⟩ := h
  obtain ⟨ls, h1, h2⟩ := open_rows (v := .slice A n c) (x := (d, p)) (by simpa [Value.cells] using hf)
  obtain ⟨A', c', e⟩ := h1.form
  injection e with e1 e2 e3
  subst e2
  exact ⟨ls, rfl, h1, h2.2, h2.1⟩
end Go.Proofs.Ytdbogjhkcnajkaa
end

