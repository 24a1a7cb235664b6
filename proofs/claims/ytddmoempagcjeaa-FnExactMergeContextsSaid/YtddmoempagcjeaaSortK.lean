/-
  Rows of pairs of numbers that are sorted: the library's words on rows and this text's.
-/
import Derived.Test.YtddmoempagcjeaaPlain
import Derived.Shelf.SlSortCmp.WholeK
import Derived.Shelf.SlSortCmp.NoneTotal
import Derived.Lib.OwnBridge
namespace Go.Proofs.Ytddmoempagcjeaa
open Go.RowKit Go.Sort Go.Lib Go.Shelf

theorem cellsOf_append (a b : List (Int × Int)) : cellsOf (a ++ b) = cellsOf a ++ cellsOf b := by simp [cellsOf]

theorem pair_cells {w : World} {g : Nat} {u v : Value} (h : w.cell? ⟨g, 0, none⟩ = some u) (h' : w.cell? ⟨g, 1, none⟩ = some v) : ∀ j x, [u, v][j]? = some x → w.cell? ((⟨g, 0, none⟩ : Addr).add j) = some x := by
  intro j x hj
  cases j with
  | zero => simp at hj; subst hj; simpa [Addr.add] using h
  | succ j =>
    cases j with
    | zero => simp at hj; subst hj; simpa [Addr.add] using h'
    | succ j => simp at hj

theorem pair_one (a b : Int) : ∀ u ∈ [Value.int .i64 a, Value.int .i64 b], u.oneCell' = true := by
  intro u hu
  simp at hu
  rcases hu with rfl | rfl <;> rfl

def encP (x : Int × Int) : List Value := [.int .i64 x.1, .int .i64 x.2]

theorem flatP (d : Array (Int × Int)) : flatK encP 2 d = (cellsOf d.toList).toArray := by
  refine ext_get! (by simp [cellsOf_len]) fun t ht => ?_
  have ht' : t < d.size * 2 := by simpa using ht
  rw [get_flatK _ _ _ t ht']
  have hq : t / 2 < d.toList.length := by simp; omega
  obtain ⟨c1, c2⟩ := cellsOf_at d.toList (t / 2) hq
  have e : prAt d.toList (t / 2) = d[t / 2]! := by
    have h' : t / 2 < d.size := by omega
    simp [prAt, h']
  rw [e] at c1 c2
  rcases Nat.mod_two_eq_zero_or_one t with h | h
  · rw [show t / 2 * 2 = t by omega] at c1
    simp [h, encP, c1]
  · rw [show t / 2 * 2 + 1 = t by omega] at c2
    simp [h, encP, c2]

theorem own_putRow_id {w : World} {base : Nat} {e : TypeId} {size g n cap q : Nat} {xs ys : List Value} (h : w.ownsRow base e size (.slice (some ⟨g, 0, none⟩) n cap) n xs) (hy : ys.length = n * size) :
    (putRow id (Sort.ahead w q) g 0 ys.toArray).ownsRow base e size (.slice (some ⟨g, 0, none⟩) n cap) n ys := by
  rcases h.2 with ⟨e0, _⟩ | ⟨g', cap', cur, e0, hb, hg, hn, hm, hs, ht⟩
  · cases e0
  · injection e0 with e1 _ e3
    injection e1 with e1
    injection e1 with e1
    subst e1; subst e3
    have hle : n * size ≤ cap * size := Nat.mul_le_mul_right _ hn
    refine ⟨hy, .inr ⟨g, cap, putCells id 0 ys.toArray cur, rfl, hb, ?_, hn, hm, by simpa [putCells] using hs, ?_⟩⟩
    · simp [putRow, mapBlock, Sort.ahead, Array.getElem?_modify, hg, onCells]
    · apply List.ext_getElem?
      intro j
      rw [List.getElem?_take, Array.getElem?_toList]
      by_cases hj : j < n * size
      · have hjc : j < cur.size := by omega
        have hjy : j < ys.length := by omega
        simp only [if_pos hj, putCells, Array.getElem?_mapIdx, Array.getElem?_eq_getElem hjc, Option.map_some]
        rw [if_pos (by simp; omega)]
        simp [hjy]
      · rw [if_neg hj, List.getElem?_eq_none (by omega)]

theorem holdsK_of_own {w : World} {base : Nat} {e : TypeId} {g n cap : Nat} {zs : List (Int × Int)} (h : w.ownsRow base e 2 (.slice (some ⟨g, 0, none⟩) n cap) n (cellsOf zs)) : HoldsK encP 2 w g 0 zs.toArray := by
  unfold HoldsK
  rw [flatP]
  intro j hj
  have hl := h.1
  rw [cellsOf_len] at hl
  have hj' : j < zs.length * 2 := by simpa [cellsOf_len] using hj
  rw [Nat.zero_add]
  refine ⟨?_, h.frozenAt j⟩
  rw [h.cellAt j (by omega)]
  have hjc : j < (cellsOf zs).length := by rw [cellsOf_len]; omega
  simp [hjc]

theorem grown_putRow_id {w : World} {q g : Nat} {d : Array Value} : w.grownBy (putRow id (Sort.ahead w q) g 0 d) (some g) :=
  ⟨rfl, rfl, rfl, by simp [putRow, mapBlock, Sort.ahead], fun k hk hr => by
    have hne : g ≠ k := fun e => hr (by rw [e])
    simp [putRow, mapBlock, Sort.ahead, Array.getElem?_modify, hne]⟩

theorem below_grow (w : World) (os : Array Obj) : Below w.heap.size w (grow w os) :=
  ⟨rfl, rfl, rfl, by simp [grow], fun k hk => by simp [grow, Array.getElem?_append, hk]⟩

end Go.Proofs.Ytddmoempagcjeaa
