/-
  Pairs of numbers that are put behind a row of the call's own, wherever they lie, also where there are none. Rows of pairs of numbers that are sorted: the library's words on rows and this text's.
-/
import Derived.Test.YtlhjgjfnmejiaaaGreatKComesOf4
import Derived.Lib.SliceRun
import Derived.Laws.AppendOwnNone
import Derived.OwnWalk
import Derived.Shelf.SlSortCmp.WholeK
import Derived.Shelf.SlSortCmp.NoneTotal
import Derived.Lib.OwnBridge
namespace Go.Proofs.YtlhjgjfnmejiaaaGreat
section
open Go.RowKit
set_option linter.unusedVariables false

theorem pairs_news {w : World} {a : Addr} {l : List (Int × Int)} (h : PairsAt w (some a) l) : ∀ j u, (cellsOf l)[j]? = some u → w.cell? (a.add j) = some u := by
  intro j u hj
  have hlt : j < (cellsOf l).length := by
    rcases Nat.lt_or_ge j (cellsOf l).length with h1 | h1
    · exact h1
    · rw [List.getElem?_eq_none h1] at hj; cases hj
  rw [cellsOf_len] at hlt
  obtain ⟨b, off, e, _, hc⟩ := h (by omega)
  injection e with e
  subst e
  have hadd : (⟨b, off, none⟩ : Addr).add j = ⟨b, off + j, none⟩ := by
    unfold Addr.add
    split
    · rename_i h0; rw [h0]; rfl
    · rfl
  rw [hadd]
  obtain ⟨c1, c2⟩ := cellsOf_at l (j / 2) (by omega)
  obtain ⟨d1, d2⟩ := hc (j / 2) (by omega)
  rcases Nat.mod_two_eq_zero_or_one j with hm | hm
  · have e : j / 2 * 2 = j := by omega
    rw [e] at c1 d1
    rw [hj] at c1
    injection c1 with c1
    rw [d1, c1]
  · have e : j / 2 * 2 + 1 = j := by omega
    rw [e] at c2
    rw [Nat.add_assoc, e] at d2
    rw [hj] at c2
    injection c2 with c2
    rw [d2, c2]

theorem cellsOf_one (l : List (Int × Int)) : ∀ u ∈ cellsOf l, u.oneCell' = true := by
  intro u hu
  unfold cellsOf at hu
  rw [List.mem_flatMap] at hu
  obtain ⟨p, _, hu⟩ := hu
  simp only [List.mem_cons, List.not_mem_nil, or_false] at hu
  rcases hu with rfl | rfl <;> rfl

theorem run_append_none {P : Program} {w : World} (base : Nat) (t ty e : TypeId) (i : TypeInfo) (size : Nat) (ht : P.underlying t = some (.slice e)) (hi : P.info? e = some i)
    (v : Value) (n c : Nat) (xs : List Value) (hown : w.ownsRow base e size v n xs) :
    (Builtin.append_ #[t, t] ty #[v, .slice none 0 c]).run P w = .ok v w := by
  rcases hown.2 with ⟨rfl, rfl⟩ | ⟨g, cap, cur, rfl, _, _, hnc, _⟩
  · simp [Builtin.append_, run_underlying ht, sizeOf, typeInfo, hi, Builtin.lenOf, Builtin.firstCells]
  · simp [Builtin.append_, run_underlying ht, sizeOf, typeInfo, hi, Builtin.lenOf, Builtin.firstCells, hnc, storeCells]

theorem run_append_pairs {P : Program} {w : World} (base : Nat) (t ty e : TypeId) (i : TypeInfo) (z : Value) (ht : P.underlying t = some (.slice e)) (hi : P.info? e = some i) (hz : i.zero = some z) (hsize : i.size = 2) (hby : i.bytes = 16) (hzs : z.cells.size = 2)
    (v : Value) (n : Nat) (xs : List Value) (hown : w.ownsRow base e 2 v n xs) (A : Option Addr) (c : Nat) (l : List (Int × Int)) (hA : PairsAt w A l) (h63 : n + l.length ≤ 1048576) (hbase : base ≤ w.heap.size) :
    ∃ v' w', (Builtin.append_ #[t, t] ty #[v, .slice A l.length c]).run P w = .ok v' w' ∧ w'.ownsRow base e 2 v' (n + l.length) (xs ++ cellsOf l) ∧ w.grownBy w' v.ownBlock := by
  cases A with
  | none =>
    have h0 : l = [] := by
      rcases Nat.eq_zero_or_pos l.length with h | h
      · exact List.eq_nil_of_length_eq_zero h
      · obtain ⟨b, off, e, _⟩ := hA h
        cases e
    subst h0
    refine ⟨v, w, run_append_none base t ty e i 2 ht hi v n c xs hown, ?_, ⟨rfl, rfl, rfl, Nat.le_refl _, fun _ _ _ => rfl⟩⟩
    have e1 : cellsOf [] = [] := rfl
    rw [e1, List.append_nil]
    exact hown
  | some ad =>
    obtain ⟨v', w', hr, h2, h3, _⟩ := run_append_own (P := P) w base t ty e i z 2 16 ht hi hz hsize hby hzs (by decide) v n xs hown ad l.length c (cellsOf l) (cellsOf_len l) (pairs_news hA) (cellsOf_one l) (by unfold maxLen; omega) (by omega) hbase
    exact ⟨v', w', hr, h2, h3⟩

theorem wpList_append_pairs {P : Program} (w : World) {ops : Array Oper} {rest : List Oper} {o : Oper} {a : Act} {Q : Exit → Act → World → Prop}
    (hg : o.guard = none) (s x : Operand) (t : TypeId) (hop : o.op = Op.call { callee := Callee.builtin Builtin.append, args := #[s, x], argTypes := #[t, t] })
    (base : Nat) (e : TypeId) (i : TypeInfo) (z : Value) (ht : P.underlying t = some (.slice e)) (hi : P.info? e = some i) (hz : i.zero = some z) (hsize : i.size = 2) (hby : i.bytes = 16) (hzs : z.cells.size = 2)
    (v : Value) (n : Nat) (xs : List Value) (hs : a.eval s = v) (hown : w.ownsRow base e 2 v n xs) (A : Option Addr) (c : Nat) (l : List (Int × Int)) (hx : a.eval x = .slice A l.length c) (hA : PairsAt w A l) (h63 : n + l.length ≤ 1048576) (hbase : base ≤ w.heap.size)
    (hK : ∀ v' w', w'.ownsRow base e 2 v' (n + l.length) (xs ++ cellsOf l) → w.grownBy w' v.ownBlock → wpList P ops Q rest (a.put o.dst v') w') :
    wpList P ops Q (o :: rest) a w := by
  refine wpList_plain hg fun K' hK' => ?_
  obtain ⟨v', w', hr, h2, h3⟩ := run_append_pairs (P := P) base t o.type e i z ht hi hz hsize hby hzs v n xs hown A c l hA h63 hbase
  unfold Oper.wp
  simp [execOp, hop, resolve, invoke, builtin, hs, hx, hr, Result.andThen]
  exact hK' _ _ (hK v' w' h2 h3)
end

section
open Go.RowKit Go.Sort Go.Lib Go.Shelf

theorem cellsOf_append (a b : List (Int × Int)) : cellsOf (a ++ b) = cellsOf a ++ cellsOf b := by simp [cellsOf]

theorem pair_cells {w : World} {g : Nat} {u v : Value} (h : w.cell? ⟨g, 0, none⟩ = some u) (h' : w.cell? ⟨g, 1, none⟩ = some v) : ∀ j x, [u, v][j]? = some x → w.cell? ((⟨g, 0, none⟩ : Addr).add j) = some x := by
  intro j x hj
  cases j with
  | zero => simp at hj; subst hj; simpa [Addr.add] using h
  | succ j =>
    cases j with
    | zero => simp at hj; subst hj; simpa [Addr.add] using h'
    | succ j => simp at hj

theorem pair_one (a b : Int) : ∀ u ∈ [Value.int .i64 a, Value.int .i64 b], u.oneCell' = true := by
  intro u hu
  simp at hu
  rcases hu with rfl | rfl <;> rfl

def encP (x : Int × Int) : List Value := [.int .i64 x.1, .int .i64 x.2]

theorem flatP (d : Array (Int × Int)) : flatK encP 2 d = (cellsOf d.toList).toArray := by
  refine ext_get! (by simp [cellsOf_len]) fun t ht => ?_
  have ht' : t < d.size * 2 := by simpa using ht
  rw [get_flatK _ _ _ t ht']
  have hq : t / 2 < d.toList.length := by simp; omega
  obtain ⟨c1, c2⟩ := cellsOf_at d.toList (t / 2) hq
  have e : prAt d.toList (t / 2) = d[t / 2]! := by
    have h' : t / 2 < d.size := by omega
    simp [prAt, h']
  rw [e] at c1 c2
  rcases Nat.mod_two_eq_zero_or_one t with h | h
  · rw [show t / 2 * 2 = t by omega] at c1
    simp [h, encP, c1]
  · rw [show t / 2 * 2 + 1 = t by omega] at c2
    simp [h, encP, c2]

theorem own_putRow_id {w : World} {base : Nat} {e : TypeId} {size g n cap q : Nat} {xs ys : List Value} (h : w.ownsRow base e size (.slice (some ⟨g, 0, none⟩) n cap) n xs) (hy : ys.length = n * size) :
    (putRow id (Sort.ahead w q) g 0 ys.toArray).ownsRow base e size (.slice (some ⟨g, 0, none⟩) n cap) n ys := by
  rcases h.2 with ⟨e0, _⟩ | ⟨g', cap', cur, e0, hb, hg, hn, hm, hs, ht⟩
  · cases e0
  · injection e0 with e1 _ e3
    injection e1 with e1
    injection e1 with e1
    subst e1; subst e3
    have hle : n * size ≤ cap * size := Nat.mul_le_mul_right _ hn
    refine ⟨hy, .inr ⟨g, cap, putCells id 0 ys.toArray cur, rfl, hb, ?_, hn, hm, by simpa [putCells] using hs, ?_⟩⟩
    · simp [putRow, mapBlock, Sort.ahead, Array.getElem?_modify, hg, onCells]
    · apply List.ext_getElem?
      intro j
      rw [List.getElem?_take, Array.getElem?_toList]
      by_cases hj : j < n * size
      · have hjc : j < cur.size := by omega
        have hjy : j < ys.length := by omega
        simp only [if_pos hj, putCells, Array.getElem?_mapIdx, Array.getElem?_eq_getElem hjc, Option.map_some]
        rw [if_pos (by simp; omega)]
        simp [hjy]
      · rw [if_neg hj, List.getElem?_eq_none (by omega)]

theorem holdsK_of_own {w : World} {base : Nat} {e : TypeId} {g n cap : Nat} {zs : List (Int × Int)} (h : w.ownsRow base e 2 (.slice (some ⟨g, 0, none⟩) n cap) n (cellsOf zs)) : HoldsK encP 2 w g 0 zs.toArray := by
  unfold HoldsK
  rw [flatP]
  intro j hj
  have hl := h.1
  rw [cellsOf_len] at hl
  have hj' : j < zs.length * 2 := by simpa [cellsOf_len] using hj
  rw [Nat.zero_add]
  refine ⟨?_, h.frozenAt j⟩
  rw [h.cellAt j (by omega)]
  have hjc : j < (cellsOf zs).length := by rw [cellsOf_len]; omega
  simp [hjc]

theorem grown_putRow_id {w : World} {q g : Nat} {d : Array Value} : w.grownBy (putRow id (Sort.ahead w q) g 0 d) (some g) :=
  ⟨rfl, rfl, rfl, by simp [putRow, mapBlock, Sort.ahead], fun k hk hr => by
    have hne : g ≠ k := fun e => hr (by rw [e])
    simp [putRow, mapBlock, Sort.ahead, Array.getElem?_modify, hne]⟩

theorem below_grow (w : World) (os : Array Obj) : Below w.heap.size w (grow w os) :=
  ⟨rfl, rfl, rfl, by simp [grow], fun k hk => by simp [grow, Array.getElem?_append, hk]⟩
end
end Go.Proofs.YtlhjgjfnmejiaaaGreat
