/-
  Plain words for lists of pairs in memory: no program is walked here. Plain words for lists of integers in memory.
-/
import Derived.Test.YtnomidnjglbedaaRows
import Derived.WalkKit
import Derived.Lib.Hide
section
namespace Go.Proofs.Ytnomidnjglbedaa
open Go.RowKit

theorem bcell {W w1 : World} (hb : Below W.heap.size W w1) : (∀ b o, b < W.heap.size → w1.cell? ⟨b, o, none⟩ = W.cell? ⟨b, o, none⟩) ∧ (∀ b o, b < W.heap.size → w1.frozen? ⟨b, o, none⟩ = W.frozen? ⟨b, o, none⟩) :=
  ⟨fun b o h => hb.cell (p := ⟨b, o, none⟩) h, fun b o h => hb.frozen (p := ⟨b, o, none⟩) h⟩

theorem bool_end {a b : Bool} (h : a = b) : Ending.returned (.bool a) = .returned (.bool b) := by rw [h]
theorem int_end {k : IntKind} {a b : Int} (h : a = b) : Ending.returned (.int k a) = .returned (.int k b) := by rw [h]

/-- The pair at a place of a list. -/
def prAt (l : List (Int × Int)) (i : Nat) : Int × Int := l.getD i (0, 0)

/-- A slice's address, at which the pairs of a list lie one behind the other. -/
def PairsAt (w : World) (A : Option Addr) (l : List (Int × Int)) : Prop :=
  0 < l.length → ∃ b off, A = some ⟨b, off, none⟩ ∧ b < w.heap.size ∧
    ∀ i, i < l.length → w.cell? ⟨b, off + i * 2, none⟩ = some (.int .i64 (prAt l i).1) ∧ w.cell? ⟨b, off + i * 2 + 1, none⟩ = some (.int .i64 (prAt l i).2)

theorem PairsAt.below {w w' : World} {A : Option Addr} {l : List (Int × Int)} (h : PairsAt w A l) (hb : Below w.heap.size w w') : PairsAt w' A l := by
  intro hl
  obtain ⟨b, off, rfl, hlt, hc⟩ := h hl
  refine ⟨b, off, rfl, Nat.lt_of_lt_of_le hlt hb.size, fun i hi => ?_⟩
  obtain ⟨h1, h2⟩ := hc i hi
  exact ⟨(hb.cell (p := ⟨b, off + i * 2, none⟩) hlt).trans h1, (hb.cell (p := ⟨b, off + i * 2 + 1, none⟩) hlt).trans h2⟩

theorem take_next {α : Type} {xs ys : List α} (d : α) (k : Nat) (hx : k < xs.length) (hy : k < ys.length) (h : xs.take k = ys.take k) :
    xs.take (k + 1) = ys.take (k + 1) ↔ xs.getD k d = ys.getD k d := by
  rw [List.take_succ_eq_append_getElem hx, List.take_succ_eq_append_getElem hy, h, List.append_right_inj]
  simp [List.getD_eq_getElem?_getD, hx, hy]

theorem differ_at {xs ys : List (Int × Int)} (k : Nat) (h : ¬ prAt xs k = prAt ys k) : decide (xs = ys) = false := by
  simp only [decide_eq_false_iff_not]
  intro e
  exact h (by rw [e])

theorem same_all {xs ys : List (Int × Int)} (hl : xs.length = ys.length) (h : xs.take xs.length = ys.take xs.length) : decide (xs = ys) = true := by
  rw [List.take_length, hl, List.take_length] at h
  simpa using h

/-- The cells of a list of pairs. -/
def cellsOf (l : List (Int × Int)) : List Value := l.flatMap fun p => [.int .i64 p.1, .int .i64 p.2]

theorem cellsOf_at (l : List (Int × Int)) (i : Nat) (h : i < l.length) : (cellsOf l)[i * 2]? = some (.int .i64 (prAt l i).1) ∧ (cellsOf l)[i * 2 + 1]? = some (.int .i64 (prAt l i).2) := by
  induction l generalizing i with
  | nil => simp at h
  | cons p r ih =>
    cases i with
    | zero => exact ⟨rfl, rfl⟩
    | succ i =>
      have h' : i < r.length := by simpa using h
      have e1 : (i + 1) * 2 = i * 2 + 2 := by omega
      rw [e1]
      exact ih i h'

theorem cellsOf_len (l : List (Int × Int)) : (cellsOf l).length = l.length * 2 := by
  induction l with
  | nil => rfl
  | cons p r ih =>
    have e : cellsOf (p :: r) = .int .i64 p.1 :: .int .i64 p.2 :: cellsOf r := rfl
    rw [e, List.length_cons, List.length_cons, List.length_cons, ih]
    omega

/-- A slice of the call's own that holds pairs reads as them. -/
theorem own_pairsAt {w : World} {base : Nat} {e : TypeId} {v : Value} {l : List (Int × Int)} (h : w.ownsRow base e 2 v l.length (cellsOf l)) :
    ∃ A c, v = .slice A l.length c ∧ PairsAt w A l := by
  rcases h.2 with ⟨rfl, h0⟩ | ⟨g, cap, cur, rfl, hb, hh, _⟩
  · rw [h0]
    exact ⟨none, 0, rfl, fun hp => absurd hp (by omega)⟩
  · refine ⟨_, cap, rfl, fun _ => ⟨g, 0, rfl, (Array.getElem?_eq_some_iff.1 hh).1, fun i hi => ?_⟩⟩
    obtain ⟨c1, c2⟩ := cellsOf_at l i hi
    rw [Nat.zero_add]
    exact ⟨(h.cellAt (i * 2) (by omega)).trans c1, (h.cellAt (i * 2 + 1) (by omega)).trans c2⟩

/-- The first m cells of one row, the rest of another. -/
def mixTo (ys xs : List Value) (m : Nat) : List Value := ys.take m ++ xs.drop m

theorem mixTo_len (ys xs : List Value) (m : Nat) (h : ys.length = xs.length) : (mixTo ys xs m).length = xs.length := by
  unfold mixTo
  rw [List.length_append, List.length_take, List.length_drop]
  omega

theorem mixTo_set {ys xs : List Value} {m : Nat} {u : Value} (h : ys.length = xs.length) (hu : ys[m]? = some u) : (mixTo ys xs m).set m u = mixTo ys xs (m + 1) := by
  have hm : m < ys.length := by
    rcases Nat.lt_or_ge m ys.length with h1 | h1
    · exact h1
    · rw [List.getElem?_eq_none h1] at hu; cases hu
  have hy : ys[m] = u := by rw [List.getElem?_eq_getElem hm] at hu; injection hu
  unfold mixTo
  have e1 : (ys.take m).length = m := by rw [List.length_take]; omega
  rw [List.set_append_right _ _ (by omega), e1, Nat.sub_self, List.drop_eq_getElem_cons (show m < xs.length by omega), List.set_cons_zero, List.take_succ_eq_append_getElem hm, hy]
  simp

theorem mixTo_zero (ys xs : List Value) : mixTo ys xs 0 = xs := by simp [mixTo]
theorem mixTo_all (ys xs : List Value) (m : Nat) (h : ys.length = m) (h' : xs.length = m) : mixTo ys xs m = ys := by
  subst h
  unfold mixTo
  rw [List.take_length, List.drop_of_length_le (by omega), List.append_nil]

theorem some_of_lt {α : Type} (l : List α) (i : Nat) (h : i < l.length) : ∃ u, l[i]? = some u := ⟨l[i], List.getElem?_eq_getElem h⟩

theorem grown_of_below {w w' : World} (h : Below w.heap.size w w') (row : Option Nat) : w.grownBy w' row :=
  ⟨h.os, h.tape, h.output, h.size, fun k hk _ => h.block k hk⟩

theorem own_below {w w' : World} {base : Nat} {e : TypeId} {size n : Nat} {v : Value} {xs : List Value} (h : w.ownsRow base e size v n xs) (hb : Below w.heap.size w w') : w'.ownsRow base e size v n xs :=
  h.kept (grown_of_below hb none) (by cases v.ownBlock <;> simp)

theorem own_le {w : World} {base base' : Nat} {e : TypeId} {size n : Nat} {v : Value} {xs : List Value} (h : w.ownsRow base e size v n xs) (hb : base' ≤ base) : w.ownsRow base' e size v n xs :=
  ⟨h.1, h.2.imp id fun ⟨g, cap, cur, hv, hg, r⟩ => ⟨g, cap, cur, hv, Nat.le_trans hb hg, r⟩⟩

/-- What was below a block stays so while a row from this block on is written. -/
theorem below_own {a w w' : World} {B base : Nat} {e : TypeId} {size n : Nat} {v : Value} {xs : List Value} (hb : Below B a w) (h : w.ownsRow base e size v n xs) (hB : B ≤ base) (hw : B ≤ w.heap.size) (hg : w.grownBy w' v.ownBlock) : Below B a w' :=
  hb.grown hg hw (fun k hk => Nat.le_trans hB (h.lt k hk).1)

theorem grownBy_trans {a b c : World} {row : Option Nat} (h : a.grownBy b row) (k : b.grownBy c row) : a.grownBy c row :=
  ⟨k.os.trans h.os, k.tape.trans h.tape, k.output.trans h.output, Nat.le_trans h.size k.size, fun i hi hr => (k.block i (Nat.lt_of_lt_of_le hi h.size) hr).trans (h.block i hi hr)⟩
/-- A new slice of the pairs. -/
def NewPairs (l : List (Int × Int)) (w : World) (e : Ending) (w' : World) : Prop :=
  ∃ v, e = .returned v ∧ w'.ownsRow w.heap.size 135 2 v l.length (cellsOf l) ∧ Below w.heap.size w w'

end Go.Proofs.Ytnomidnjglbedaa
end

section
namespace Go.Proofs.Ytnomidnjglbedaa
open Go.RowKit

/-- The number at a place of a list. -/
def itAt (l : List Int) (i : Nat) : Int := l.getD i 0

/-- A slice's address, at which the numbers of a list lie one behind the other. -/
def IntsAt (w : World) (A : Option Addr) (l : List Int) : Prop :=
  0 < l.length → ∃ b off, A = some ⟨b, off, none⟩ ∧ b < w.heap.size ∧ ∀ i, i < l.length → w.cell? ⟨b, off + i, none⟩ = some (.int .i64 (itAt l i))

theorem IntsAt.below {w w' : World} {A : Option Addr} {l : List Int} (h : IntsAt w A l) (hb : Below w.heap.size w w') : IntsAt w' A l := by
  intro hl
  obtain ⟨b, off, rfl, hlt, hc⟩ := h hl
  exact ⟨b, off, rfl, Nat.lt_of_lt_of_le hlt hb.size, fun i hi => (hb.cell (p := ⟨b, off + i, none⟩) hlt).trans (hc i hi)⟩

end Go.Proofs.Ytnomidnjglbedaa
end

