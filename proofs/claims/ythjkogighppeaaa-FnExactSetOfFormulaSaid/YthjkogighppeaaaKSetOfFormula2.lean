/-
  Plain words for lists of pairs in memory: no program is walked here. Plain words for lists of integers in memory. Slices within slices: what lies behind a value, as a tree of rows; plain words, no program is walked here. Formulas as trees, how they lie in memory, and their counts; plain words, no program is walked here. Terms as trees, how they lie in memory, and their counts; plain words, no program is walked here. Slices of slices of numbers: how they lie in memory, and what they count; plain words, no program is walked here.
-/
import Derived.Test.YthjkogighppeaaaRows
import Derived.WalkKit
import Derived.Lib.Hide
section
namespace Go.Proofs.Ythjkogighppeaaa
open Go.RowKit

theorem bool_end {a b : Bool} (h : a = b) : Ending.returned (.bool a) = .returned (.bool b) := by rw [h]
theorem int_end {k : IntKind} {a b : Int} (h : a = b) : Ending.returned (.int k a) = .returned (.int k b) := by rw [h]

/-- The pair at a place of a list. -/
def prAt (l : List (Int × Int)) (i : Nat) : Int × Int := l.getD i (0, 0)

/-- A slice's address, at which the pairs of a list lie one behind the other. -/
def PairsAt (w : World) (A : Option Addr) (l : List (Int × Int)) : Prop :=
  0 < l.length → ∃ b off, A = some ⟨b, off, none⟩ ∧ b < w.heap.size ∧
    ∀ i, i < l.length → w.cell? ⟨b, off + i * 2, none⟩ = some (.int .i64 (prAt l i).1) ∧ w.cell? ⟨b, off + i * 2 + 1, none⟩ = some (.int .i64 (prAt l i).2)

theorem PairsAt.below {w w' : World} {A : Option Addr} {l : List (Int × Int)} (h : PairsAt w A l) (hb : Below w.heap.size w w') : PairsAt w' A l := by
  intro hl
  obtain ⟨b, off, rfl, hlt, hc⟩ := h hl
  refine ⟨b, off, rfl, Nat.lt_of_lt_of_le hlt hb.size, fun i hi => ?_⟩
  obtain ⟨h1, h2⟩ := hc i hi
  exact ⟨(hb.cell (p := ⟨b, off + i * 2, none⟩) hlt).trans h1, (hb.cell (p := ⟨b, off + i * 2 + 1, none⟩) hlt).trans h2⟩

theorem take_next {α : Type} {xs ys : List α} (d : α) (k : Nat) (hx : k < xs.length) (hy : k < ys.length) (h : xs.take k = ys.take k) :
    xs.take (k + 1) = ys.take (k + 1) ↔ xs.getD k d = ys.getD k d := by
  rw [List.take_succ_eq_append_getElem hx, List.take_succ_eq_append_getElem hy, h, List.append_right_inj]
  simp [List.getD_eq_getElem?_getD, hx, hy]

/-- Cells of which the first m are numbered from k on. -/
def markTo (k : Int) (m : Nat) (xs : List Value) : List Value := (List.range xs.length).map fun i => if i < m then .int .i64 (k + i) else xs.getD i undef

theorem markTo_len (k : Int) (m : Nat) (xs : List Value) : (markTo k m xs).length = xs.length := by simp [markTo]

theorem markTo_at (k : Int) (m : Nat) (xs : List Value) (i : Nat) (h : i < xs.length) : (markTo k m xs)[i]? = some (if i < m then .int .i64 (k + i) else xs.getD i undef) := by
  simp [markTo, List.getElem?_map, List.getElem?_range h]

theorem markTo_zero (k : Int) (xs : List Value) : markTo k 0 xs = xs := by
  apply List.ext_getElem?
  intro i
  by_cases h : i < xs.length
  · rw [markTo_at k 0 xs i h]; simp [List.getD_eq_getElem?_getD, h]
  · rw [List.getElem?_eq_none (by rw [markTo_len]; omega), List.getElem?_eq_none (by omega)]

theorem markTo_set (k : Int) (m : Nat) (xs : List Value) : (markTo k m xs).set m (.int .i64 (k + m)) = markTo k (m + 1) xs := by
  apply List.ext_getElem?
  intro i
  by_cases hi : i < xs.length
  · rw [markTo_at k (m + 1) xs i hi, List.getElem?_set]
    by_cases e : m = i
    · subst e; simp [markTo_len, hi]
    · rw [if_neg e, markTo_at k m xs i hi]
      by_cases h1 : i < m
      · rw [if_pos h1, if_pos (by omega)]
      · rw [if_neg h1, if_neg (by omega)]
  · rw [List.getElem?_eq_none (by rw [List.length_set, markTo_len]; omega), List.getElem?_eq_none (by rw [markTo_len]; omega)]

/-- All n cells numbered from k on. -/
def marked (k : Int) (n : Nat) : List Value := (List.range n).map fun i : Nat => .int .i64 (k + i)

theorem marked_at (k : Int) (n i : Nat) (h : i < n) : (marked k n)[i]? = some (.int .i64 (k + i)) := by
  simp [marked, List.getElem?_map, List.getElem?_range h]

theorem markTo_all (k : Int) (n : Nat) (xs : List Value) (h : xs.length = n) : markTo k n xs = marked k n := by
  subst h
  apply List.ext_getElem?
  intro i
  by_cases hi : i < xs.length
  · rw [markTo_at k _ xs i hi, if_pos hi, marked_at k _ i hi]
  · rw [List.getElem?_eq_none (by rw [markTo_len]; omega), List.getElem?_eq_none (by simp [marked]; omega)]

/-- The cells of a list of pairs. -/
def cellsOf (l : List (Int × Int)) : List Value := l.flatMap fun p => [.int .i64 p.1, .int .i64 p.2]

theorem cellsOf_at (l : List (Int × Int)) (i : Nat) (h : i < l.length) : (cellsOf l)[i * 2]? = some (.int .i64 (prAt l i).1) ∧ (cellsOf l)[i * 2 + 1]? = some (.int .i64 (prAt l i).2) := by
  induction l generalizing i with
  | nil => simp at h
  | cons p r ih =>
    cases i with
    | zero => exact ⟨rfl, rfl⟩
    | succ i =>
      have h' : i < r.length := by simpa using h
      have e1 : (i + 1) * 2 = i * 2 + 2 := by omega
      rw [e1]
      exact ih i h'

/-- A slice of the call's own that holds pairs reads as them. -/
theorem own_pairsAt {w : World} {base : Nat} {e : TypeId} {v : Value} {l : List (Int × Int)} (h : w.ownsRow base e 2 v l.length (cellsOf l)) :
    ∃ A c, v = .slice A l.length c ∧ PairsAt w A l := by
  rcases h.2 with ⟨rfl, h0⟩ | ⟨g, cap, cur, rfl, hb, hh, _⟩
  · rw [h0]
    exact ⟨none, 0, rfl, fun hp => absurd hp (by omega)⟩
  · refine ⟨_, cap, rfl, fun _ => ⟨g, 0, rfl, (Array.getElem?_eq_some_iff.1 hh).1, fun i hi => ?_⟩⟩
    obtain ⟨c1, c2⟩ := cellsOf_at l i hi
    rw [Nat.zero_add]
    exact ⟨(h.cellAt (i * 2) (by omega)).trans c1, (h.cellAt (i * 2 + 1) (by omega)).trans c2⟩

theorem some_of_lt {α : Type} (l : List α) (i : Nat) (h : i < l.length) : ∃ u, l[i]? = some u := ⟨l[i], List.getElem?_eq_getElem h⟩

theorem grown_of_below {w w' : World} (h : Below w.heap.size w w') (row : Option Nat) : w.grownBy w' row :=
  ⟨h.os, h.tape, h.output, h.size, fun k hk _ => h.block k hk⟩

theorem own_below {w w' : World} {base : Nat} {e : TypeId} {size n : Nat} {v : Value} {xs : List Value} (h : w.ownsRow base e size v n xs) (hb : Below w.heap.size w w') : w'.ownsRow base e size v n xs :=
  h.kept (grown_of_below hb none) (by cases v.ownBlock <;> simp)

theorem own_le {w : World} {base base' : Nat} {e : TypeId} {size n : Nat} {v : Value} {xs : List Value} (h : w.ownsRow base e size v n xs) (hb : base' ≤ base) : w.ownsRow base' e size v n xs :=
  ⟨h.1, h.2.imp id fun ⟨g, cap, cur, hv, hg, r⟩ => ⟨g, cap, cur, hv, Nat.le_trans hb hg, r⟩⟩

/-- What was below a block stays so while a row from this block on is written. -/
theorem below_own {a w w' : World} {B base : Nat} {e : TypeId} {size n : Nat} {v : Value} {xs : List Value} (hb : Below B a w) (h : w.ownsRow base e size v n xs) (hB : B ≤ base) (hw : B ≤ w.heap.size) (hg : w.grownBy w' v.ownBlock) : Below B a w' :=
  hb.grown hg hw (fun k hk => Nat.le_trans hB (h.lt k hk).1)

theorem grownBy_trans {a b c : World} {row : Option Nat} (h : a.grownBy b row) (k : b.grownBy c row) : a.grownBy c row :=
  ⟨k.os.trans h.os, k.tape.trans h.tape, k.output.trans h.output, Nat.le_trans h.size k.size, fun i hi hr => (k.block i (Nat.lt_of_lt_of_le hi h.size) hr).trans (h.block i hi hr)⟩
end Go.Proofs.Ythjkogighppeaaa
end

section
namespace Go.Proofs.Ythjkogighppeaaa
open Go.RowKit

/-- The number at a place of a list. -/
def itAt (l : List Int) (i : Nat) : Int := l.getD i 0

def icells (l : List Int) : List Value := l.map (Value.int .i64)

theorem icells_at (l : List Int) (i : Nat) (h : i < l.length) : (icells l)[i]? = some (.int .i64 (itAt l i)) := by
  simp [icells, itAt, h]
theorem icells_len (l : List Int) : (icells l).length = l.length := by simp [icells]
theorem icells_append (a b : List Int) : icells (a ++ b) = icells a ++ icells b := by simp [icells]
theorem itAt_get (l : List Int) (i : Nat) (h : i < l.length) : itAt l i = l[i] := by simp [itAt, h]

/-- A slice's address, at which the numbers of a list lie one behind the other. -/
def IntsAt (w : World) (A : Option Addr) (l : List Int) : Prop :=
  0 < l.length → ∃ b off, A = some ⟨b, off, none⟩ ∧ b < w.heap.size ∧ ∀ i, i < l.length → w.cell? ⟨b, off + i, none⟩ = some (.int .i64 (itAt l i))

theorem IntsAt.below {w w' : World} {A : Option Addr} {l : List Int} (h : IntsAt w A l) (hb : Below w.heap.size w w') : IntsAt w' A l := by
  intro hl
  obtain ⟨b, off, rfl, hlt, hc⟩ := h hl
  exact ⟨b, off, rfl, Nat.lt_of_lt_of_le hlt hb.size, fun i hi => (hb.cell (p := ⟨b, off + i, none⟩) hlt).trans (hc i hi)⟩

/-- A new slice of the numbers. -/
def NewInts (l : List Int) (w : World) (e : Ending) (w' : World) : Prop :=
  ∃ v, e = .returned v ∧ w'.ownsRow w.heap.size 3 1 v l.length (icells l) ∧ Below w.heap.size w w'

theorem own_intsAt {w : World} {base : Nat} {e : TypeId} {v : Value} {l : List Int} (h : w.ownsRow base e 1 v l.length (icells l)) :
    ∃ A c, v = .slice A l.length c ∧ IntsAt w A l := by
  rcases h.2 with ⟨rfl, h0⟩ | ⟨g, cap, cur, rfl, hb, hh, _⟩
  · rw [h0]
    exact ⟨none, 0, rfl, fun hp => absurd hp (by omega)⟩
  · refine ⟨_, cap, rfl, fun _ => ⟨g, 0, rfl, (Array.getElem?_eq_some_iff.1 hh).1, fun i hi => ?_⟩⟩
    rw [Nat.zero_add]
    exact (h.cellAt i (by omega)).trans (icells_at l i hi)

theorem newInts_nil (w : World) : NewInts [] w (.returned (.slice none 0 0)) w :=
  ⟨_, rfl, World.ownsRow_nil w _ _ _, Below.refl _ _⟩

theorem idiffer_at {xs ys : List Int} (k : Nat) (h : ¬ itAt xs k = itAt ys k) : decide (xs = ys) = false := by
  simp only [decide_eq_false_iff_not]
  intro e
  exact h (by rw [e])

theorem isame_all {xs ys : List Int} (hl : xs.length = ys.length) (h : xs.take xs.length = ys.take xs.length) : decide (xs = ys) = true := by
  rw [List.take_length, hl, List.take_length] at h
  simpa using h

theorem itake_next {xs : List Int} {k : Nat} (h : k < xs.length) : xs.take (k + 1) = xs.take k ++ [itAt xs k] := by
  rw [List.take_succ_eq_append_getElem h, itAt_get xs k h]

end Go.Proofs.Ythjkogighppeaaa
end

section
namespace Go.Proofs.Ythjkogighppeaaa
open Go.RowKit

/-- What a cell holds: a plain value, or a row of cells of an element type. -/
inductive Mem where
  | cell : Value → Mem
  | row : TypeId → Nat → List Mem → Mem

mutual
/-- A value reads as a tree. -/
inductive At (w : World) : Value → Mem → Prop
  | cell (u : Value) : At w u (.cell u)
  | nil (A : Option Addr) (c : Nat) (e : TypeId) (size : Nat) (h0 : size = 4 ∨ size = 3 → A = none → c = 0) : At w (.slice A 0 c) (.row e size [])
  | row {b off n c : Nat} {e : TypeId} {size : Nat} {xs : List Value} {ms : List Mem} (hn : 0 < n) (hl : ms.length = n * size) (hb : b < w.heap.size)
      (hc : ∀ j u, xs[j]? = some u → w.cell? ⟨b, off + j, none⟩ = some u) (h : AtL w xs ms) : At w (.slice (some ⟨b, off, none⟩) n c) (.row e size ms)
inductive AtL (w : World) : List Value → List Mem → Prop
  | nil : AtL w [] []
  | cons {v : Value} {m : Mem} {vs : List Value} {ms : List Mem} (h : At w v m) (k : AtL w vs ms) : AtL w (v :: vs) (m :: ms)
end

mutual
theorem At.keep {w w' : World} (hb : Below w.heap.size w w') : ∀ {v : Value} {m : Mem}, At w v m → At w' v m
  | _, _, .cell u => .cell u
  | _, _, .nil A c e size h0 => .nil A c e size h0
  | _, _, .row (b := b) (off := off) hn hl hlt hc h => .row hn hl (Nat.lt_of_lt_of_le hlt hb.size) (fun j u hj => (hb.cell (p := ⟨b, off + j, none⟩) hlt).trans (hc j u hj)) (h.keep hb)
theorem AtL.keep {w w' : World} (hb : Below w.heap.size w w') : ∀ {vs : List Value} {ms : List Mem}, AtL w vs ms → AtL w' vs ms
  | _, _, .nil => .nil
  | _, _, .cons h k => .cons (h.keep hb) (k.keep hb)
end

theorem AtL.len {w : World} : ∀ {vs : List Value} {ms : List Mem}, AtL w vs ms → vs.length = ms.length
  | _, _, .nil => rfl
  | _, _, .cons _ k => by rw [List.length_cons, List.length_cons, k.len]

theorem AtL.get {w : World} : ∀ {vs : List Value} {ms : List Mem}, AtL w vs ms → ∀ (j : Nat) (m : Mem), ms[j]? = some m → ∃ u, vs[j]? = some u ∧ At w u m
  | _, _, .nil, j, m, h => by simp at h
  | _, _, .cons (v := v) h0 k, 0, m, h => by
    simp at h
    subst h
    exact ⟨v, rfl, h0⟩
  | _, _, .cons _ k, j + 1, m, h => by
    simp at h
    obtain ⟨u, hu, ha⟩ := k.get j m h
    exact ⟨u, by simpa using hu, ha⟩

theorem At.cell_eq {w : World} {u v : Value} (h : At w v (.cell u)) : v = u := by
  cases h; rfl

/-- The cell of a row. -/
theorem At.get {w : World} {A : Option Addr} {n c : Nat} {e : TypeId} {size : Nat} {ms : List Mem} (h : At w (.slice A n c) (.row e size ms)) (hp : 0 < n) :
    ∃ b off, A = some ⟨b, off, none⟩ ∧ b < w.heap.size ∧ ∀ j m, ms[j]? = some m → ∃ u, w.cell? ⟨b, off + j, none⟩ = some u ∧ At w u m := by
  cases h with
  | nil => omega
  | row hn hl hb hc h =>
    refine ⟨_, _, rfl, hb, fun j m hj => ?_⟩
    obtain ⟨u, hu, ha⟩ := h.get j m hj
    exact ⟨u, hc j u hu, ha⟩

theorem At.form {w : World} {v : Value} {e : TypeId} {size : Nat} {ms : List Mem} (h : At w v (.row e size ms)) : ∃ A n c, v = .slice A n c ∧ ms.length = n * size := by
  cases h with
  | nil A c => exact ⟨A, 0, c, rfl, by simp⟩
  | row hn hl hb hc h => exact ⟨_, _, _, rfl, hl⟩

mutual
/-- A value owns a tree: its rows lie in the blocks S, each in one of its own. -/
inductive Own (w : World) : List Nat → Value → Mem → Prop
  | cell (u : Value) : Own w [] u (.cell u)
  | nil (e : TypeId) (size : Nat) : Own w [] (.slice none 0 0) (.row e size [])
  | row {g n cap : Nat} {e : TypeId} {size : Nat} {xs : List Value} {ms : List Mem} {S : List Nat} (hl : ms.length = n * size) (ho : w.ownsRow 0 e size (.slice (some ⟨g, 0, none⟩) n cap) n xs) (h : OwnL w S xs ms) (hg : g ∉ S) :
      Own w (g :: S) (.slice (some ⟨g, 0, none⟩) n cap) (.row e size ms)
inductive OwnL (w : World) : List Nat → List Value → List Mem → Prop
  | nil : OwnL w [] [] []
  | cons {v : Value} {m : Mem} {vs : List Value} {ms : List Mem} {S T : List Nat} (h : Own w S v m) (k : OwnL w T vs ms) (hd : ∀ b ∈ S, b ∉ T) : OwnL w (S ++ T) (v :: vs) (m :: ms)
end

theorem ownsRow_alike {w w' : World} {base : Nat} {e : TypeId} {size g n cap : Nat} {xs : List Value} (h : w.ownsRow base e size (.slice (some ⟨g, 0, none⟩) n cap) n xs) (hk : w'.heap[g]? = w.heap[g]?) :
    w'.ownsRow base e size (.slice (some ⟨g, 0, none⟩) n cap) n xs := by
  refine ⟨h.1, ?_⟩
  rcases h.2 with ⟨h', _⟩ | ⟨g', cap', cur, e0, hb, hgg, rest⟩
  · cases h'
  · injection e0 with e1 _ e3
    injection e1 with e1
    injection e1 with e1
    subst e1; subst e3
    exact .inr ⟨g, cap, cur, rfl, hb, hk.trans hgg, rest⟩

mutual
theorem Own.alike {w w' : World} : ∀ {S : List Nat} {v : Value} {m : Mem}, Own w S v m → (∀ b ∈ S, w'.heap[b]? = w.heap[b]?) → Own w' S v m
  | _, _, _, .cell u, _ => .cell u
  | _, _, _, .nil e size, _ => .nil e size
  | _, _, _, .row hl ho h hg, hk => .row hl (ownsRow_alike ho (hk _ List.mem_cons_self)) (h.alike fun b hb => hk b (List.mem_cons_of_mem _ hb)) hg
theorem OwnL.alike {w w' : World} : ∀ {S : List Nat} {vs : List Value} {ms : List Mem}, OwnL w S vs ms → (∀ b ∈ S, w'.heap[b]? = w.heap[b]?) → OwnL w' S vs ms
  | _, _, _, .nil, _ => .nil
  | _, _, _, .cons h k hd, hk => .cons (h.alike fun b hb => hk b (List.mem_append_left _ hb)) (k.alike fun b hb => hk b (List.mem_append_right _ hb)) hd
end

mutual
theorem Own.lt {w : World} : ∀ {S : List Nat} {v : Value} {m : Mem}, Own w S v m → ∀ b ∈ S, b < w.heap.size
  | _, _, _, .cell u, b, hb => by simp at hb
  | _, _, _, .nil e size, b, hb => by simp at hb
  | _, _, _, .row hl ho h hg, b, hb => by
    rcases List.mem_cons.1 hb with e | e
    · subst e; exact (ho.lt _ rfl).2
    · exact h.lt b e
theorem OwnL.lt {w : World} : ∀ {S : List Nat} {vs : List Value} {ms : List Mem}, OwnL w S vs ms → ∀ b ∈ S, b < w.heap.size
  | _, _, _, .nil, b, hb => by simp at hb
  | _, _, _, .cons h k hd, b, hb => by
    rcases List.mem_append.1 hb with e | e
    · exact h.lt b e
    · exact k.lt b e
end

theorem Own.keep {w w' : World} {S : List Nat} {v : Value} {m : Mem} (h : Own w S v m) (hb : Below w.heap.size w w') : Own w' S v m :=
  h.alike fun b hb' => hb.block b (h.lt b hb')

theorem OwnL.len {w : World} : ∀ {S : List Nat} {vs : List Value} {ms : List Mem}, OwnL w S vs ms → vs.length = ms.length
  | _, _, _, .nil => rfl
  | _, _, _, .cons _ k _ => by rw [List.length_cons, List.length_cons, k.len]

mutual
theorem Own.at_ {w : World} : ∀ {S : List Nat} {v : Value} {m : Mem}, Own w S v m → At w v m
  | _, _, _, .cell u => .cell u
  | _, _, _, .nil e size => .nil none 0 e size (fun _ _ => rfl)
  | _, _, _, .row (g := g) (n := n) (cap := cap) (e := e) (size := size) (xs := xs) hl ho h hg => by
    rcases Nat.eq_zero_or_pos n with h0 | h0
    · subst h0
      have : ∀ l : List Mem, l.length = 0 * size → l = [] := fun l hl => List.eq_nil_of_length_eq_zero (by simpa using hl)
      rw [this _ hl]
      exact .nil _ _ _ _ (fun _ h => by cases h)
    · refine .row h0 hl (ho.lt g rfl).2 (fun j u hj => ?_) h.at_
      rw [Nat.zero_add]
      have := ho.cells (g := g) rfl j u hj
      have hadd : (⟨g, 0, none⟩ : Addr).add j = ⟨g, j, none⟩ := by unfold Addr.add; split <;> simp_all
      rwa [hadd] at this
theorem OwnL.at_ {w : World} : ∀ {S : List Nat} {vs : List Value} {ms : List Mem}, OwnL w S vs ms → AtL w vs ms
  | _, _, _, .nil => .nil
  | _, _, _, .cons h k _ => .cons h.at_ k.at_
end

/-- One cell of a row looked at by itself, and put back changed. -/
theorem OwnL.focus {w : World} : ∀ {S : List Nat} {vs : List Value} {ms : List Mem}, OwnL w S vs ms → ∀ (j : Nat) (m : Mem), ms[j]? = some m →
    ∃ u T, vs[j]? = some u ∧ Own w T u m ∧ (∀ b ∈ T, b ∈ S) ∧ ∀ (w' : World) (m' : Mem), (∀ b ∈ S, b ∉ T → w'.heap[b]? = w.heap[b]?) → Own w' T u m' → OwnL w' S vs (ms.set j m')
  | _, _, _, .nil, j, m, h => by simp at h
  | _, _, _, .cons (v := v) (S := S) (T := T) h0 k hd, 0, m, h => by
    simp at h
    subst h
    refine ⟨v, S, rfl, h0, fun b hb => List.mem_append_left _ hb, fun w' m' hk hm => ?_⟩
    exact .cons hm (k.alike fun b hb => hk b (List.mem_append_right _ hb) fun hs => hd b hs hb) hd
  | _, _, _, .cons (S := S) (T := T) h0 k hd, j + 1, m, h => by
    simp at h
    obtain ⟨u, T', hu, ho, hs, hput⟩ := k.focus j m h
    refine ⟨u, T', by simpa using hu, ho, fun b hb => List.mem_append_right _ (hs b hb), fun w' m' hk hm => ?_⟩
    exact .cons (h0.alike fun b hb => hk b (List.mem_append_left _ hb) fun ht => hd b hb (hs b ht)) (hput w' m' (fun b hb hn => hk b (List.mem_append_right _ hb) hn) hm) hd

/-- A plain cell of a list of cells gets another value. -/
theorem OwnL.setCell {w : World} : ∀ {S : List Nat} {vs : List Value} {ms : List Mem}, OwnL w S vs ms → ∀ (j : Nat) (u u' : Value), ms[j]? = some (.cell u) → OwnL w S (vs.set j u') (ms.set j (.cell u'))
  | _, _, _, .nil, j, u, u', h => by simp at h
  | _, _, _, .cons (T := T) h0 k hd, 0, u, u', h => by
    simp at h
    subst h
    cases h0
    exact .cons (.cell u') k hd
  | _, _, _, .cons h0 k hd, j + 1, u, u', h => by
    simp at h
    exact .cons h0 (k.setCell j u u' h) hd

/-- A cell that owns nothing gets a value with a tree of its own. -/
theorem OwnL.fill {w : World} {R : List Nat} {u' : Value} {m' : Mem} (hn : Own w R u' m') : ∀ {S : List Nat} {vs : List Value} {ms : List Mem}, OwnL w S vs ms → (∀ b ∈ R, b ∉ S) → ∀ (j : Nat) (u : Value) (m : Mem), vs[j]? = some u → ms[j]? = some m → (∀ T, Own w T u m → T = []) →
    ∃ S', OwnL w S' (vs.set j u') (ms.set j m') ∧ ∀ b, b ∈ S' ↔ b ∈ R ∨ b ∈ S
  | _, _, _, .nil, _, j, u, m, _, h, _ => by simp at h
  | _, _, _, .cons (S := S) (T := T) h0 k hd, hr, 0, u, m, hu, hm, he => by
    simp at hu hm
    subst hu; subst hm
    have e := he _ h0
    subst e
    refine ⟨R ++ T, .cons hn k fun b hb ht => hr b hb (List.mem_append_right _ ht), fun b => ?_⟩
    rw [List.nil_append, List.mem_append]
  | _, _, _, .cons (S := S) (T := T) h0 k hd, hr, j + 1, u, m, hu, hm, he => by
    simp at hu hm
    obtain ⟨S', h1, h2⟩ := k.fill hn (fun b hb ht => hr b hb (List.mem_append_right _ ht)) j u m hu hm he
    refine ⟨S ++ S', .cons h0 h1 (fun b hb hs => ?_), fun b => ?_⟩
    · rcases (h2 b).1 hs with h | h
      · exact hr b h (List.mem_append_left _ hb)
      · exact hd b hb h
    · rw [List.mem_append, List.mem_append, h2]
      constructor
      · rintro (h | h | h)
        · exact .inr (.inl h)
        · exact .inl h
        · exact .inr (.inr h)
      · rintro (h | h | h)
        · exact .inr (.inl h)
        · exact .inl h
        · exact .inr (.inr h)

/-- Behind a row more cells. -/
theorem OwnL.append {w : World} : ∀ {S T : List Nat} {vs us : List Value} {ms ns : List Mem}, OwnL w S vs ms → OwnL w T us ns → (∀ b ∈ S, b ∉ T) → OwnL w (S ++ T) (vs ++ us) (ms ++ ns)
  | _, _, _, _, _, _, .nil, k, _ => k
  | _, _, _, _, _, _, .cons (S := S) (T := T) h k' hd, k, hn => by
    rw [List.append_assoc, List.cons_append, List.cons_append]
    refine .cons h (k'.append k fun b hb => hn b (List.mem_append_right _ hb)) fun b hb ht => ?_
    rcases List.mem_append.1 ht with e | e
    · exact hd b hb e
    · exact hn b (List.mem_append_left _ hb) e

theorem ownL_cells (w : World) : ∀ vs : List Value, OwnL w [] vs (vs.map .cell)
  | [] => .nil
  | v :: r => .cons (S := []) (.cell v) (ownL_cells w r) (fun b hb => by simp at hb)

theorem atL_cells {w : World} : ∀ {xs vs : List Value}, AtL w xs (vs.map .cell) → xs = vs
  | _, [], h => by cases h; rfl
  | _, v :: r, h => by
    cases h with
    | cons h k => rw [h.cell_eq, atL_cells k]
theorem AtL.append {w : World} : ∀ {vs us : List Value} {ms ns : List Mem}, AtL w vs ms → AtL w us ns → AtL w (vs ++ us) (ms ++ ns)
  | _, _, _, _, .nil, k => k
  | _, _, _, _, .cons h k', k => .cons h (k'.append k)

end Go.Proofs.Ythjkogighppeaaa
end

section
namespace Go.Proofs.Ythjkogighppeaaa
open Go.RowKit
set_option linter.unusedVariables false

inductive Fm where
  | mk : Int → Int → Int → List Fm → Fm

def Fm.op : Fm → Int | .mk o _ _ _ => o
def Fm.fa : Fm → Int | .mk _ a _ _ => a
def Fm.fb : Fm → Int | .mk _ _ b _ => b
def Fm.kids : Fm → List Fm | .mk _ _ _ ks => ks
def fm0 : Fm := .mk 0 0 0 []
instance : Inhabited Fm := ⟨fm0⟩

/-- The formula at a place of a list. -/
def fmAt (ts : List Fm) (i : Nat) : Fm := ts.getD i fm0
theorem fmAt_cons_succ (t : Fm) (ts : List Fm) (i : Nat) : fmAt (t :: ts) (i + 1) = fmAt ts i := rfl
theorem fmAt_cons_zero (t : Fm) (ts : List Fm) : fmAt (t :: ts) 0 = t := rfl
theorem fmAt_get (ts : List Fm) (i : Nat) (h : i < ts.length) : fmAt ts i = ts[i] := by simp [fmAt, h]
theorem fm_take_next {ts : List Fm} {k : Nat} (h : k < ts.length) : ts.take (k + 1) = ts.take k ++ [fmAt ts k] := by
  rw [List.take_succ_eq_append_getElem h, fmAt_get ts k h]

mutual
/-- The four cells of a formula. -/
def encFm : Fm → List Mem
  | .mk o a b ks => [.cell (.int .i64 o), .cell (.int .i64 a), .cell (.int .i64 b), .row 34 4 (encFms ks)]
def encFms : List Fm → List Mem
  | [] => []
  | t :: r => encFm t ++ encFms r
end
def fmsMem (ts : List Fm) : Mem := .row 34 4 (encFms ts)
theorem encFm_eq (t : Fm) : encFm t = [.cell (.int .i64 t.op), .cell (.int .i64 t.fa), .cell (.int .i64 t.fb), fmsMem t.kids] := by
  cases t with
  | mk o a b ks => simp [encFm, Fm.op, Fm.fa, Fm.fb, Fm.kids, fmsMem]
theorem encFm_len (t : Fm) : (encFm t).length = 4 := by rw [encFm_eq]; rfl
theorem encFms_len : ∀ ts : List Fm, (encFms ts).length = ts.length * 4
  | [] => by simp [encFms]
  | t :: r => by rw [encFms, List.length_append, encFm_len, encFms_len r, List.length_cons]; omega
theorem encFms_append : ∀ a b : List Fm, encFms (a ++ b) = encFms a ++ encFms b
  | [], b => by simp [encFms]
  | t :: r, b => by rw [List.cons_append, encFms, encFms, encFms_append r b, List.append_assoc]
theorem encFms_at : ∀ (ts : List Fm) (i j : Nat), i < ts.length → j < 4 → (encFms ts)[i * 4 + j]? = (encFm (fmAt ts i))[j]?
  | [], i, j, h, _ => by simp at h
  | t :: r, 0, j, _, hj => by
    rw [encFms, Nat.zero_mul, Nat.zero_add, List.getElem?_append_left (by rw [encFm_len]; exact hj)]; rfl
  | t :: r, i + 1, j, h, hj => by
    have e : (i + 1) * 4 + j = 4 + (i * 4 + j) := by omega
    rw [encFms, e, List.getElem?_append_right (by rw [encFm_len]; omega), encFm_len, Nat.add_sub_cancel_left]
    exact encFms_at r i j (by simpa using h) hj
theorem encFms_parts {ts : List Fm} {i : Nat} (h : i < ts.length) :
    (encFms ts)[i * 4]? = some (.cell (.int .i64 (fmAt ts i).op)) ∧ (encFms ts)[i * 4 + 1]? = some (.cell (.int .i64 (fmAt ts i).fa)) ∧
    (encFms ts)[i * 4 + 2]? = some (.cell (.int .i64 (fmAt ts i).fb)) ∧ (encFms ts)[i * 4 + 3]? = some (fmsMem (fmAt ts i).kids) := by
  have h0 := encFms_at ts i 0 h (by omega)
  have h1 := encFms_at ts i 1 h (by omega)
  have h2 := encFms_at ts i 2 h (by omega)
  have h3 := encFms_at ts i 3 h (by omega)
  rw [encFm_eq] at h0 h1 h2 h3
  exact ⟨h0, h1, h2, h3⟩

mutual
/-- How many formulas lie within. -/
def szFm : Fm → Nat
  | .mk _ _ _ ks => 1 + szFms ks
def szFms : List Fm → Nat
  | [] => 0
  | t :: r => szFm t + szFms r
end
theorem szFm_eq (t : Fm) : szFm t = 1 + szFms t.kids := by cases t; simp [szFm, Fm.kids]
theorem szFm_at : ∀ {ts : List Fm} {i : Nat}, i < ts.length → szFm (fmAt ts i) ≤ szFms ts
  | [], i, h => by simp at h
  | t :: r, 0, _ => by rw [szFms, fmAt_cons_zero]; omega
  | t :: r, i + 1, h => by
    have := szFm_at (ts := r) (i := i) (by simpa using h)
    rw [szFms, fmAt_cons_succ]; omega
theorem szFms_kid {ts : List Fm} {i : Nat} (h : i < ts.length) : szFms (fmAt ts i).kids < szFms ts := by
  have h1 := szFm_at h
  rw [szFm_eq] at h1
  omega
mutual
/-- How much of the bound a formula takes. -/
def cntFm : Fm → Nat
  | .mk _ _ _ ks => ks.length + sumFm ks
def sumFm : List Fm → Nat
  | [] => 0
  | t :: r => cntFm t + sumFm r
end
theorem cntFm_eq (t : Fm) : cntFm t = t.kids.length + sumFm t.kids := by cases t; simp [cntFm, Fm.kids]
theorem sumFm_append : ∀ a b : List Fm, sumFm (a ++ b) = sumFm a + sumFm b
  | [], b => by simp [sumFm]
  | t :: r, b => by rw [List.cons_append, sumFm, sumFm, sumFm_append r b]; omega
theorem sumFm_next {ts : List Fm} {k : Nat} (h : k < ts.length) : sumFm (ts.take (k + 1)) = sumFm (ts.take k) + cntFm (fmAt ts k) := by
  rw [fm_take_next h, sumFm_append]
  simp [sumFm]
theorem sumFm_take (ts : List Fm) (k : Nat) : sumFm (ts.take k) ≤ sumFm ts := by
  have := sumFm_append (ts.take k) (ts.drop k)
  rw [List.take_append_drop] at this
  omega

/-- A slice value reads as formulas. -/
def FmsIn (w : World) (x : Value) (ts : List Fm) : Prop := At w x (fmsMem ts)
/-- A struct value reads as a formula. -/
def FmIn (w : World) (x : Value) (t : Fm) : Prop :=
  ∃ B d, x = .agg #[.int .i64 t.op, .int .i64 t.fa, .int .i64 t.fb, .slice B t.kids.length d] ∧ FmsIn w (.slice B t.kids.length d) t.kids
theorem FmsIn.below {w w' : World} {x : Value} {ts : List Fm} (h : FmsIn w x ts) (hb : Below w.heap.size w w') : FmsIn w' x ts := At.keep hb h
theorem FmIn.below {w w' : World} {x : Value} {t : Fm} (h : FmIn w x t) (hb : Below w.heap.size w w') : FmIn w' x t := by
  obtain ⟨B, d, e, h2⟩ := h
  exact ⟨B, d, e, h2.below hb⟩
theorem FmsIn.form {w : World} {x : Value} {ts : List Fm} (h : FmsIn w x ts) : ∃ A c, x = .slice A ts.length c := by
  obtain ⟨A, n, c, rfl, hl⟩ := At.form h
  rw [encFms_len] at hl
  have hn : n = ts.length := by omega
  subst hn
  exact ⟨A, c, rfl⟩
theorem atL_fm {w : World} {t : Fm} {kv : Value} (hk : FmsIn w kv t.kids) : AtL w [.int .i64 t.op, .int .i64 t.fa, .int .i64 t.fb, kv] (encFm t) := by
  rw [encFm_eq]
  exact .cons (.cell _) (.cons (.cell _) (.cons (.cell _) (.cons hk .nil)))
/-- The cells of the formula at a place. -/
theorem FmsIn.get {w : World} {A : Option Addr} {n c : Nat} {ts : List Fm} (h : FmsIn w (.slice A n c) ts) (hp : 0 < ts.length) :
    ∃ b off, A = some ⟨b, off, none⟩ ∧ b < w.heap.size ∧ ∀ i, i < ts.length → ∃ B1 d1,
      w.cell? ⟨b, off + i * 4, none⟩ = some (.int .i64 (fmAt ts i).op) ∧ w.cell? ⟨b, off + i * 4 + 1, none⟩ = some (.int .i64 (fmAt ts i).fa) ∧
      w.cell? ⟨b, off + i * 4 + 2, none⟩ = some (.int .i64 (fmAt ts i).fb) ∧ w.cell? ⟨b, off + i * 4 + 3, none⟩ = some (.slice B1 (fmAt ts i).kids.length d1) ∧
      FmsIn w (.slice B1 (fmAt ts i).kids.length d1) (fmAt ts i).kids := by
  obtain ⟨A', c', e⟩ := h.form
  injection e with e1 e2 e3
  subst e2
  obtain ⟨b, off, rfl, hb, hc⟩ := At.get h hp
  refine ⟨b, off, rfl, hb, fun i hi => ?_⟩
  obtain ⟨p0, p1, p2, p3⟩ := encFms_parts hi
  obtain ⟨u0, d0, a0⟩ := hc _ _ p0
  obtain ⟨u1, d1, a1⟩ := hc _ _ p1
  obtain ⟨u2, d2, a2⟩ := hc _ _ p2
  obtain ⟨u3, d3, a3⟩ := hc _ _ p3
  rw [a0.cell_eq] at d0
  rw [a1.cell_eq] at d1
  rw [a2.cell_eq] at d2
  obtain ⟨B1, e1, rfl⟩ := FmsIn.form (ts := (fmAt ts i).kids) a3
  exact ⟨B1, e1, d0, by rw [Nat.add_assoc]; exact d1, by rw [Nat.add_assoc]; exact d2, by rw [Nat.add_assoc]; exact d3, a3⟩

mutual
/-- No list within is longer than the bound. -/
def FitFm : Fm → Prop
  | .mk _ _ _ ks => ks.length ≤ 1048576 ∧ FitFms ks
def FitFms : List Fm → Prop
  | [] => True
  | t :: r => FitFm t ∧ FitFms r
end
theorem fitFm_eq (t : Fm) : FitFm t ↔ t.kids.length ≤ 1048576 ∧ FitFms t.kids := by cases t; simp [FitFm, Fm.kids]
theorem fitFms_at : ∀ {ts : List Fm} {i : Nat}, FitFms ts → i < ts.length → FitFm (fmAt ts i)
  | [], i, _, h => by simp at h
  | t :: r, 0, h, _ => h.1
  | t :: r, i + 1, h, hi => by rw [fmAt_cons_succ]; exact fitFms_at h.2 (by simpa using hi)
mutual
theorem fitFm_of : ∀ t : Fm, cntFm t ≤ 1048576 → FitFm t
  | .mk o a b ks, h => by
    rw [cntFm] at h
    exact ⟨by omega, fitFms_of ks (by omega)⟩
theorem fitFms_of : ∀ ts : List Fm, sumFm ts ≤ 1048576 → FitFms ts
  | [], _ => trivial
  | t :: r, h => by
    rw [sumFm] at h
    exact ⟨fitFm_of t (by omega), fitFms_of r (by omega)⟩
end
mutual
/-- No list within is longer than a slice can be. -/
def ShortFm : Fm → Prop
  | .mk _ _ _ ks => ks.length ≤ maxLen ∧ ShortFms ks
def ShortFms : List Fm → Prop
  | [] => True
  | t :: r => ShortFm t ∧ ShortFms r
end
theorem shortFm_eq (t : Fm) : ShortFm t ↔ t.kids.length ≤ maxLen ∧ ShortFms t.kids := by cases t; simp [ShortFm, Fm.kids]
theorem shortFms_at : ∀ {ts : List Fm} {i : Nat}, ShortFms ts → i < ts.length → ShortFm (fmAt ts i)
  | [], i, _, h => by simp at h
  | t :: r, 0, h, _ => h.1
  | t :: r, i + 1, h, hi => by rw [fmAt_cons_succ]; exact shortFms_at h.2 (by simpa using hi)
theorem shortFms_of : ∀ {ts : List Fm}, (∀ i, i < ts.length → ShortFm (fmAt ts i)) → ShortFms ts
  | [], _ => trivial
  | t :: r, h => ⟨h 0 (by simp), shortFms_of fun i hi => by have := h (i + 1) (by simpa using hi); rwa [fmAt_cons_succ] at this⟩
end Go.Proofs.Ythjkogighppeaaa
end

section
namespace Go.Proofs.Ythjkogighppeaaa
open Go.RowKit

inductive Tm where
  | mk : Int → Int → List (Int × Int) → List Tm → Tm

def Tm.op : Tm → Int | .mk o _ _ _ => o
def Tm.num : Tm → Int | .mk _ n _ _ => n
def Tm.perm : Tm → List (Int × Int) | .mk _ _ p _ => p
def Tm.kids : Tm → List Tm | .mk _ _ _ ks => ks
def tm0 : Tm := .mk 0 0 [] []
mutual
/-- How many terms lie within. -/
def szT : Tm → Nat
  | .mk _ _ _ ks => 1 + szTs ks
def szTs : List Tm → Nat
  | [] => 0
  | t :: r => szT t + szTs r
end

mutual
/-- How much of the bound a term takes. -/
def cntT : Tm → Nat
  | .mk _ _ p ks => p.length + (ks.length + sumT ks)
def sumT : List Tm → Nat
  | [] => 0
  | t :: r => cntT t + sumT r
end

mutual
/-- No list within is longer than the bound. -/
def Fit : Tm → Prop
  | .mk _ _ p ks => p.length ≤ 1048576 ∧ ks.length ≤ 1048576 ∧ Fits ks
def Fits : List Tm → Prop
  | [] => True
  | t :: r => Fit t ∧ Fits r
end

mutual
theorem fit_of : ∀ t : Tm, cntT t ≤ 1048576 → Fit t
  | .mk o n p ks, h => by
    rw [cntT] at h
    exact ⟨by omega, by omega, fits_of ks (by omega)⟩
theorem fits_of : ∀ ts : List Tm, sumT ts ≤ 1048576 → Fits ts
  | [], _ => trivial
  | t :: r, h => by
    rw [sumT] at h
    exact ⟨fit_of t (by omega), fits_of r (by omega)⟩
end
end Go.Proofs.Ythjkogighppeaaa
end

section
namespace Go.Proofs.Ythjkogighppeaaa
open Go.RowKit
set_option linter.unusedVariables false

def intMem (l : List Int) : Mem := .row 3 1 ((icells l).map .cell)
def encR (ls : List (List Int)) : List Mem := ls.map intMem
def rowsMem (ls : List (List Int)) : Mem := .row 26 1 (encR ls)
/-- The row at a place. -/
def rwAt (ls : List (List Int)) (i : Nat) : List Int := ls.getD i []

theorem rwAt_get (ls : List (List Int)) (i : Nat) (h : i < ls.length) : rwAt ls i = ls[i] := by simp [rwAt, h]
theorem rwAt_cons_succ (t : List Int) (ts : List (List Int)) (i : Nat) : rwAt (t :: ts) (i + 1) = rwAt ts i := rfl
theorem rwAt_cons_zero (t : List Int) (ts : List (List Int)) : rwAt (t :: ts) 0 = t := rfl
theorem rw_take_next {ls : List (List Int)} {k : Nat} (h : k < ls.length) : ls.take (k + 1) = ls.take k ++ [rwAt ls k] := by
  rw [List.take_succ_eq_append_getElem h, rwAt_get ls k h]
theorem rw_drop {ls : List (List Int)} {k : Nat} (h : k < ls.length) : ls.drop k = rwAt ls k :: ls.drop (k + 1) := by
  rw [List.drop_eq_getElem_cons h, rwAt_get ls k h]
theorem encR_len (ls : List (List Int)) : (encR ls).length = ls.length := by simp [encR]
theorem encR_append (a b : List (List Int)) : encR (a ++ b) = encR a ++ encR b := by simp [encR]
theorem encR_at {ls : List (List Int)} {i : Nat} (h : i < ls.length) : (encR ls)[i]? = some (intMem (rwAt ls i)) := by
  unfold encR
  rw [List.getElem?_map, List.getElem?_eq_getElem h, rwAt_get ls i h]; rfl

/-- How much of a bound rows take. -/
def sumR : List (List Int) → Nat
  | [] => 0
  | l :: r => l.length + sumR r
theorem sumR_append : ∀ a b : List (List Int), sumR (a ++ b) = sumR a + sumR b
  | [], b => by simp [sumR]
  | l :: r, b => by rw [List.cons_append, sumR, sumR, sumR_append r b]; omega
theorem sumR_next {ls : List (List Int)} {k : Nat} (h : k < ls.length) : sumR (ls.take (k + 1)) = sumR (ls.take k) + (rwAt ls k).length := by
  rw [rw_take_next h, sumR_append]
  simp [sumR]
theorem sumR_take (ls : List (List Int)) (k : Nat) : sumR (ls.take k) ≤ sumR ls := by
  have := sumR_append (ls.take k) (ls.drop k)
  rw [List.take_append_drop] at this
  omega
theorem sumR_at : ∀ {ls : List (List Int)} {i : Nat}, i < ls.length → (rwAt ls i).length ≤ sumR ls
  | [], i, h => by simp at h
  | t :: r, 0, _ => by rw [sumR, rwAt_cons_zero]; omega
  | t :: r, i + 1, h => by
    have := sumR_at (ls := r) (i := i) (by simpa using h)
    rw [sumR, rwAt_cons_succ]; omega

/-- A slice value reads as rows. -/
def RowsIn (w : World) (x : Value) (ls : List (List Int)) : Prop := At w x (rowsMem ls)
theorem RowsIn.below {w w' : World} {x : Value} {ls : List (List Int)} (h : RowsIn w x ls) (hb : Below w.heap.size w w') : RowsIn w' x ls := At.keep hb h
theorem RowsIn.form {w : World} {x : Value} {ls : List (List Int)} (h : RowsIn w x ls) : ∃ A c, x = .slice A ls.length c := by
  obtain ⟨A, n, c, rfl, hl⟩ := At.form h
  rw [encR_len] at hl
  have hn : n = ls.length := by omega
  subst hn
  exact ⟨A, c, rfl⟩

theorem at_intRow {w : World} {v : Value} {l : List Int} (h : At w v (intMem l)) : ∃ A c, v = .slice A l.length c ∧ IntsAt w A l := by
  obtain ⟨A, n, c, rfl, hl⟩ := At.form h
  rw [List.length_map, icells_len] at hl
  have hn : n = l.length := by omega
  subst hn
  refine ⟨A, c, rfl, fun hp => ?_⟩
  obtain ⟨b, off, rfl, hb, hc⟩ := At.get h hp
  refine ⟨b, off, rfl, hb, fun i hi => ?_⟩
  obtain ⟨u1, d1, a1⟩ := hc i (.cell (.int .i64 (itAt l i))) (by rw [List.getElem?_map, icells_at l i hi]; rfl)
  rw [a1.cell_eq] at d1
  exact d1

theorem int_atRow {w : World} {A : Option Addr} {c : Nat} {l : List Int} (h : IntsAt w A l) : At w (.slice A l.length c) (intMem l) := by
  unfold intMem
  rcases Nat.eq_zero_or_pos l.length with h0 | h0
  · have e : l = [] := List.eq_nil_of_length_eq_zero h0
    subst e
    exact .nil _ _ _ _ (fun h => by simp at h)
  · obtain ⟨b, off, rfl, hb, hc⟩ := h h0
    have hA : ∀ vs : List Value, AtL w vs (vs.map .cell) := by
      intro vs
      induction vs with
      | nil => exact .nil
      | cons v r ih => exact .cons (.cell v) ih
    refine .row h0 (by rw [List.length_map, icells_len, Nat.mul_one]) hb (xs := icells l) (fun j u hj => ?_) (hA _)
    have hlt : j < l.length := by
      rcases Nat.lt_or_ge j l.length with h1 | h1
      · exact h1
      · rw [List.getElem?_eq_none (by rw [icells_len]; exact h1)] at hj; cases hj
    rw [icells_at l j hlt] at hj
    injection hj with hj
    rw [← hj]
    exact hc j hlt

/-- The cell of the row at a place. -/
theorem RowsIn.get {w : World} {A : Option Addr} {n c : Nat} {ls : List (List Int)} (h : RowsIn w (.slice A n c) ls) (hp : 0 < ls.length) :
    ∃ b off, A = some ⟨b, off, none⟩ ∧ b < w.heap.size ∧ ∀ i, i < ls.length → ∃ A1 c1, w.cell? ⟨b, off + i, none⟩ = some (.slice A1 (rwAt ls i).length c1) ∧ IntsAt w A1 (rwAt ls i) := by
  obtain ⟨A', c', e⟩ := h.form
  injection e with e1 e2 e3
  subst e2
  obtain ⟨b, off, rfl, hb, hc⟩ := At.get h hp
  refine ⟨b, off, rfl, hb, fun i hi => ?_⟩
  obtain ⟨u, d, a⟩ := hc i _ (encR_at hi)
  obtain ⟨A1, c1, rfl, hA⟩ := at_intRow a
  exact ⟨A1, c1, d, hA⟩

/-- Numbers of the call's own, as a tree. -/
theorem own_intRow {w : World} {base : Nat} {v : Value} {l : List Int} (h : w.ownsRow base 3 1 v l.length (icells l)) :
    ∃ S, Own w S v (intMem l) ∧ (∀ b ∈ S, base ≤ b) ∧ S = v.ownBlock.toList := by
  rcases h.2 with ⟨rfl, h0⟩ | ⟨g, cap, cur, rfl, hb, hg, hn, hm, hs, ht⟩
  · have e : l = [] := List.eq_nil_of_length_eq_zero h0
    subst e
    exact ⟨[], .nil _ _, fun b hb => by simp at hb, rfl⟩
  · refine ⟨[g], .row (by rw [List.length_map, icells_len, Nat.mul_one]) ⟨h.1, .inr ⟨g, cap, cur, rfl, Nat.zero_le _, hg, hn, hm, hs, ht⟩⟩ (ownL_cells w _) (by simp), fun b hb' => ?_, rfl⟩
    simp at hb'
    omega

theorem ownL_plain {w : World} : ∀ {vs : List Value} {T : List Nat} {us : List Value}, OwnL w T us (vs.map .cell) → T = []
  | [], _, _, h => by cases h; rfl
  | v :: r, _, _, h => by
    cases h with
    | cons h k hd =>
      cases h
      rw [ownL_plain k]; rfl

/-- What owns cells, as a row of the call's own. -/
theorem cellRow_own {w : World} {S : List Nat} {v : Value} {n : Nat} {vs : List Value} {e : TypeId} (hn : vs.length = n) (h : Own w S v (.row e 1 (vs.map .cell))) : w.ownsRow 0 e 1 v n vs ∧ S = v.ownBlock.toList := by
  subst hn
  generalize hm : vs.map Mem.cell = ms at h
  cases h with
  | nil =>
    have e : vs = [] := by simpa using hm
    subst e
    exact ⟨World.ownsRow_nil w _ _ _, rfl⟩
  | row hl ho hL hg =>
    subst hm
    rw [List.length_map] at hl
    rename_i n cap xs S'
    have en : n = vs.length := by omega
    subst en
    have ex := atL_cells hL.at_
    subst ex
    refine ⟨ho, ?_⟩
    rw [ownL_plain hL]
    rfl
theorem cellRow_of {w : World} {v : Value} {n base : Nat} {vs : List Value} {e : TypeId} (h : w.ownsRow base e 1 v n vs) : Own w v.ownBlock.toList v (.row e 1 (vs.map .cell)) := by
  rcases h.2 with ⟨rfl, h0⟩ | ⟨g, cap, cur, rfl, hb, hg, hn, hm, hs, ht⟩
  · have e : vs = [] := List.eq_nil_of_length_eq_zero (by have := h.1; omega)
    subst e
    exact .nil _ _
  · exact .row (by rw [List.length_map]; exact h.1) ⟨h.1, .inr ⟨g, cap, cur, rfl, Nat.zero_le _, hg, hn, hm, hs, ht⟩⟩ (ownL_cells w _) (by simp)

theorem own_nilcap {w : World} {S : List Nat} {n c : Nat} {l : List Int} (h : Own w S (.slice none n c) (intMem l)) : c = 0 := by
  rcases (cellRow_own (icells_len l) h).1.2 with ⟨e, _⟩ | ⟨g, cap, cur, e, _⟩
  · injection e
  · cases e
/-- Rows of the call's own. -/
theorem own_rows {w : World} {S : List Nat} {v : Value} {n : Nat} {ms : List Mem} (hn : ms.length = n) (h : Own w S v (.row 26 1 ms)) (hp : 0 < n) :
    ∃ g cap xs S', S = g :: S' ∧ v = .slice (some ⟨g, 0, none⟩) n cap ∧ w.ownsRow 0 26 1 (.slice (some ⟨g, 0, none⟩) n cap) n xs ∧ OwnL w S' xs ms ∧ g ∉ S' := by
  subst hn
  cases h with
  | nil => simp at hp
  | row hl ho hL hg =>
    rename_i g n cap xs S'
    have en : n = ms.length := by omega
    subst en
    exact ⟨g, cap, xs, S', rfl, rfl, ho, hL, hg⟩

/-- Rows in memory of the call's own. -/
def RowsOut (ls : List (List Int)) (w : World) (e : Ending) (w' : World) : Prop :=
  ∃ v S, e = .returned v ∧ Own w' S v (rowsMem ls) ∧ (∀ b ∈ S, w.heap.size ≤ b) ∧ Below w.heap.size w w'

/-- Numbers, or nil without room. -/
def ConstAtR (w : World) (A : Option Addr) (c : Nat) (l : List Int) : Prop := IntsAt w A l ∧ (A = none → c = 0)
/-- No row is longer than a bound, nor are there more. -/
def FitR (ls : List (List Int)) : Prop := ls.length ≤ 2097152 ∧ ∀ i, i < ls.length → (rwAt ls i).length ≤ 2097152
theorem fitR_of {ls : List (List Int)} (h : ls.length + sumR ls ≤ 2097152) : FitR ls := ⟨by omega, fun i hi => by have := sumR_at hi; omega⟩
/-- Rows numbered from k on. -/
def mkRow (k : Int) : List (List Int) → List Mem
  | [] => []
  | l :: r => .row 3 1 ((marked k l.length).map .cell) :: mkRow (k + l.length) r
theorem mkR_len : ∀ (ls : List (List Int)) (k : Int), (mkRow k ls).length = ls.length
  | [], _ => rfl
  | _ :: r, k => by rw [mkRow, List.length_cons, List.length_cons, mkR_len r]
theorem mkR_append : ∀ (a b : List (List Int)) (k : Int), mkRow k (a ++ b) = mkRow k a ++ mkRow (k + sumR a) b
  | [], b, k => by simp [mkRow, sumR]
  | l :: r, b, k => by
    rw [List.cons_append, mkRow, mkRow, mkR_append r b, sumR, List.cons_append]
    congr 3
    omega
theorem mkR_next {ls : List (List Int)} {i : Nat} (h : i < ls.length) (k : Int) : mkRow k (ls.take (i + 1)) = mkRow k (ls.take i) ++ [.row 3 1 ((marked (k + sumR (ls.take i)) (rwAt ls i).length).map .cell)] := by
  rw [rw_take_next h, mkR_append]
  rfl
theorem mkR_at : ∀ (ls : List (List Int)) (k : Int) (i : Nat), i < ls.length → (mkRow k ls)[i]? = some (.row 3 1 ((marked (k + sumR (ls.take i)) (rwAt ls i).length).map .cell))
  | [], k, i, h => by simp at h
  | l :: r, k, 0, _ => by simp [mkRow, sumR, rwAt]
  | l :: r, k, i + 1, h => by
    rw [mkRow, List.getElem?_cons_succ, mkR_at r _ i (by simpa using h), List.take_succ_cons, sumR, rwAt_cons_succ]
    congr 4
    omega
theorem marked_len (k : Int) (n : Nat) : (marked k n).length = n := by simp [marked]
end Go.Proofs.Ythjkogighppeaaa
end

