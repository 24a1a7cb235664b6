/-
  Plain words for lists of pairs in memory: no program is walked here. Plain words for lists of integers in memory. Slices within slices: what lies behind a value, as a tree of rows; plain words, no program is walked here. Index terms as trees, how they lie in memory, and their counts; plain words, no program is walked here. Terms as trees, how they lie in memory, and their counts; plain words, no program is walked here.
-/
import Derived.Test.YtihijigbdpjcoaaRows
import Derived.WalkKit
import Derived.Lib.Hide
section
namespace Go.Proofs.Ytihijigbdpjcoaa
open Go.RowKit

theorem bool_end {a b : Bool} (h : a = b) : Ending.returned (.bool a) = .returned (.bool b) := by rw [h]
/-- The pair at a place of a list. -/
def prAt (l : List (Int × Int)) (i : Nat) : Int × Int := l.getD i (0, 0)

/-- A slice's address, at which the pairs of a list lie one behind the other. -/
def PairsAt (w : World) (A : Option Addr) (l : List (Int × Int)) : Prop :=
  0 < l.length → ∃ b off, A = some ⟨b, off, none⟩ ∧ b < w.heap.size ∧
    ∀ i, i < l.length → w.cell? ⟨b, off + i * 2, none⟩ = some (.int .i64 (prAt l i).1) ∧ w.cell? ⟨b, off + i * 2 + 1, none⟩ = some (.int .i64 (prAt l i).2)

theorem PairsAt.below {w w' : World} {A : Option Addr} {l : List (Int × Int)} (h : PairsAt w A l) (hb : Below w.heap.size w w') : PairsAt w' A l := by
  intro hl
  obtain ⟨b, off, rfl, hlt, hc⟩ := h hl
  refine ⟨b, off, rfl, Nat.lt_of_lt_of_le hlt hb.size, fun i hi => ?_⟩
  obtain ⟨h1, h2⟩ := hc i hi
  exact ⟨(hb.cell (p := ⟨b, off + i * 2, none⟩) hlt).trans h1, (hb.cell (p := ⟨b, off + i * 2 + 1, none⟩) hlt).trans h2⟩

/-- The cells of a list of pairs. -/
def cellsOf (l : List (Int × Int)) : List Value := l.flatMap fun p => [.int .i64 p.1, .int .i64 p.2]

theorem cellsOf_at (l : List (Int × Int)) (i : Nat) (h : i < l.length) : (cellsOf l)[i * 2]? = some (.int .i64 (prAt l i).1) ∧ (cellsOf l)[i * 2 + 1]? = some (.int .i64 (prAt l i).2) := by
  induction l generalizing i with
  | nil => simp at h
  | cons p r ih =>
    cases i with
    | zero => exact ⟨rfl, rfl⟩
    | succ i =>
      have h' : i < r.length := by simpa using h
      have e1 : (i + 1) * 2 = i * 2 + 2 := by omega
      rw [e1]
      exact ih i h'

theorem cellsOf_len (l : List (Int × Int)) : (cellsOf l).length = l.length * 2 := by
  induction l with
  | nil => rfl
  | cons p r ih =>
    have e : cellsOf (p :: r) = .int .i64 p.1 :: .int .i64 p.2 :: cellsOf r := rfl
    rw [e, List.length_cons, List.length_cons, List.length_cons, ih]
    omega

/-- A slice of the call's own that holds pairs reads as them. -/
theorem own_pairsAt {w : World} {base : Nat} {e : TypeId} {v : Value} {l : List (Int × Int)} (h : w.ownsRow base e 2 v l.length (cellsOf l)) :
    ∃ A c, v = .slice A l.length c ∧ PairsAt w A l := by
  rcases h.2 with ⟨rfl, h0⟩ | ⟨g, cap, cur, rfl, hb, hh, _⟩
  · rw [h0]
    exact ⟨none, 0, rfl, fun hp => absurd hp (by omega)⟩
  · refine ⟨_, cap, rfl, fun _ => ⟨g, 0, rfl, (Array.getElem?_eq_some_iff.1 hh).1, fun i hi => ?_⟩⟩
    obtain ⟨c1, c2⟩ := cellsOf_at l i hi
    rw [Nat.zero_add]
    exact ⟨(h.cellAt (i * 2) (by omega)).trans c1, (h.cellAt (i * 2 + 1) (by omega)).trans c2⟩

theorem some_of_lt {α : Type} (l : List α) (i : Nat) (h : i < l.length) : ∃ u, l[i]? = some u := ⟨l[i], List.getElem?_eq_getElem h⟩

theorem grown_of_below {w w' : World} (h : Below w.heap.size w w') (row : Option Nat) : w.grownBy w' row :=
  ⟨h.os, h.tape, h.output, h.size, fun k hk _ => h.block k hk⟩

theorem own_below {w w' : World} {base : Nat} {e : TypeId} {size n : Nat} {v : Value} {xs : List Value} (h : w.ownsRow base e size v n xs) (hb : Below w.heap.size w w') : w'.ownsRow base e size v n xs :=
  h.kept (grown_of_below hb none) (by cases v.ownBlock <;> simp)

theorem own_le {w : World} {base base' : Nat} {e : TypeId} {size n : Nat} {v : Value} {xs : List Value} (h : w.ownsRow base e size v n xs) (hb : base' ≤ base) : w.ownsRow base' e size v n xs :=
  ⟨h.1, h.2.imp id fun ⟨g, cap, cur, hv, hg, r⟩ => ⟨g, cap, cur, hv, Nat.le_trans hb hg, r⟩⟩

/-- What was below a block stays so while a row from this block on is written. -/
theorem below_own {a w w' : World} {B base : Nat} {e : TypeId} {size n : Nat} {v : Value} {xs : List Value} (hb : Below B a w) (h : w.ownsRow base e size v n xs) (hB : B ≤ base) (hw : B ≤ w.heap.size) (hg : w.grownBy w' v.ownBlock) : Below B a w' :=
  hb.grown hg hw (fun k hk => Nat.le_trans hB (h.lt k hk).1)

theorem grownBy_trans {a b c : World} {row : Option Nat} (h : a.grownBy b row) (k : b.grownBy c row) : a.grownBy c row :=
  ⟨k.os.trans h.os, k.tape.trans h.tape, k.output.trans h.output, Nat.le_trans h.size k.size, fun i hi hr => (k.block i (Nat.lt_of_lt_of_le hi h.size) hr).trans (h.block i hi hr)⟩
end Go.Proofs.Ytihijigbdpjcoaa
end

section
namespace Go.Proofs.Ytihijigbdpjcoaa
open Go.RowKit

/-- The number at a place of a list. -/
def itAt (l : List Int) (i : Nat) : Int := l.getD i 0

/-- A slice's address, at which the numbers of a list lie one behind the other. -/
def IntsAt (w : World) (A : Option Addr) (l : List Int) : Prop :=
  0 < l.length → ∃ b off, A = some ⟨b, off, none⟩ ∧ b < w.heap.size ∧ ∀ i, i < l.length → w.cell? ⟨b, off + i, none⟩ = some (.int .i64 (itAt l i))

theorem IntsAt.below {w w' : World} {A : Option Addr} {l : List Int} (h : IntsAt w A l) (hb : Below w.heap.size w w') : IntsAt w' A l := by
  intro hl
  obtain ⟨b, off, rfl, hlt, hc⟩ := h hl
  exact ⟨b, off, rfl, Nat.lt_of_lt_of_le hlt hb.size, fun i hi => (hb.cell (p := ⟨b, off + i, none⟩) hlt).trans (hc i hi)⟩

end Go.Proofs.Ytihijigbdpjcoaa
end

section
namespace Go.Proofs.Ytihijigbdpjcoaa
open Go.RowKit

/-- What a cell holds: a plain value, or a row of cells of an element type. -/
inductive Mem where
  | cell : Value → Mem
  | row : TypeId → Nat → List Mem → Mem

mutual
/-- A value reads as a tree. -/
inductive At (w : World) : Value → Mem → Prop
  | cell (u : Value) : At w u (.cell u)
  | nil (A : Option Addr) (c : Nat) (e : TypeId) (size : Nat) (h0 : size = 4 ∨ size = 3 → A = none → c = 0) : At w (.slice A 0 c) (.row e size [])
  | row {b off n c : Nat} {e : TypeId} {size : Nat} {xs : List Value} {ms : List Mem} (hn : 0 < n) (hl : ms.length = n * size) (hb : b < w.heap.size)
      (hc : ∀ j u, xs[j]? = some u → w.cell? ⟨b, off + j, none⟩ = some u) (h : AtL w xs ms) : At w (.slice (some ⟨b, off, none⟩) n c) (.row e size ms)
inductive AtL (w : World) : List Value → List Mem → Prop
  | nil : AtL w [] []
  | cons {v : Value} {m : Mem} {vs : List Value} {ms : List Mem} (h : At w v m) (k : AtL w vs ms) : AtL w (v :: vs) (m :: ms)
end

mutual
theorem At.keep {w w' : World} (hb : Below w.heap.size w w') : ∀ {v : Value} {m : Mem}, At w v m → At w' v m
  | _, _, .cell u => .cell u
  | _, _, .nil A c e size h0 => .nil A c e size h0
  | _, _, .row (b := b) (off := off) hn hl hlt hc h => .row hn hl (Nat.lt_of_lt_of_le hlt hb.size) (fun j u hj => (hb.cell (p := ⟨b, off + j, none⟩) hlt).trans (hc j u hj)) (h.keep hb)
theorem AtL.keep {w w' : World} (hb : Below w.heap.size w w') : ∀ {vs : List Value} {ms : List Mem}, AtL w vs ms → AtL w' vs ms
  | _, _, .nil => .nil
  | _, _, .cons h k => .cons (h.keep hb) (k.keep hb)
end

theorem AtL.len {w : World} : ∀ {vs : List Value} {ms : List Mem}, AtL w vs ms → vs.length = ms.length
  | _, _, .nil => rfl
  | _, _, .cons _ k => by rw [List.length_cons, List.length_cons, k.len]

theorem AtL.get {w : World} : ∀ {vs : List Value} {ms : List Mem}, AtL w vs ms → ∀ (j : Nat) (m : Mem), ms[j]? = some m → ∃ u, vs[j]? = some u ∧ At w u m
  | _, _, .nil, j, m, h => by simp at h
  | _, _, .cons (v := v) h0 k, 0, m, h => by
    simp at h
    subst h
    exact ⟨v, rfl, h0⟩
  | _, _, .cons _ k, j + 1, m, h => by
    simp at h
    obtain ⟨u, hu, ha⟩ := k.get j m h
    exact ⟨u, by simpa using hu, ha⟩

theorem At.cell_eq {w : World} {u v : Value} (h : At w v (.cell u)) : v = u := by
  cases h; rfl

/-- The cell of a row. -/
theorem At.get {w : World} {A : Option Addr} {n c : Nat} {e : TypeId} {size : Nat} {ms : List Mem} (h : At w (.slice A n c) (.row e size ms)) (hp : 0 < n) :
    ∃ b off, A = some ⟨b, off, none⟩ ∧ b < w.heap.size ∧ ∀ j m, ms[j]? = some m → ∃ u, w.cell? ⟨b, off + j, none⟩ = some u ∧ At w u m := by
  cases h with
  | nil => omega
  | row hn hl hb hc h =>
    refine ⟨_, _, rfl, hb, fun j m hj => ?_⟩
    obtain ⟨u, hu, ha⟩ := h.get j m hj
    exact ⟨u, hc j u hu, ha⟩

theorem At.form {w : World} {v : Value} {e : TypeId} {size : Nat} {ms : List Mem} (h : At w v (.row e size ms)) : ∃ A n c, v = .slice A n c ∧ ms.length = n * size := by
  cases h with
  | nil A c => exact ⟨A, 0, c, rfl, by simp⟩
  | row hn hl hb hc h => exact ⟨_, _, _, rfl, hl⟩

mutual
/-- A value owns a tree: its rows lie in the blocks S, each in one of its own. -/
inductive Own (w : World) : List Nat → Value → Mem → Prop
  | cell (u : Value) : Own w [] u (.cell u)
  | nil (e : TypeId) (size : Nat) : Own w [] (.slice none 0 0) (.row e size [])
  | row {g n cap : Nat} {e : TypeId} {size : Nat} {xs : List Value} {ms : List Mem} {S : List Nat} (hl : ms.length = n * size) (ho : w.ownsRow 0 e size (.slice (some ⟨g, 0, none⟩) n cap) n xs) (h : OwnL w S xs ms) (hg : g ∉ S) :
      Own w (g :: S) (.slice (some ⟨g, 0, none⟩) n cap) (.row e size ms)
inductive OwnL (w : World) : List Nat → List Value → List Mem → Prop
  | nil : OwnL w [] [] []
  | cons {v : Value} {m : Mem} {vs : List Value} {ms : List Mem} {S T : List Nat} (h : Own w S v m) (k : OwnL w T vs ms) (hd : ∀ b ∈ S, b ∉ T) : OwnL w (S ++ T) (v :: vs) (m :: ms)
end

theorem ownsRow_alike {w w' : World} {base : Nat} {e : TypeId} {size g n cap : Nat} {xs : List Value} (h : w.ownsRow base e size (.slice (some ⟨g, 0, none⟩) n cap) n xs) (hk : w'.heap[g]? = w.heap[g]?) :
    w'.ownsRow base e size (.slice (some ⟨g, 0, none⟩) n cap) n xs := by
  refine ⟨h.1, ?_⟩
  rcases h.2 with ⟨h', _⟩ | ⟨g', cap', cur, e0, hb, hgg, rest⟩
  · cases h'
  · injection e0 with e1 _ e3
    injection e1 with e1
    injection e1 with e1
    subst e1; subst e3
    exact .inr ⟨g, cap, cur, rfl, hb, hk.trans hgg, rest⟩

mutual
theorem Own.alike {w w' : World} : ∀ {S : List Nat} {v : Value} {m : Mem}, Own w S v m → (∀ b ∈ S, w'.heap[b]? = w.heap[b]?) → Own w' S v m
  | _, _, _, .cell u, _ => .cell u
  | _, _, _, .nil e size, _ => .nil e size
  | _, _, _, .row hl ho h hg, hk => .row hl (ownsRow_alike ho (hk _ List.mem_cons_self)) (h.alike fun b hb => hk b (List.mem_cons_of_mem _ hb)) hg
theorem OwnL.alike {w w' : World} : ∀ {S : List Nat} {vs : List Value} {ms : List Mem}, OwnL w S vs ms → (∀ b ∈ S, w'.heap[b]? = w.heap[b]?) → OwnL w' S vs ms
  | _, _, _, .nil, _ => .nil
  | _, _, _, .cons h k hd, hk => .cons (h.alike fun b hb => hk b (List.mem_append_left _ hb)) (k.alike fun b hb => hk b (List.mem_append_right _ hb)) hd
end

mutual
theorem Own.lt {w : World} : ∀ {S : List Nat} {v : Value} {m : Mem}, Own w S v m → ∀ b ∈ S, b < w.heap.size
  | _, _, _, .cell u, b, hb => by simp at hb
  | _, _, _, .nil e size, b, hb => by simp at hb
  | _, _, _, .row hl ho h hg, b, hb => by
    rcases List.mem_cons.1 hb with e | e
    · subst e; exact (ho.lt _ rfl).2
    · exact h.lt b e
theorem OwnL.lt {w : World} : ∀ {S : List Nat} {vs : List Value} {ms : List Mem}, OwnL w S vs ms → ∀ b ∈ S, b < w.heap.size
  | _, _, _, .nil, b, hb => by simp at hb
  | _, _, _, .cons h k hd, b, hb => by
    rcases List.mem_append.1 hb with e | e
    · exact h.lt b e
    · exact k.lt b e
end

theorem Own.keep {w w' : World} {S : List Nat} {v : Value} {m : Mem} (h : Own w S v m) (hb : Below w.heap.size w w') : Own w' S v m :=
  h.alike fun b hb' => hb.block b (h.lt b hb')

theorem OwnL.len {w : World} : ∀ {S : List Nat} {vs : List Value} {ms : List Mem}, OwnL w S vs ms → vs.length = ms.length
  | _, _, _, .nil => rfl
  | _, _, _, .cons _ k _ => by rw [List.length_cons, List.length_cons, k.len]

mutual
theorem Own.at_ {w : World} : ∀ {S : List Nat} {v : Value} {m : Mem}, Own w S v m → At w v m
  | _, _, _, .cell u => .cell u
  | _, _, _, .nil e size => .nil none 0 e size (fun _ _ => rfl)
  | _, _, _, .row (g := g) (n := n) (cap := cap) (e := e) (size := size) (xs := xs) hl ho h hg => by
    rcases Nat.eq_zero_or_pos n with h0 | h0
    · subst h0
      have : ∀ l : List Mem, l.length = 0 * size → l = [] := fun l hl => List.eq_nil_of_length_eq_zero (by simpa using hl)
      rw [this _ hl]
      exact .nil _ _ _ _ (fun _ h => by cases h)
    · refine .row h0 hl (ho.lt g rfl).2 (fun j u hj => ?_) h.at_
      rw [Nat.zero_add]
      have := ho.cells (g := g) rfl j u hj
      have hadd : (⟨g, 0, none⟩ : Addr).add j = ⟨g, j, none⟩ := by unfold Addr.add; split <;> simp_all
      rwa [hadd] at this
theorem OwnL.at_ {w : World} : ∀ {S : List Nat} {vs : List Value} {ms : List Mem}, OwnL w S vs ms → AtL w vs ms
  | _, _, _, .nil => .nil
  | _, _, _, .cons h k _ => .cons h.at_ k.at_
end

/-- One cell of a row looked at by itself, and put back changed. -/
theorem OwnL.focus {w : World} : ∀ {S : List Nat} {vs : List Value} {ms : List Mem}, OwnL w S vs ms → ∀ (j : Nat) (m : Mem), ms[j]? = some m →
    ∃ u T, vs[j]? = some u ∧ Own w T u m ∧ (∀ b ∈ T, b ∈ S) ∧ ∀ (w' : World) (m' : Mem), (∀ b ∈ S, b ∉ T → w'.heap[b]? = w.heap[b]?) → Own w' T u m' → OwnL w' S vs (ms.set j m')
  | _, _, _, .nil, j, m, h => by simp at h
  | _, _, _, .cons (v := v) (S := S) (T := T) h0 k hd, 0, m, h => by
    simp at h
    subst h
    refine ⟨v, S, rfl, h0, fun b hb => List.mem_append_left _ hb, fun w' m' hk hm => ?_⟩
    exact .cons hm (k.alike fun b hb => hk b (List.mem_append_right _ hb) fun hs => hd b hs hb) hd
  | _, _, _, .cons (S := S) (T := T) h0 k hd, j + 1, m, h => by
    simp at h
    obtain ⟨u, T', hu, ho, hs, hput⟩ := k.focus j m h
    refine ⟨u, T', by simpa using hu, ho, fun b hb => List.mem_append_right _ (hs b hb), fun w' m' hk hm => ?_⟩
    exact .cons (h0.alike fun b hb => hk b (List.mem_append_left _ hb) fun ht => hd b hb (hs b ht)) (hput w' m' (fun b hb hn => hk b (List.mem_append_right _ hb) hn) hm) hd

/-- A plain cell of a list of cells gets another value. -/
theorem OwnL.setCell {w : World} : ∀ {S : List Nat} {vs : List Value} {ms : List Mem}, OwnL w S vs ms → ∀ (j : Nat) (u u' : Value), ms[j]? = some (.cell u) → OwnL w S (vs.set j u') (ms.set j (.cell u'))
  | _, _, _, .nil, j, u, u', h => by simp at h
  | _, _, _, .cons (T := T) h0 k hd, 0, u, u', h => by
    simp at h
    subst h
    cases h0
    exact .cons (.cell u') k hd
  | _, _, _, .cons h0 k hd, j + 1, u, u', h => by
    simp at h
    exact .cons h0 (k.setCell j u u' h) hd

/-- A cell that owns nothing gets a value with a tree of its own. -/
theorem OwnL.fill {w : World} {R : List Nat} {u' : Value} {m' : Mem} (hn : Own w R u' m') : ∀ {S : List Nat} {vs : List Value} {ms : List Mem}, OwnL w S vs ms → (∀ b ∈ R, b ∉ S) → ∀ (j : Nat) (u : Value) (m : Mem), vs[j]? = some u → ms[j]? = some m → (∀ T, Own w T u m → T = []) →
    ∃ S', OwnL w S' (vs.set j u') (ms.set j m') ∧ ∀ b, b ∈ S' ↔ b ∈ R ∨ b ∈ S
  | _, _, _, .nil, _, j, u, m, _, h, _ => by simp at h
  | _, _, _, .cons (S := S) (T := T) h0 k hd, hr, 0, u, m, hu, hm, he => by
    simp at hu hm
    subst hu; subst hm
    have e := he _ h0
    subst e
    refine ⟨R ++ T, .cons hn k fun b hb ht => hr b hb (List.mem_append_right _ ht), fun b => ?_⟩
    rw [List.nil_append, List.mem_append]
  | _, _, _, .cons (S := S) (T := T) h0 k hd, hr, j + 1, u, m, hu, hm, he => by
    simp at hu hm
    obtain ⟨S', h1, h2⟩ := k.fill hn (fun b hb ht => hr b hb (List.mem_append_right _ ht)) j u m hu hm he
    refine ⟨S ++ S', .cons h0 h1 (fun b hb hs => ?_), fun b => ?_⟩
    · rcases (h2 b).1 hs with h | h
      · exact hr b h (List.mem_append_left _ hb)
      · exact hd b hb h
    · rw [List.mem_append, List.mem_append, h2]
      constructor
      · rintro (h | h | h)
        · exact .inr (.inl h)
        · exact .inl h
        · exact .inr (.inr h)
      · rintro (h | h | h)
        · exact .inr (.inl h)
        · exact .inl h
        · exact .inr (.inr h)

/-- Behind a row more cells. -/
theorem OwnL.append {w : World} : ∀ {S T : List Nat} {vs us : List Value} {ms ns : List Mem}, OwnL w S vs ms → OwnL w T us ns → (∀ b ∈ S, b ∉ T) → OwnL w (S ++ T) (vs ++ us) (ms ++ ns)
  | _, _, _, _, _, _, .nil, k, _ => k
  | _, _, _, _, _, _, .cons (S := S) (T := T) h k' hd, k, hn => by
    rw [List.append_assoc, List.cons_append, List.cons_append]
    refine .cons h (k'.append k fun b hb => hn b (List.mem_append_right _ hb)) fun b hb ht => ?_
    rcases List.mem_append.1 ht with e | e
    · exact hd b hb e
    · exact hn b (List.mem_append_left _ hb) e

theorem AtL.append {w : World} : ∀ {vs us : List Value} {ms ns : List Mem}, AtL w vs ms → AtL w us ns → AtL w (vs ++ us) (ms ++ ns)
  | _, _, _, _, .nil, k => k
  | _, _, _, _, .cons h k', k => .cons h (k'.append k)

end Go.Proofs.Ytihijigbdpjcoaa
end

section
namespace Go.Proofs.Ytihijigbdpjcoaa
open Go.RowKit
set_option linter.unusedVariables false

inductive Ix where
  | mk : Int → Int → List Ix → Ix

def Ix.op : Ix → Int | .mk o _ _ => o
def Ix.num : Ix → Int | .mk _ a _ => a
def Ix.kids : Ix → List Ix | .mk _ _ ks => ks
def ix0 : Ix := .mk 0 0 []
instance : Inhabited Ix := ⟨ix0⟩

/-- The formula at a place of a list. -/
def ixAt (ts : List Ix) (i : Nat) : Ix := ts.getD i ix0
theorem ixAt_cons_succ (t : Ix) (ts : List Ix) (i : Nat) : ixAt (t :: ts) (i + 1) = ixAt ts i := rfl
theorem ixAt_cons_zero (t : Ix) (ts : List Ix) : ixAt (t :: ts) 0 = t := rfl
theorem ixAt_get (ts : List Ix) (i : Nat) (h : i < ts.length) : ixAt ts i = ts[i] := by simp [ixAt, h]
theorem ix_take_next {ts : List Ix} {k : Nat} (h : k < ts.length) : ts.take (k + 1) = ts.take k ++ [ixAt ts k] := by
  rw [List.take_succ_eq_append_getElem h, ixAt_get ts k h]

mutual
/-- The three cells of an index term. -/
def encIx : Ix → List Mem
  | .mk o a ks => [.cell (.int .i64 o), .cell (.int .i64 a), .row 42 3 (encIxs ks)]
def encIxs : List Ix → List Mem
  | [] => []
  | t :: r => encIx t ++ encIxs r
end
def ixsMem (ts : List Ix) : Mem := .row 42 3 (encIxs ts)
theorem encIx_eq (t : Ix) : encIx t = [.cell (.int .i64 t.op), .cell (.int .i64 t.num), ixsMem t.kids] := by
  cases t with
  | mk o a ks => simp [encIx, Ix.op, Ix.num, Ix.kids, ixsMem]
theorem encIx_len (t : Ix) : (encIx t).length = 3 := by rw [encIx_eq]; rfl
theorem encIxs_len : ∀ ts : List Ix, (encIxs ts).length = ts.length * 3
  | [] => by simp [encIxs]
  | t :: r => by rw [encIxs, List.length_append, encIx_len, encIxs_len r, List.length_cons]; omega
theorem encIxs_append : ∀ a b : List Ix, encIxs (a ++ b) = encIxs a ++ encIxs b
  | [], b => by simp [encIxs]
  | t :: r, b => by rw [List.cons_append, encIxs, encIxs, encIxs_append r b, List.append_assoc]
theorem encIxs_at : ∀ (ts : List Ix) (i j : Nat), i < ts.length → j < 3 → (encIxs ts)[i * 3 + j]? = (encIx (ixAt ts i))[j]?
  | [], i, j, h, _ => by simp at h
  | t :: r, 0, j, _, hj => by
    rw [encIxs, Nat.zero_mul, Nat.zero_add, List.getElem?_append_left (by rw [encIx_len]; exact hj)]; rfl
  | t :: r, i + 1, j, h, hj => by
    have e : (i + 1) * 3 + j = 3 + (i * 3 + j) := by omega
    rw [encIxs, e, List.getElem?_append_right (by rw [encIx_len]; omega), encIx_len, Nat.add_sub_cancel_left]
    exact encIxs_at r i j (by simpa using h) hj
theorem encIxs_parts {ts : List Ix} {i : Nat} (h : i < ts.length) :
    (encIxs ts)[i * 3]? = some (.cell (.int .i64 (ixAt ts i).op)) ∧ (encIxs ts)[i * 3 + 1]? = some (.cell (.int .i64 (ixAt ts i).num)) ∧
    (encIxs ts)[i * 3 + 2]? = some (ixsMem (ixAt ts i).kids) := by
  have h0 := encIxs_at ts i 0 h (by omega)
  have h1 := encIxs_at ts i 1 h (by omega)
  have h2 := encIxs_at ts i 2 h (by omega)
  rw [encIx_eq] at h0 h1 h2
  exact ⟨h0, h1, h2⟩

mutual
/-- How many index terms lie within. -/
def szIx : Ix → Nat
  | .mk _ _ ks => 1 + szIxs ks
def szIxs : List Ix → Nat
  | [] => 0
  | t :: r => szIx t + szIxs r
end
theorem szIx_eq (t : Ix) : szIx t = 1 + szIxs t.kids := by cases t; simp [szIx, Ix.kids]
theorem szIx_at : ∀ {ts : List Ix} {i : Nat}, i < ts.length → szIx (ixAt ts i) ≤ szIxs ts
  | [], i, h => by simp at h
  | t :: r, 0, _ => by rw [szIxs, ixAt_cons_zero]; omega
  | t :: r, i + 1, h => by
    have := szIx_at (ts := r) (i := i) (by simpa using h)
    rw [szIxs, ixAt_cons_succ]; omega
theorem szIxs_kid {ts : List Ix} {i : Nat} (h : i < ts.length) : szIxs (ixAt ts i).kids < szIxs ts := by
  have h1 := szIx_at h
  rw [szIx_eq] at h1
  omega
mutual
/-- How much of the bound an index term takes. -/
def cntIx : Ix → Nat
  | .mk _ _ ks => ks.length + sumIx ks
def sumIx : List Ix → Nat
  | [] => 0
  | t :: r => cntIx t + sumIx r
end
theorem cntIx_eq (t : Ix) : cntIx t = t.kids.length + sumIx t.kids := by cases t; simp [cntIx, Ix.kids]
theorem sumIx_append : ∀ a b : List Ix, sumIx (a ++ b) = sumIx a + sumIx b
  | [], b => by simp [sumIx]
  | t :: r, b => by rw [List.cons_append, sumIx, sumIx, sumIx_append r b]; omega
theorem sumIx_next {ts : List Ix} {k : Nat} (h : k < ts.length) : sumIx (ts.take (k + 1)) = sumIx (ts.take k) + cntIx (ixAt ts k) := by
  rw [ix_take_next h, sumIx_append]
  simp [sumIx]
theorem sumIx_take (ts : List Ix) (k : Nat) : sumIx (ts.take k) ≤ sumIx ts := by
  have := sumIx_append (ts.take k) (ts.drop k)
  rw [List.take_append_drop] at this
  omega

/-- A slice value reads as index terms. -/
def IxsIn (w : World) (x : Value) (ts : List Ix) : Prop := At w x (ixsMem ts)
/-- A struct value reads as an index term. -/
def IxIn (w : World) (x : Value) (t : Ix) : Prop :=
  ∃ B d, x = .agg #[.int .i64 t.op, .int .i64 t.num, .slice B t.kids.length d] ∧ IxsIn w (.slice B t.kids.length d) t.kids
theorem IxsIn.below {w w' : World} {x : Value} {ts : List Ix} (h : IxsIn w x ts) (hb : Below w.heap.size w w') : IxsIn w' x ts := At.keep hb h
theorem IxIn.below {w w' : World} {x : Value} {t : Ix} (h : IxIn w x t) (hb : Below w.heap.size w w') : IxIn w' x t := by
  obtain ⟨B, d, e, h2⟩ := h
  exact ⟨B, d, e, h2.below hb⟩
theorem IxsIn.form {w : World} {x : Value} {ts : List Ix} (h : IxsIn w x ts) : ∃ A c, x = .slice A ts.length c := by
  obtain ⟨A, n, c, rfl, hl⟩ := At.form h
  rw [encIxs_len] at hl
  have hn : n = ts.length := by omega
  subst hn
  exact ⟨A, c, rfl⟩
theorem atL_ix {w : World} {t : Ix} {kv : Value} (hk : IxsIn w kv t.kids) : AtL w [.int .i64 t.op, .int .i64 t.num, kv] (encIx t) := by
  rw [encIx_eq]
  exact .cons (.cell _) (.cons (.cell _) (.cons hk .nil))
/-- The cells of the formula at a place. -/
theorem IxsIn.get {w : World} {A : Option Addr} {n c : Nat} {ts : List Ix} (h : IxsIn w (.slice A n c) ts) (hp : 0 < ts.length) :
    ∃ b off, A = some ⟨b, off, none⟩ ∧ b < w.heap.size ∧ ∀ i, i < ts.length → ∃ B1 d1,
      w.cell? ⟨b, off + i * 3, none⟩ = some (.int .i64 (ixAt ts i).op) ∧ w.cell? ⟨b, off + i * 3 + 1, none⟩ = some (.int .i64 (ixAt ts i).num) ∧
      w.cell? ⟨b, off + i * 3 + 2, none⟩ = some (.slice B1 (ixAt ts i).kids.length d1) ∧
      IxsIn w (.slice B1 (ixAt ts i).kids.length d1) (ixAt ts i).kids := by
  obtain ⟨A', c', e⟩ := h.form
  injection e with e1 e2 e3
  subst e2
  obtain ⟨b, off, rfl, hb, hc⟩ := At.get h hp
  refine ⟨b, off, rfl, hb, fun i hi => ?_⟩
  obtain ⟨p0, p1, p2⟩ := encIxs_parts hi
  obtain ⟨u0, d0, a0⟩ := hc _ _ p0
  obtain ⟨u1, d1, a1⟩ := hc _ _ p1
  obtain ⟨u2, d2, a2⟩ := hc _ _ p2
  rw [a0.cell_eq] at d0
  rw [a1.cell_eq] at d1
  obtain ⟨B1, e1, rfl⟩ := IxsIn.form (ts := (ixAt ts i).kids) a2
  exact ⟨B1, e1, d0, by rw [Nat.add_assoc]; exact d1, by rw [Nat.add_assoc]; exact d2, a2⟩

mutual
/-- No list within is longer than the bound. -/
def FitIx : Ix → Prop
  | .mk _ _ ks => ks.length ≤ 1048576 ∧ FitIxs ks
def FitIxs : List Ix → Prop
  | [] => True
  | t :: r => FitIx t ∧ FitIxs r
end
theorem fitIx_eq (t : Ix) : FitIx t ↔ t.kids.length ≤ 1048576 ∧ FitIxs t.kids := by cases t; simp [FitIx, Ix.kids]
theorem fitIxs_at : ∀ {ts : List Ix} {i : Nat}, FitIxs ts → i < ts.length → FitIx (ixAt ts i)
  | [], i, _, h => by simp at h
  | t :: r, 0, h, _ => h.1
  | t :: r, i + 1, h, hi => by rw [ixAt_cons_succ]; exact fitIxs_at h.2 (by simpa using hi)
mutual
theorem fitIx_of : ∀ t : Ix, cntIx t ≤ 1048576 → FitIx t
  | .mk o a ks, h => by
    rw [cntIx] at h
    exact ⟨by omega, fitIxs_of ks (by omega)⟩
theorem fitIxs_of : ∀ ts : List Ix, sumIx ts ≤ 1048576 → FitIxs ts
  | [], _ => trivial
  | t :: r, h => by
    rw [sumIx] at h
    exact ⟨fitIx_of t (by omega), fitIxs_of r (by omega)⟩
end
mutual
/-- No list within is longer than a slice can be. -/
def ShortIx : Ix → Prop
  | .mk _ _ ks => ks.length ≤ maxLen ∧ ShortIxs ks
def ShortIxs : List Ix → Prop
  | [] => True
  | t :: r => ShortIx t ∧ ShortIxs r
end
theorem shortIx_eq (t : Ix) : ShortIx t ↔ t.kids.length ≤ maxLen ∧ ShortIxs t.kids := by cases t; simp [ShortIx, Ix.kids]
theorem shortIxs_at : ∀ {ts : List Ix} {i : Nat}, ShortIxs ts → i < ts.length → ShortIx (ixAt ts i)
  | [], i, _, h => by simp at h
  | t :: r, 0, h, _ => h.1
  | t :: r, i + 1, h, hi => by rw [ixAt_cons_succ]; exact shortIxs_at h.2 (by simpa using hi)
theorem shortIxs_of : ∀ {ts : List Ix}, (∀ i, i < ts.length → ShortIx (ixAt ts i)) → ShortIxs ts
  | [], _ => trivial
  | t :: r, h => ⟨h 0 (by simp), shortIxs_of fun i hi => by have := h (i + 1) (by simpa using hi); rwa [ixAt_cons_succ] at this⟩
end Go.Proofs.Ytihijigbdpjcoaa
end

section
namespace Go.Proofs.Ytihijigbdpjcoaa
open Go.RowKit

inductive Tm where
  | mk : Int → Int → List (Int × Int) → List Tm → Tm

def Tm.op : Tm → Int | .mk o _ _ _ => o
def Tm.num : Tm → Int | .mk _ n _ _ => n
def Tm.perm : Tm → List (Int × Int) | .mk _ _ p _ => p
def Tm.kids : Tm → List Tm | .mk _ _ _ ks => ks
def tm0 : Tm := .mk 0 0 [] []
/-- The term at a place of a list. -/
def tmAt (ts : List Tm) (i : Nat) : Tm := ts.getD i tm0

def pairMem (p : List (Int × Int)) : Mem := .row 96 2 ((cellsOf p).map .cell)

mutual
/-- The four cells of a term. -/
def encT : Tm → List Mem
  | .mk o n p ks => [.cell (.int .i64 o), .cell (.int .i64 n), pairMem p, .row 31 4 (encTs ks)]
def encTs : List Tm → List Mem
  | [] => []
  | t :: r => encT t ++ encTs r
end

def tmsMem (ts : List Tm) : Mem := .row 31 4 (encTs ts)

theorem encT_eq (t : Tm) : encT t = [.cell (.int .i64 t.op), .cell (.int .i64 t.num), pairMem t.perm, tmsMem t.kids] := by
  cases t with
  | mk o n p ks => simp [encT, Tm.op, Tm.num, Tm.perm, Tm.kids, tmsMem]

theorem encT_len (t : Tm) : (encT t).length = 4 := by rw [encT_eq]; rfl

theorem encTs_len : ∀ ts : List Tm, (encTs ts).length = ts.length * 4
  | [] => by simp [encTs]
  | t :: r => by rw [encTs, List.length_append, encT_len, encTs_len r, List.length_cons]; omega

theorem encTs_at : ∀ (ts : List Tm) (i j : Nat), i < ts.length → j < 4 → (encTs ts)[i * 4 + j]? = (encT (tmAt ts i))[j]?
  | [], i, j, h, _ => by simp at h
  | t :: r, 0, j, _, hj => by
    rw [encTs, Nat.zero_mul, Nat.zero_add, List.getElem?_append_left (by rw [encT_len]; exact hj)]; rfl
  | t :: r, i + 1, j, h, hj => by
    have e : (i + 1) * 4 + j = 4 + (i * 4 + j) := by omega
    rw [encTs, e, List.getElem?_append_right (by rw [encT_len]; omega), encT_len, Nat.add_sub_cancel_left]
    exact encTs_at r i j (by simpa using h) hj

theorem encTs_parts {ts : List Tm} {i : Nat} (h : i < ts.length) :
    (encTs ts)[i * 4]? = some (.cell (.int .i64 (tmAt ts i).op)) ∧ (encTs ts)[i * 4 + 1]? = some (.cell (.int .i64 (tmAt ts i).num)) ∧
    (encTs ts)[i * 4 + 2]? = some (pairMem (tmAt ts i).perm) ∧ (encTs ts)[i * 4 + 3]? = some (tmsMem (tmAt ts i).kids) := by
  have h0 := encTs_at ts i 0 h (by omega)
  have h1 := encTs_at ts i 1 h (by omega)
  have h2 := encTs_at ts i 2 h (by omega)
  have h3 := encTs_at ts i 3 h (by omega)
  rw [encT_eq] at h0 h1 h2 h3
  exact ⟨h0, h1, h2, h3⟩

mutual
/-- How many terms lie within. -/
def szT : Tm → Nat
  | .mk _ _ _ ks => 1 + szTs ks
def szTs : List Tm → Nat
  | [] => 0
  | t :: r => szT t + szTs r
end

mutual
/-- How much of the bound a term takes. -/
def cntT : Tm → Nat
  | .mk _ _ p ks => p.length + (ks.length + sumT ks)
def sumT : List Tm → Nat
  | [] => 0
  | t :: r => cntT t + sumT r
end

/-- A slice value reads as terms. -/
def TmsIn (w : World) (x : Value) (ts : List Tm) : Prop := At w x (tmsMem ts)
/-- A struct value reads as a term. -/
def TmIn (w : World) (x : Value) (t : Tm) : Prop :=
  ∃ A c kv, x = .agg #[.int .i64 t.op, .int .i64 t.num, .slice A t.perm.length c, kv] ∧ PairsAt w A t.perm ∧ TmsIn w kv t.kids

theorem TmsIn.below {w w' : World} {x : Value} {ts : List Tm} (h : TmsIn w x ts) (hb : Below w.heap.size w w') : TmsIn w' x ts := At.keep hb h
theorem TmIn.below {w w' : World} {x : Value} {t : Tm} (h : TmIn w x t) (hb : Below w.heap.size w w') : TmIn w' x t := by
  obtain ⟨A, c, kv, e, h1, h2⟩ := h
  exact ⟨A, c, kv, e, h1.below hb, h2.below hb⟩

theorem at_pairs {w : World} {v : Value} {p : List (Int × Int)} (h : At w v (pairMem p)) : ∃ A c, v = .slice A p.length c ∧ PairsAt w A p := by
  obtain ⟨A, n, c, rfl, hl⟩ := At.form h
  rw [List.length_map, cellsOf_len] at hl
  have hn : n = p.length := by omega
  subst hn
  refine ⟨A, c, rfl, fun hp => ?_⟩
  obtain ⟨b, off, rfl, hb, hc⟩ := At.get h hp
  refine ⟨b, off, rfl, hb, fun i hi => ?_⟩
  obtain ⟨c1, c2⟩ := cellsOf_at p i hi
  obtain ⟨u1, d1, a1⟩ := hc (i * 2) (.cell (.int .i64 (prAt p i).1)) (by rw [List.getElem?_map, c1]; rfl)
  obtain ⟨u2, d2, a2⟩ := hc (i * 2 + 1) (.cell (.int .i64 (prAt p i).2)) (by rw [List.getElem?_map, c2]; rfl)
  rw [a1.cell_eq] at d1
  rw [a2.cell_eq] at d2
  exact ⟨d1, by rw [Nat.add_assoc]; exact d2⟩

theorem TmsIn.form {w : World} {x : Value} {ts : List Tm} (h : TmsIn w x ts) : ∃ A c, x = .slice A ts.length c := by
  obtain ⟨A, n, c, rfl, hl⟩ := At.form h
  rw [encTs_len] at hl
  have hn : n = ts.length := by omega
  subst hn
  exact ⟨A, c, rfl⟩

/-- The cells of kids, as a list. -/
theorem TmsIn.cells {w : World} {ad : Addr} {n c : Nat} {ts : List Tm} (h : TmsIn w (.slice (some ad) n c) ts) :
    ∃ ys, ys.length = ts.length * 4 ∧ AtL w ys (encTs ts) ∧ ∀ j u, ys[j]? = some u → w.cell? (ad.add j) = some u := by
  unfold TmsIn tmsMem at h
  generalize hm : encTs ts = ms at h
  cases h with
  | nil =>
    have := encTs_len ts
    rw [hm] at this
    simp at this
    exact ⟨[], by simp; omega, .nil, fun j u hj => by simp at hj⟩
  | row hn hl hb hc hL =>
    subst hm
    rename_i b off xs
    refine ⟨xs, by rw [hL.len, encTs_len], hL, fun j u hj => ?_⟩
    have hadd : (⟨b, off, none⟩ : Addr).add j = ⟨b, off + j, none⟩ := by
      unfold Addr.add
      split
      · rename_i h0; rw [h0]; rfl
      · rfl
    rw [hadd]
    exact hc j u hj

/-- The cells of the term at a place of a list of cells. -/
theorem AtL.term {w : World} {xs : List Value} {ts : List Tm} (h : AtL w xs (encTs ts)) {i : Nat} (hi : i < ts.length) :
    ∃ A c B d, xs[i * 4]? = some (.int .i64 (tmAt ts i).op) ∧ xs[i * 4 + 1]? = some (.int .i64 (tmAt ts i).num) ∧ xs[i * 4 + 2]? = some (.slice A (tmAt ts i).perm.length c) ∧
      xs[i * 4 + 3]? = some (.slice B (tmAt ts i).kids.length d) ∧ PairsAt w A (tmAt ts i).perm ∧ TmsIn w (.slice B (tmAt ts i).kids.length d) (tmAt ts i).kids := by
  obtain ⟨p0, p1, p2, p3⟩ := encTs_parts hi
  obtain ⟨u0, d0, a0⟩ := h.get _ _ p0
  obtain ⟨u1, d1, a1⟩ := h.get _ _ p1
  obtain ⟨u2, d2, a2⟩ := h.get _ _ p2
  obtain ⟨u3, d3, a3⟩ := h.get _ _ p3
  rw [a0.cell_eq] at d0
  rw [a1.cell_eq] at d1
  obtain ⟨A, c, rfl, hp⟩ := at_pairs a2
  obtain ⟨B, d, rfl⟩ := TmsIn.form (ts := (tmAt ts i).kids) a3
  exact ⟨A, c, B, d, d0, d1, d2, d3, hp, a3⟩

/-- The cells of the term at a place. -/
theorem TmsIn.get {w : World} {A : Option Addr} {n c : Nat} {ts : List Tm} (h : TmsIn w (.slice A n c) ts) (hp : 0 < ts.length) :
    ∃ b off, A = some ⟨b, off, none⟩ ∧ b < w.heap.size ∧ ∀ i, i < ts.length → ∃ A1 c1 kv,
      w.cell? ⟨b, off + i * 4, none⟩ = some (.int .i64 (tmAt ts i).op) ∧ w.cell? ⟨b, off + i * 4 + 1, none⟩ = some (.int .i64 (tmAt ts i).num) ∧
      w.cell? ⟨b, off + i * 4 + 2, none⟩ = some (.slice A1 (tmAt ts i).perm.length c1) ∧ w.cell? ⟨b, off + i * 4 + 3, none⟩ = some kv ∧
      PairsAt w A1 (tmAt ts i).perm ∧ TmsIn w kv (tmAt ts i).kids := by
  obtain ⟨A', c', e⟩ := h.form
  injection e with e1 e2 e3
  subst e2
  obtain ⟨b, off, rfl, hb, hc⟩ := At.get h hp
  refine ⟨b, off, rfl, hb, fun i hi => ?_⟩
  obtain ⟨p0, p1, p2, p3⟩ := encTs_parts hi
  obtain ⟨u0, d0, a0⟩ := hc _ _ p0
  obtain ⟨u1, d1, a1⟩ := hc _ _ p1
  obtain ⟨u2, d2, a2⟩ := hc _ _ p2
  obtain ⟨u3, d3, a3⟩ := hc _ _ p3
  rw [a0.cell_eq] at d0
  rw [a1.cell_eq] at d1
  obtain ⟨A1, c1, rfl, hpp⟩ := at_pairs a2
  exact ⟨A1, c1, u3, d0, by rw [Nat.add_assoc]; exact d1, by rw [Nat.add_assoc]; exact d2, by rw [Nat.add_assoc]; exact d3, hpp, a3⟩

mutual
/-- No list within is longer than the bound. -/
def Fit : Tm → Prop
  | .mk _ _ p ks => p.length ≤ 1048576 ∧ ks.length ≤ 1048576 ∧ Fits ks
def Fits : List Tm → Prop
  | [] => True
  | t :: r => Fit t ∧ Fits r
end

mutual
theorem fit_of : ∀ t : Tm, cntT t ≤ 1048576 → Fit t
  | .mk o n p ks, h => by
    rw [cntT] at h
    exact ⟨by omega, by omega, fits_of ks (by omega)⟩
theorem fits_of : ∀ ts : List Tm, sumT ts ≤ 1048576 → Fits ts
  | [], _ => trivial
  | t :: r, h => by
    rw [sumT] at h
    exact ⟨fit_of t (by omega), fits_of r (by omega)⟩
end
end Go.Proofs.Ytihijigbdpjcoaa
end

