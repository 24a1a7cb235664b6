/-
  Slices within slices: what lies behind a value, as a tree of rows; plain words, no program is walked here.
-/
import Derived.Test.YtnomidnjglbedaaKSizeOfTerm1
namespace Go.Proofs.Ytnomidnjglbedaa
open Go.RowKit

/-- What a cell holds: a plain value, or a row of cells of an element type. -/
inductive Mem where
  | cell : Value → Mem
  | row : TypeId → Nat → List Mem → Mem

mutual
/-- A value reads as a tree. -/
inductive At (w : World) : Value → Mem → Prop
  | cell (u : Value) : At w u (.cell u)
  | nil (A : Option Addr) (c : Nat) (e : TypeId) (size : Nat) (h0 : size = 4 ∨ size = 3 → A = none → c = 0) : At w (.slice A 0 c) (.row e size [])
  | row {b off n c : Nat} {e : TypeId} {size : Nat} {xs : List Value} {ms : List Mem} (hn : 0 < n) (hl : ms.length = n * size) (hb : b < w.heap.size)
      (hc : ∀ j u, xs[j]? = some u → w.cell? ⟨b, off + j, none⟩ = some u) (h : AtL w xs ms) : At w (.slice (some ⟨b, off, none⟩) n c) (.row e size ms)
inductive AtL (w : World) : List Value → List Mem → Prop
  | nil : AtL w [] []
  | cons {v : Value} {m : Mem} {vs : List Value} {ms : List Mem} (h : At w v m) (k : AtL w vs ms) : AtL w (v :: vs) (m :: ms)
end

mutual
theorem At.keep {w w' : World} (hb : Below w.heap.size w w') : ∀ {v : Value} {m : Mem}, At w v m → At w' v m
  | _, _, .cell u => .cell u
  | _, _, .nil A c e size h0 => .nil A c e size h0
  | _, _, .row (b := b) (off := off) hn hl hlt hc h => .row hn hl (Nat.lt_of_lt_of_le hlt hb.size) (fun j u hj => (hb.cell (p := ⟨b, off + j, none⟩) hlt).trans (hc j u hj)) (h.keep hb)
theorem AtL.keep {w w' : World} (hb : Below w.heap.size w w') : ∀ {vs : List Value} {ms : List Mem}, AtL w vs ms → AtL w' vs ms
  | _, _, .nil => .nil
  | _, _, .cons h k => .cons (h.keep hb) (k.keep hb)
end

theorem AtL.len {w : World} : ∀ {vs : List Value} {ms : List Mem}, AtL w vs ms → vs.length = ms.length
  | _, _, .nil => rfl
  | _, _, .cons _ k => by rw [List.length_cons, List.length_cons, k.len]

theorem AtL.get {w : World} : ∀ {vs : List Value} {ms : List Mem}, AtL w vs ms → ∀ (j : Nat) (m : Mem), ms[j]? = some m → ∃ u, vs[j]? = some u ∧ At w u m
  | _, _, .nil, j, m, h => by simp at h
  | _, _, .cons (v := v) h0 k, 0, m, h => by
    simp at h
    subst h
    exact ⟨v, rfl, h0⟩
  | _, _, .cons _ k, j + 1, m, h => by
    simp at h
    obtain ⟨u, hu, ha⟩ := k.get j m h
    exact ⟨u, by simpa using hu, ha⟩

theorem At.cell_eq {w : World} {u v : Value} (h : At w v (.cell u)) : v = u := by
  cases h; rfl

/-- The cell of a row. -/
theorem At.get {w : World} {A : Option Addr} {n c : Nat} {e : TypeId} {size : Nat} {ms : List Mem} (h : At w (.slice A n c) (.row e size ms)) (hp : 0 < n) :
    ∃ b off, A = some ⟨b, off, none⟩ ∧ b < w.heap.size ∧ ∀ j m, ms[j]? = some m → ∃ u, w.cell? ⟨b, off + j, none⟩ = some u ∧ At w u m := by
  cases h with
  | nil => omega
  | row hn hl hb hc h =>
    refine ⟨_, _, rfl, hb, fun j m hj => ?_⟩
    obtain ⟨u, hu, ha⟩ := h.get j m hj
    exact ⟨u, hc j u hu, ha⟩

theorem At.form {w : World} {v : Value} {e : TypeId} {size : Nat} {ms : List Mem} (h : At w v (.row e size ms)) : ∃ A n c, v = .slice A n c ∧ ms.length = n * size := by
  cases h with
  | nil A c => exact ⟨A, 0, c, rfl, by simp⟩
  | row hn hl hb hc h => exact ⟨_, _, _, rfl, hl⟩

mutual
/-- A value owns a tree: its rows lie in the blocks S, each in one of its own. -/
inductive Own (w : World) : List Nat → Value → Mem → Prop
  | cell (u : Value) : Own w [] u (.cell u)
  | nil (e : TypeId) (size : Nat) : Own w [] (.slice none 0 0) (.row e size [])
  | row {g n cap : Nat} {e : TypeId} {size : Nat} {xs : List Value} {ms : List Mem} {S : List Nat} (hl : ms.length = n * size) (ho : w.ownsRow 0 e size (.slice (some ⟨g, 0, none⟩) n cap) n xs) (h : OwnL w S xs ms) (hg : g ∉ S) :
      Own w (g :: S) (.slice (some ⟨g, 0, none⟩) n cap) (.row e size ms)
inductive OwnL (w : World) : List Nat → List Value → List Mem → Prop
  | nil : OwnL w [] [] []
  | cons {v : Value} {m : Mem} {vs : List Value} {ms : List Mem} {S T : List Nat} (h : Own w S v m) (k : OwnL w T vs ms) (hd : ∀ b ∈ S, b ∉ T) : OwnL w (S ++ T) (v :: vs) (m :: ms)
end

theorem ownsRow_alike {w w' : World} {base : Nat} {e : TypeId} {size g n cap : Nat} {xs : List Value} (h : w.ownsRow base e size (.slice (some ⟨g, 0, none⟩) n cap) n xs) (hk : w'.heap[g]? = w.heap[g]?) :
    w'.ownsRow base e size (.slice (some ⟨g, 0, none⟩) n cap) n xs := by
  refine ⟨h.1, ?_⟩
  rcases h.2 with ⟨h', _⟩ | ⟨g', cap', cur, e0, hb, hgg, rest⟩
  · cases h'
  · injection e0 with e1 _ e3
    injection e1 with e1
    injection e1 with e1
    subst e1; subst e3
    exact .inr ⟨g, cap, cur, rfl, hb, hk.trans hgg, rest⟩

mutual
theorem Own.alike {w w' : World} : ∀ {S : List Nat} {v : Value} {m : Mem}, Own w S v m → (∀ b ∈ S, w'.heap[b]? = w.heap[b]?) → Own w' S v m
  | _, _, _, .cell u, _ => .cell u
  | _, _, _, .nil e size, _ => .nil e size
  | _, _, _, .row hl ho h hg, hk => .row hl (ownsRow_alike ho (hk _ List.mem_cons_self)) (h.alike fun b hb => hk b (List.mem_cons_of_mem _ hb)) hg
theorem OwnL.alike {w w' : World} : ∀ {S : List Nat} {vs : List Value} {ms : List Mem}, OwnL w S vs ms → (∀ b ∈ S, w'.heap[b]? = w.heap[b]?) → OwnL w' S vs ms
  | _, _, _, .nil, _ => .nil
  | _, _, _, .cons h k hd, hk => .cons (h.alike fun b hb => hk b (List.mem_append_left _ hb)) (k.alike fun b hb => hk b (List.mem_append_right _ hb)) hd
end

mutual
theorem Own.lt {w : World} : ∀ {S : List Nat} {v : Value} {m : Mem}, Own w S v m → ∀ b ∈ S, b < w.heap.size
  | _, _, _, .cell u, b, hb => by simp at hb
  | _, _, _, .nil e size, b, hb => by simp at hb
  | _, _, _, .row hl ho h hg, b, hb => by
    rcases List.mem_cons.1 hb with e | e
    · subst e; exact (ho.lt _ rfl).2
    · exact h.lt b e
theorem OwnL.lt {w : World} : ∀ {S : List Nat} {vs : List Value} {ms : List Mem}, OwnL w S vs ms → ∀ b ∈ S, b < w.heap.size
  | _, _, _, .nil, b, hb => by simp at hb
  | _, _, _, .cons h k hd, b, hb => by
    rcases List.mem_append.1 hb with e | e
    · exact h.lt b e
    · exact k.lt b e
end

theorem Own.keep {w w' : World} {S : List Nat} {v : Value} {m : Mem} (h : Own w S v m) (hb : Below w.heap.size w w') : Own w' S v m :=
  h.alike fun b hb' => hb.block b (h.lt b hb')

theorem OwnL.len {w : World} : ∀ {S : List Nat} {vs : List Value} {ms : List Mem}, OwnL w S vs ms → vs.length = ms.length
  | _, _, _, .nil => rfl
  | _, _, _, .cons _ k _ => by rw [List.length_cons, List.length_cons, k.len]

mutual
theorem Own.at_ {w : World} : ∀ {S : List Nat} {v : Value} {m : Mem}, Own w S v m → At w v m
  | _, _, _, .cell u => .cell u
  | _, _, _, .nil e size => .nil none 0 e size (fun _ _ => rfl)
  | _, _, _, .row (g := g) (n := n) (cap := cap) (e := e) (size := size) (xs := xs) hl ho h hg => by
    rcases Nat.eq_zero_or_pos n with h0 | h0
    · subst h0
      have : ∀ l : List Mem, l.length = 0 * size → l = [] := fun l hl => List.eq_nil_of_length_eq_zero (by simpa using hl)
      rw [this _ hl]
      exact .nil _ _ _ _ (fun _ h => by cases h)
    · refine .row h0 hl (ho.lt g rfl).2 (fun j u hj => ?_) h.at_
      rw [Nat.zero_add]
      have := ho.cells (g := g) rfl j u hj
      have hadd : (⟨g, 0, none⟩ : Addr).add j = ⟨g, j, none⟩ := by unfold Addr.add; split <;> simp_all
      rwa [hadd] at this
theorem OwnL.at_ {w : World} : ∀ {S : List Nat} {vs : List Value} {ms : List Mem}, OwnL w S vs ms → AtL w vs ms
  | _, _, _, .nil => .nil
  | _, _, _, .cons h k _ => .cons h.at_ k.at_
end

/-- A plain cell of a list of cells gets another value. -/
theorem OwnL.setCell {w : World} : ∀ {S : List Nat} {vs : List Value} {ms : List Mem}, OwnL w S vs ms → ∀ (j : Nat) (u u' : Value), ms[j]? = some (.cell u) → OwnL w S (vs.set j u') (ms.set j (.cell u'))
  | _, _, _, .nil, j, u, u', h => by simp at h
  | _, _, _, .cons (T := T) h0 k hd, 0, u, u', h => by
    simp at h
    subst h
    cases h0
    exact .cons (.cell u') k hd
  | _, _, _, .cons h0 k hd, j + 1, u, u', h => by
    simp at h
    exact .cons h0 (k.setCell j u u' h) hd

/-- A cell that owns nothing gets a value with a tree of its own. -/
theorem OwnL.fill {w : World} {R : List Nat} {u' : Value} {m' : Mem} (hn : Own w R u' m') : ∀ {S : List Nat} {vs : List Value} {ms : List Mem}, OwnL w S vs ms → (∀ b ∈ R, b ∉ S) → ∀ (j : Nat) (u : Value) (m : Mem), vs[j]? = some u → ms[j]? = some m → (∀ T, Own w T u m → T = []) →
    ∃ S', OwnL w S' (vs.set j u') (ms.set j m') ∧ ∀ b, b ∈ S' ↔ b ∈ R ∨ b ∈ S
  | _, _, _, .nil, _, j, u, m, _, h, _ => by simp at h
  | _, _, _, .cons (S := S) (T := T) h0 k hd, hr, 0, u, m, hu, hm, he => by
    simp at hu hm
    subst hu; subst hm
    have e := he _ h0
    subst e
    refine ⟨R ++ T, .cons hn k fun b hb ht => hr b hb (List.mem_append_right _ ht), fun b => ?_⟩
    rw [List.nil_append, List.mem_append]
  | _, _, _, .cons (S := S) (T := T) h0 k hd, hr, j + 1, u, m, hu, hm, he => by
    simp at hu hm
    obtain ⟨S', h1, h2⟩ := k.fill hn (fun b hb ht => hr b hb (List.mem_append_right _ ht)) j u m hu hm he
    refine ⟨S ++ S', .cons h0 h1 (fun b hb hs => ?_), fun b => ?_⟩
    · rcases (h2 b).1 hs with h | h
      · exact hr b h (List.mem_append_left _ hb)
      · exact hd b hb h
    · rw [List.mem_append, List.mem_append, h2]
      constructor
      · rintro (h | h | h)
        · exact .inr (.inl h)
        · exact .inl h
        · exact .inr (.inr h)
      · rintro (h | h | h)
        · exact .inr (.inl h)
        · exact .inl h
        · exact .inr (.inr h)

/-- Behind a row more cells. -/
theorem OwnL.append {w : World} : ∀ {S T : List Nat} {vs us : List Value} {ms ns : List Mem}, OwnL w S vs ms → OwnL w T us ns → (∀ b ∈ S, b ∉ T) → OwnL w (S ++ T) (vs ++ us) (ms ++ ns)
  | _, _, _, _, _, _, .nil, k, _ => k
  | _, _, _, _, _, _, .cons (S := S) (T := T) h k' hd, k, hn => by
    rw [List.append_assoc, List.cons_append, List.cons_append]
    refine .cons h (k'.append k fun b hb => hn b (List.mem_append_right _ hb)) fun b hb ht => ?_
    rcases List.mem_append.1 ht with e | e
    · exact hd b hb e
    · exact hn b (List.mem_append_left _ hb) e

theorem ownL_cells (w : World) : ∀ vs : List Value, OwnL w [] vs (vs.map .cell)
  | [] => .nil
  | v :: r => .cons (S := []) (.cell v) (ownL_cells w r) (fun b hb => by simp at hb)

theorem AtL.append {w : World} : ∀ {vs us : List Value} {ms ns : List Mem}, AtL w vs ms → AtL w us ns → AtL w (vs ++ us) (ms ++ ns)
  | _, _, _, _, .nil, k => k
  | _, _, _, _, .cons h k', k => .cons h (k'.append k)

end Go.Proofs.Ytnomidnjglbedaa
