/-
  A row of numbers is put behind rows of the call's own: as a law for the walk; all patterns, in plain words. Rows of the call's own that are handed on one after the other: plain words, no program is walked here.
-/
import Derived.Test.YtnamlgacjhnpnaaGreatKReduced11
import Derived.Test.YtnamlgacjhnpnaaGreatKReduced13
import Derived.Deep.AppendLies
section
namespace Go.Proofs.YtnamlgacjhnpnaaGreat
open Go.RowKit Go.Sort
set_option linter.unusedVariables false

theorem own_split {w : World} {T : List Nat} {v : Value} {ls : List (List Int)} (h : Own w T v (rowsMem ls)) :
    ∃ xs S, w.ownsRow 0 24 1 v ls.length xs ∧ OwnL w S xs (encR ls) ∧ T = v.ownBlock.toList ++ S ∧ (∀ k, v.ownBlock = some k → k ∉ S) := by
  unfold rowsMem at h
  generalize hm : encR ls = ms at h
  cases h with
  | nil =>
    have hl := encR_len ls
    rw [hm] at hl
    have h0 : ls.length = 0 := by simpa using hl.symm
    rw [h0]
    exact ⟨[], [], World.ownsRow_nil w _ _ _, .nil, rfl, fun k h => by cases h⟩
  | row hl ho hL hg =>
    subst hm
    rw [encR_len] at hl
    rename_i g n cap xs S'
    have en : n = ls.length := by omega
    subst en
    exact ⟨xs, S', ho, hL, rfl, fun k h => by simp [Value.ownBlock] at h; exact h ▸ hg⟩

theorem own_intSlice {w : World} {R : List Nat} {u : Value} {l : List Int} (h : Own w R u (intMem l)) : ∃ A c, u = .slice A l.length c ∧ ConstAtR w A c l := by
  obtain ⟨A, c, rfl, hA⟩ := at_intRow h.at_
  exact ⟨A, c, rfl, hA, fun e => by subst e; exact own_nilcap h⟩

set_option maxRecDepth 100000 in
/-- rows = append(rows, row) -/
theorem wpList_append_rows {w : World} {ops : Array Oper} {rest : List Oper} {o : Oper} {a : Act} {Q : Exit → Act → World → Prop} (hgd : o.guard = none) (s x : Operand)
    (ho : o.op = .call { callee := .builtin .append, args := #[s, x], argTypes := #[25, 25] })
    (v : Value) (T : List Nat) (ls : List (List Int)) (hs : a.eval s = v) (hown : Own w T v (rowsMem ls))
    (ad : Addr) (u : Value) (l : List Int) (R : List Nat) (hx : a.eval x = .slice (some ad) 1 1) (hcell : ∀ j y, [u][j]? = some y → w.cell? (ad.add j) = some y) (hR : Own w R u (intMem l)) (hd : ∀ b ∈ T, b ∉ R) (hn : ls.length + 1 ≤ 16777216)
    (h : ∀ g cap T' w', Own w' T' (.slice (some ⟨g, 0, none⟩) (ls.length + 1) cap) (rowsMem (ls ++ [l])) → (∀ b ∈ T', b ∈ T ∨ b ∈ R ∨ b = w.heap.size) → Only T w w' → wpList Tryz.prog ops Q rest (a.put o.dst (.slice (some ⟨g, 0, none⟩) (ls.length + 1) cap)) w') : wpList Tryz.prog ops Q (o :: rest) a w := by
  obtain ⟨i0, hi0, hz0, hz1, hz2⟩ := info_parts rows_info
  obtain ⟨xs, S, hrow, hL, rfl, hnS⟩ := own_split hown
  have hone : ∀ y ∈ [u], y.oneCell' = true := by
    obtain ⟨A, c, rfl, _⟩ := own_intSlice hR
    intro y hy
    simp at hy
    subst hy
    rfl
  refine wpList_append_lies _ hgd s x 25 ho 0 24 i0 (.slice none 0 0) 1 24 Tryz.underlying25 hi0 hz0 hz1 hz2 rfl (by decide) v ls.length xs hs hrow ad 1 1 [u] hx rfl hcell hone (by decide) (by unfold maxLen; omega) (by omega) (Nat.zero_le _) _ rfl fun g cap w' h1 h2 h3 h4 => ?_
  have hL2 := hL.alike (w' := w') (fun b hb => h2.block b (hL.lt b hb) (fun e => hnS b e.symm hb))
  have hR2 := hR.alike (w' := w') (fun b hb => h2.block b (hR.lt b hb) (fun e => hd b (by rw [← e]; simp) hb))
  have hdis : ∀ b ∈ S, b ∉ R ++ [] := fun b hb hr => hd b (List.mem_append_right _ hb) (by simpa using hr)
  have hL3 := hL2.append (OwnL.cons hR2 .nil (fun b _ hb => by simp at hb)) hdis
  have hgn : g ∉ S ++ (R ++ []) := by
    intro hm
    rw [List.append_nil] at hm
    rcases h3 with h3 | h3
    · rcases List.mem_append.1 hm with h5 | h5
      · exact hnS g h3 h5
      · exact hd g (by rw [h3]; simp) h5
    · rcases List.mem_append.1 hm with h5 | h5
      · have := hL.lt g h5; omega
      · have := hR.lt g h5; omega
  refine h g cap (g :: (S ++ (R ++ []))) w' (.row (by rw [encR_len, List.length_append]; simp) h1 (by rw [encR_append]; exact hL3) hgn) (fun b hb => ?_) (Only.of_grown h2 (fun k e => by rw [e]; simp))
  rcases List.mem_cons.1 hb with h5 | h5
  · subst h5
    rcases h3 with h3 | h3
    · exact .inl (by rw [h3]; simp)
    · exact .inr (.inr h3)
  · rw [List.append_nil] at h5
    rcases List.mem_append.1 h5 with h6 | h6
    · exact .inl (List.mem_append_right _ h6)
    · exact .inr (.inl h6)

/-- A copy of numbers that are there, or of nil. -/
theorem l1Copy_ints (A : Option Addr) (c : Nat) (l : List Int) (w : World) (hA : IntsAt w A l) (hz : A = none → c = 0) (hl : l.length ≤ 1099511627776) :
    Calls Tryz.prog 95 #[.slice A l.length c] w (NewInts l w) := by
  have hb : Below w.heap.size w (w.alloc (.cells #[] 3)) := (Below.refl _ _).alloc (Nat.le_refl _) _
  have ho : (w.alloc (.cells #[] 3)).ownsRow w.heap.size 3 1 (.slice (some ⟨w.heap.size, 0, none⟩) 0 0) 0 [] := World.ownsRow_lit w #[] 0 (Nat.le_refl _) (by decide) rfl
  have hA2 := hA.below hb
  clear hA
  go_enter Tryz.func95, Tryz.ntmps95
  go_wp2_with (at_builtin; refine wpList_append_ints rfl (.tmp 3) (.tmp 4) rfl w.heap.size _ 0 [] rfl ho A c l rfl hA2 hz ?c3 ?c5 ?_)
  case c3 => omega
  case c5 => simp
  intro v2 w2 ho3 hg
  have hb4 : Below w.heap.size w w2 := below_own hb ho (Nat.le_refl _) (by simp) hg
  clear ho hg hb hA2
  go_wp2
  go_ret
  exact ⟨_, rfl, by simpa using ho3, hb4⟩

/-- The row at a place of rows of the call's own. -/
theorem own_rowAt {w : World} {T : List Nat} {A : Option Addr} {n c : Nat} {ls : List (List Int)} (h : Own w T (.slice A n c) (rowsMem ls)) {i : Nat} (hi : i < ls.length) :
    ∃ b off A1 c1 T', A = some ⟨b, off, none⟩ ∧ b < w.heap.size ∧ w.cell? ⟨b, off + i, none⟩ = some (.slice A1 (rwAt ls i).length c1) ∧ ConstAtR w A1 c1 (rwAt ls i) ∧ Own w T' (.slice A1 (rwAt ls i).length c1) (intMem (rwAt ls i)) ∧ ∀ b ∈ T', b ∈ T := by
  obtain ⟨xs, S, hrow, hL, rfl, _⟩ := own_split h
  obtain ⟨u, T', hu, ho, hsub, _⟩ := hL.focus i _ (encR_at hi)
  obtain ⟨A1, c1, rfl, hA⟩ := own_intSlice ho
  rcases hrow.2 with ⟨_, h0⟩ | ⟨g, cap, cur, e, hrest⟩
  · omega
  · injection e with e1 e2 e3
    subst e1; subst e2; subst e3
    refine ⟨g, 0, A1, c1, T', rfl, (hrow.lt g rfl).2, ?_, hA, ho, fun b hb => List.mem_append_right _ (hsub b hb)⟩
    rw [Nat.zero_add]
    exact (hrow.cellAt i (by omega)).trans hu
end Go.Proofs.YtnamlgacjhnpnaaGreat
end

section
namespace Go.Proofs.YtnamlgacjhnpnaaGreat
open Go.RowKit
set_option linter.unusedVariables false

theorem ownL_rows {w : World} : ∀ {ls : List (List Int)} {S : List Nat} {xs : List Value}, OwnL w S xs (encR ls) →
    ∃ T : Nat → List Nat, (∀ j, j < ls.length → ∃ u, xs[j]? = some u ∧ Own w (T j) u (intMem (rwAt ls j))) ∧ (∀ j, ∀ b ∈ T j, b ∈ S) ∧ ∀ j q, j ≠ q → ∀ b ∈ T j, b ∉ T q
  | [], S, xs, _ => ⟨fun _ => [], fun j h => by simp at h, fun _ b h => by simp at h, fun _ _ _ b h => by simp at h⟩
  | l :: r, S, xs, h => by
    have h' : OwnL w S xs (intMem l :: encR r) := h
    cases h' with
    | cons h0 k hd =>
      rename_i v vs S0 T0
      obtain ⟨T, h1, h2, h3⟩ := ownL_rows k
      refine ⟨fun j => match j with | 0 => S0 | j + 1 => T j, fun j hj => ?_, fun j b hb => ?_, fun j q hne b hb => ?_⟩
      · cases j with
        | zero => exact ⟨v, rfl, h0⟩
        | succ j =>
          obtain ⟨u, hu, ho⟩ := h1 j (by simpa using hj)
          exact ⟨u, by simpa using hu, ho⟩
      · cases j with
        | zero => exact List.mem_append_left _ hb
        | succ j => exact List.mem_append_right _ (h2 j b hb)
      · cases j with
        | zero =>
          cases q with
          | zero => exact absurd rfl hne
          | succ q => exact fun hq => hd b hb (h2 q b hq)
        | succ j =>
          cases q with
          | zero => exact fun hq => hd b hq (h2 j b hb)
          | succ q => exact h3 j q (fun e => hne (by rw [e])) b hb

/-- Rows of which the first i have been handed on: the cells that name them, and what each later one owns. -/
structure Left (w : World) (P : List (List Int)) (g off : Nat) (u : Nat → Value) (T : Nat → List Nat) (i : Nat) : Prop where
  lt : g < w.heap.size
  cell : ∀ j, j < P.length → w.cell? ⟨g, off + j, none⟩ = some (u j)
  own : ∀ j, i ≤ j → j < P.length → Own w (T j) (u j) (intMem (rwAt P j))
  dis : ∀ j q, j ≠ q → ∀ b ∈ T j, b ∉ T q
  hd : ∀ j, g ∉ T j

theorem left_of {w : World} {S : List Nat} {v : Value} {P : List (List Int)} (h : Own w S v (rowsMem P)) (hp : 0 < P.length) :
    ∃ g off c u T, v = .slice (some ⟨g, off, none⟩) P.length c ∧ Left w P g off u T 0 ∧ (∀ j, ∀ b ∈ T j, b ∈ S) ∧ g ∈ S := by
  obtain ⟨xs, S', hrow, hL, rfl, hn⟩ := own_split h
  obtain ⟨T, h1, h2, h3⟩ := ownL_rows hL
  rcases hrow.2 with ⟨_, h0⟩ | ⟨g, cap, cur, rfl, _⟩
  · omega
  · have hg := hn g rfl
    refine ⟨g, 0, cap, fun j => xs.getD j undef, T, rfl, ⟨(hrow.lt g rfl).2, fun j hj => ?_, fun j _ hj => ?_, h3, fun j hm => hg (h2 j g hm)⟩, fun j b hb => List.mem_append_right _ (h2 j b hb), by simp [Value.ownBlock]⟩
    · obtain ⟨u, hu, _⟩ := h1 j hj
      rw [Nat.zero_add, hrow.cellAt j (by omega), hu]
      simp [List.getD_eq_getElem?_getD, hu]
    · obtain ⟨u, hu, ho⟩ := h1 j hj
      simpa [List.getD_eq_getElem?_getD, hu] using ho

theorem Left.next {w : World} {P : List (List Int)} {g off : Nat} {u : Nat → Value} {T : Nat → List Nat} {i : Nat} (h : Left w P g off u T i) : Left w P g off u T (i + 1) :=
  ⟨h.lt, h.cell, fun j hi hj => h.own j (by omega) hj, h.dis, h.hd⟩
theorem Left.only {w w' : World} {P : List (List Int)} {g off : Nat} {u : Nat → Value} {T : Nat → List Nat} {i : Nat} {U : List Nat} (h : Left w P g off u T i) (hon : Only U w w') (hg : g ∉ U) (hT : ∀ j, i ≤ j → j < P.length → ∀ b ∈ T j, b ∉ U) : Left w' P g off u T i :=
  ⟨Nat.lt_of_lt_of_le h.lt hon.size, fun j hj => by
    have hb := hon.block g h.lt hg
    have := h.cell j hj
    unfold World.cell? at this ⊢
    simp only at this ⊢
    rw [hb]; exact this,
   fun j hi hj => (h.own j hi hj).alike fun b hb => hon.block b ((h.own j hi hj).lt b hb) (hT j hi hj b hb), h.dis, h.hd⟩
theorem Left.below {w w' : World} {P : List (List Int)} {g off : Nat} {u : Nat → Value} {T : Nat → List Nat} {i : Nat} (h : Left w P g off u T i) (hb : Below w.heap.size w w') : Left w' P g off u T i :=
  ⟨Nat.lt_of_lt_of_le h.lt hb.size, fun j hj => (hb.cell (p := ⟨g, off + j, none⟩) h.lt).trans (h.cell j hj), fun j hi hj => (h.own j hi hj).keep hb, h.dis, h.hd⟩
/-- The next row. -/
theorem Left.row {w : World} {P : List (List Int)} {g off : Nat} {u : Nat → Value} {T : Nat → List Nat} {i : Nat} (h : Left w P g off u T i) (hi : i < P.length) :
    ∃ A c, u i = .slice A (rwAt P i).length c ∧ ConstAtR w A c (rwAt P i) ∧ w.cell? ⟨g, off + i, none⟩ = some (.slice A (rwAt P i).length c) ∧ Own w (T i) (.slice A (rwAt P i).length c) (intMem (rwAt P i)) := by
  have ho := h.own i (Nat.le_refl _) hi
  obtain ⟨A, c, e, hA⟩ := own_intSlice ho
  exact ⟨A, c, e, hA, by rw [h.cell i hi, e], by rw [← e]; exact ho⟩
theorem filter_nextL {P : List (List Int)} {f : List Int → Bool} {i : Nat} (h : i < P.length) : (P.take (i + 1)).filter f = if f (rwAt P i) then (P.take i).filter f ++ [rwAt P i] else (P.take i).filter f := by
  rw [rw_take_next h, List.filter_append]
  by_cases hf : f (rwAt P i) = true
  · simp [hf]
  · simp [hf]
theorem filter_yes {P : List (List Int)} {f : List Int → Bool} {i : Nat} (h : i < P.length) (hf : f (rwAt P i) = true) : (P.take (i + 1)).filter f = (P.take i).filter f ++ [rwAt P i] := by rw [filter_nextL h, if_pos hf]
theorem filter_no {P : List (List Int)} {f : List Int → Bool} {i : Nat} (h : i < P.length) (hf : f (rwAt P i) = false) : (P.take (i + 1)).filter f = (P.take i).filter f := by rw [filter_nextL h, hf]; rfl
theorem filter_take_le (P : List (List Int)) (f : List Int → Bool) (i : Nat) : ((P.take i).filter f).length ≤ P.length := by
  have h1 := List.length_filter_le f (P.take i)
  rw [List.length_take] at h1
  omega
end Go.Proofs.YtnamlgacjhnpnaaGreat
end

